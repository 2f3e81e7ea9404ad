/-
  WindowWild, walked.
-/
import Derived.Test.YtnhgjgoldcplnaaWG03
set_option maxRecDepth 100000
set_option maxHeartbeats 16000000
namespace Go.Proofs.Ytnhgjgoldcplnaa
open Go.RowKit Go.Maps
structure WJ (l : List (Int × List Int)) (k : Nat) (T : List (List Int)) (t : Int) (K : Kp) : Prop where
 len : t = (T.length : Int)
 apart : Apart K
 kept : ∀ p ∈ K, t < p.1 ∧ p ∈ l
 told : ∀ (j : Nat) (y : List Int), T[j]? = some y → ((j : Int), y) ∈ l
 few : K.length + T.length ≤ k
theorem WJ.take {W : Int} {l : List (Int × List Int)} {k : Nat} {T : List (List Int)} {t : Int} {K : Kp} (h : WJ l k T t K) {s : Int} {x : List Int} (hx : (s, x) ∈ l) :
    WJ l (k + 1) (T ++ (takeT W t K s x).1) (takeT W t K s x).2.1 (takeT W t K s x).2.2 := by
 have hfew := h.few
 have hlen := h.len
 unfold takeT
 split
 · rename_i hc
   rw [Bool.and_eq_true] at hc
   have hn := hc.1
   unfold nearT at hn
   rw [Bool.and_eq_true] at hn
   have h1 := of_decide_eq_true hn.1
   have hkl := keepT_len K s x
   have hA : Apart (keepT K s x) := by
    unfold keepT
    split
    · exact h.apart
    · rename_i hn
      exact h.apart.snoc (by cases hl : look K s with
       | none => rfl
       | some y => rw [hl] at hn; simp at hn)
   have hk : ∀ p ∈ keepT K s x, t ≤ p.1 ∧ p ∈ l := by
    intro p hp
    unfold keepT at hp
    split at hp
    · have := h.kept p hp
      exact ⟨by omega, this.2⟩
    · rcases List.mem_append.1 hp with g | g
      · have := h.kept p g
        exact ⟨by omega, this.2⟩
      · rw [List.mem_singleton.1 g]
        exact ⟨h1, hx⟩
   obtain ⟨g1, g2, g3, g4, g5, g6⟩ := runR_gen (K.length + 1) t (keepT K s x) hkl hA (fun p hp => (hk p hp).1)
   refine ⟨?_, g3, fun p hp => ⟨(g4 p hp).2, (hk p (g4 p hp).1).2⟩, fun j y hj => ?_, ?_⟩
   · rw [g1, List.length_append]
     omega
   · rcases Nat.lt_or_ge j T.length with hl | hl
     · rw [List.getElem?_append_left hl] at hj
       exact h.told j y hj
     · rw [List.getElem?_append_right hl] at hj
       have := (hk _ (g2 _ y hj)).2
       rw [hlen, show (T.length : Int) + ((j - T.length : Nat) : Int) = (j : Int) by omega] at this
       exact this
   · rw [List.length_append]
     omega
 · simp only [List.append_nil]
   exact ⟨hlen, h.apart, h.kept, h.told, by omega⟩
def anyT (l : List (Int × List Int)) (m : Nat) (i : Int) (y : List Int) : Bool := (l.take m).any fun p => decide (p = (i, y))
theorem anyT_succ {l : List (Int × List Int)} {m : Nat} {i : Int} {y : List Int} {s : Int} {x : List Int} (h : l[m]? = some (s, x)) : anyT l (m + 1) i y = (anyT l m i y || decide ((s, x) = (i, y))) := by
 unfold anyT
 rw [List.take_add_one, h]
 simp
theorem anyT_all {l : List (Int × List Int)} {m : Nat} {i : Int} {y : List Int} (hm : l.length ≤ m) (h : (i, y) ∈ l) : anyT l m i y = true := by
 unfold anyT
 rw [List.take_of_length_le hm, List.any_eq_true]
 exact ⟨_, h, decide_eq_true rfl⟩
theorem evb {S : Nat → Prop} {w w' : World} {col' : Nat → Nat} (h : Ev S (fun _ => 99) w col' w') (h9 : ¬ S 99) : Below w.heap.size w w' := h.keep.below (Nat.le_refl _) fun _ _ h => h9 h
theorem wild_any {w : World} {v : Value} {l : List (Int × List Int)} (W : Int) (h : Sl EP (· < w.heap.size) (· < w.heap.size) w v l) (hl : l.length ≤ 9223372036854775807) (hs : ∀ x ∈ l, wf64 x.1 ∧ x.2.length ≤ 9223372036854775807) :
    Calls Try.prog 8 #[.int .i64 W, v] w fun e w' => e = .returned (.bool true) ∧ Below w.heap.size w w' := by
 obtain ⟨p, c, rfl, hlc, _, hne, hce⟩ := h.pieces
 have HK : Hid (∀ j, j < l.length → ∃ (b o : Nat) (s : Int) (x : List Int) (pu : Option Addr) (cu : Nat), p = some ⟨b, o, none⟩ ∧ b < w.heap.size ∧ w.cell? ⟨b, o + j * 2, none⟩ = some (.int .i64 s) ∧ w.cell? ⟨b, o + j * 2 + 1, none⟩ = some (.slice pu x.length cu) ∧ Sl EU (· < w.heap.size) (· < w.heap.size) w (.slice pu x.length cu) x ∧ l[j]? = some (s, x) ∧ wf64 s ∧ x.length ≤ 9223372036854775807) := fun j hj => by
  obtain ⟨b, o, rfl, hb⟩ := hne (by rintro rfl; simp at hj)
  obtain ⟨u, h1, h2, h3⟩ := hce b o rfl j l[j] (List.getElem?_eq_getElem hj)
  have h4 := hs l[j] (List.getElem_mem hj)
  obtain ⟨pu, cu, rfl⟩ := h3.lenv
  exact ⟨b, o, _, _, pu, cu, rfl, hb, h1, h2, h3, List.getElem?_eq_getElem hj, h4.1, h4.2⟩
 have HLN : Hid (∀ m, l.length ≤ m → ∀ (i : Int) (y : List Int), (i, y) ∈ l → anyT l m i y = true) := fun m hm i y hy => anyT_all hm hy
 clear h hne hce hs
 generalize l.length = n at *
 have hnr := newReceiver_any W w
 unfold NewRP at hnr
 by_cases hn2 : n ≤ 200
 · cases hwd : wideT W with
   | false =>
    rw [hwd] at hnr
    simp only [Bool.false_eq_true, if_false] at hnr
    have haw := awake_any w
    go_enter Try.func8, Try.ntmps8
    go_wp2_with (first
     | (go_at_call 22; refine hnr.mono ?_; rintro e w1 ⟨rfl, rfl⟩)
     | (go_at_call 12; refine haw.mono ?_; rintro e w3 ⟨rfl, hb3⟩))
    go_ret
    exact ⟨rfl, hb3⟩
   | true =>
    rw [hwd] at hnr
    simp only [if_true] at hnr
    go_enter Try.func8, Try.ntmps8
    go_upto_region 4 with (go_at_call 22; refine hnr.mono ?_; rintro e w1 ⟨rfl, hw1⟩)
    have hR1 : PR 2 (paintAll (fun _ => 99) w 2) w1 (w.heap.size + 1) W 0 [] := by rw [hw1]; exact PR.new hwd
    have hE1 : Ev S7 (fun _ => 99) w (paintAll (fun _ => 99) w 2) w1 := by
     rw [hw1]
     exact Ev.paintAll (Keep.of_below (((Below.refl _ _).alloc (Nat.le_refl _) _).alloc (by simp) _)) _
    have HR1 : Hid (PR 2 (paintAll (fun _ => 99) w 2) w1 (w.heap.size + 1) W 0 []) := hR1
    have HE1 : Hid (Ev S7 (fun _ => 99) w (paintAll (fun _ => 99) w 2) w1) := hE1
    generalize paintAll (fun _ => 99) w 2 = c1 at *
    try rw [← hw1]
    clear hnr hw1 hR1 hE1 hwd
    obtain ⟨rb, hrb⟩ : ∃ rb, w.heap.size + 1 = rb := ⟨_, rfl⟩
    rw [hrb] at HR1
    try rw [hrb]
    go_upto_region 8 with fail
    go_loopw [7, 8] (fun tv iv wr => ∃ (k : Nat) (cr : Nat → Nat) (T : List (List Int)) (t : Int) (K : Kp), k ≤ n ∧ iv = .int .i64 (k : Int) ∧ Hid (Rc EB 6 cr wr tv T) ∧ Hid (PR 2 cr wr rb W t K) ∧ Hid (WJ l k T t K) ∧ Hid (Ev S7 (fun _ => 99) w cr wr)) (fun _ iv _ => n - (intOf iv).toNat)
    case atStart => exact ⟨0, c1, [], 0, [], Nat.zero_le _, rfl, Rw.nil _ _ _ _, HR1.out, ⟨rfl, List.nodup_nil, fun p h => (by cases h), fun j y h => (by simp at h), Nat.le_refl _⟩, HE1.out⟩
    case round =>
     obtain ⟨k, cr, T, t, K, hk, rfl, HT, HR, HJ, HE⟩ := hrel
     have hbw := evb HE.out (by unfold S7; omega)
     have HBW : Hid (Below w.heap.size w wr) := hbw
     by_cases hkn : k < n
     · obtain ⟨b, o, s, x, pu, cu, rfl, hb, h1, h2, h3, h4, h5, h6⟩ := HK.out k hkn
       have y1 : wr.cell? ⟨b, o + k * 2, none⟩ = _ := (World.cell?_of_block (a := ⟨b, o + k * 2, none⟩) (hbw.block b hb)).trans h1
       have y2 : wr.cell? ⟨b, o + k * 2 + 1, none⟩ = _ := (World.cell?_of_block (a := ⟨b, o + k * 2 + 1, none⟩) (hbw.block b hb)).trans h2
       obtain ⟨ml, hml⟩ : ∃ ml, x.length = ml := ⟨_, rfl⟩
       have HML : Hid (x.length = ml) := hml
       rw [hml] at y2 h6
       have HX : Hid (Sl EU (· < w.heap.size) (fun _ => False) w (.slice pu ml cu) x) := by rw [← hml]; exact h3.anyD
       have HS : Hid (wf64 s) := h5
       have HLM : Hid ((s, x) ∈ l) := List.mem_of_getElem? h4
       have hfew := HJ.out.few
       have hjl := HJ.out.len
       obtain ⟨qt, kt, hvt⟩ := HT.out.slice
       obtain ⟨tl, htl⟩ : ∃ tl, T.length = tl := ⟨_, rfl⟩
       have HTL : Hid (T.length = tl) := htl
       rw [htl] at hvt hfew hjl
       subst hvt
       clear h2 h3 h4 h5 hml hbw htl
       by_cases hbig : ml ≤ 500
       · go_upto_region 12 with fail
         have ha := heap_alloc_new wr (.cells #[] 5)
         have hb1 : Below wr.heap.size wr (wr.alloc (.cells #[] 5)) := (Below.refl _ _).alloc (Nat.le_refl _) _
         have he1 : Ev (fun _ => False) cr wr (paint cr wr (some wr.heap.size) 7) (wr.alloc (.cells #[] 5)) := Ev.paint (Keep.of_below hb1) _ _
         have HX1 : Hid (Sl EU (· < w.heap.size) (fun _ => False) (wr.alloc (.cells #[] 5)) (.slice pu ml cu) x) := HX.out.carry (Same.of_below (belowP HBW.out hb1) fun k hk => hk) (fun _ h => h.elim) (fun _ h => h) fun _ h => h
         have HM1 : Hid (Rc EU 7 (paint cr wr (some wr.heap.size) 7) (wr.alloc (.cells #[] 5)) (.slice (some ⟨wr.heap.size, 0, none⟩) 0 0) []) := (Rw.made EU (Cl (paint cr wr (some wr.heap.size) 7) 0 (wr.alloc (.cells #[] 5))) wr).carry (Same.refl _ _) (Same.refl _ _) (fun k _ hk => by subst hk; exact ⟨paint_it (Nat.le_refl _), by simp⟩) fun _ h => h
         have HE1' : Hid (Ev S7 (fun _ => 99) w (paint cr wr (some wr.heap.size) 7) (wr.alloc (.cells #[] 5))) := HE.out.trans he1 fun _ h => h.elim
         have HT1 : Hid (Rc EB 6 (paint cr wr (some wr.heap.size) 7) (wr.alloc (.cells #[] 5)) (.slice qt tl kt) T) := HT.out.ev he1 (fun h => h) fun h => h
         have HR1' : Hid (PR 2 (paint cr wr (some wr.heap.size) 7) (wr.alloc (.cells #[] 5)) rb W t K) := HR.out.ev he1 (fun h => h) fun h => h
         have hM1 := HM1.out
         have hlm : ([] : List Int).length + x.length ≤ 1000000 := by have := HML.out; simp; omega
         have y3 : (wr.alloc (.cells #[] 5)).cell? ⟨b, o + k * 2 + 1, none⟩ = _ := (World.cell?_of_block (a := ⟨b, o + k * 2 + 1, none⟩) (hb1.block b (Nat.lt_of_lt_of_le hb HBW.out.size))).trans y2
         clear he1 hb1 ha
         generalize paint cr wr (some wr.heap.size) 7 = c2 at *
         go_upto_region 13 with (first
          | (at_builtin; refine wpList_app rfl (.tmp 38) (.tmp 43) 37 rfl Try.underlying37 rfl hM1 rfl HX1.out hlm ?_; rintro v' w4 hg hat ⟨q', c', hv'⟩ HD
             rw [List.nil_append, HML.out] at hv'
             subst hv'))
         obtain ⟨f1, f2, -⟩ := row_end HM1.out (by decide) (Below.refl _ _) hg hat HD.out (fun k hk => hk.elim)
         have HB4 : Hid (Rc EU 7 (paint c2 (wr.alloc (.cells #[] 5)) (Value.slice q' ml c').ownBlock 7) w4 (.slice q' ml c') x) := f2
         have HE4 : Hid (Ev S7 (fun _ => 99) w (paint c2 (wr.alloc (.cells #[] 5)) (Value.slice q' ml c').ownBlock 7) w4) := HE1'.out.trans f1 fun i h => by rw [h]; exact ⟨by decide, by decide⟩
         have HT4 : Hid (Rc EB 6 (paint c2 (wr.alloc (.cells #[] 5)) (Value.slice q' ml c').ownBlock 7) w4 (.slice qt tl kt) T) := HT1.out.ev f1 (by decide) (by decide)
         have HR4 : Hid (PR 2 (paint c2 (wr.alloc (.cells #[] 5)) (Value.slice q' ml c').ownBlock 7) w4 rb W t K) := HR1'.out.ev f1 (by decide) (by decide)
         clear hg hat HD f1 f2 hM1 HM1 HE1' HT1 HR1' HX1 y1 y2 y3
         generalize paint c2 (wr.alloc (.cells #[] 5)) (Value.slice q' ml c').ownBlock 7 = c4 at *
         have y1 : w4.cell? ⟨b, o + k * 2, none⟩ = _ := (World.cell?_of_block (a := ⟨b, o + k * 2, none⟩) ((evb HE4.out (by unfold S7; omega)).block b hb)).trans h1
         have hta := take_far HR4.out (by decide) (by omega) (by omega) (ix := 7) HB4.out.sl.anyD HS.out (by have := HML.out; omega)
         have HJ2 : Hid (WJ l (k + 1) (T ++ (takeT W t K s x).1) (takeT W t K s x).2.1 (takeT W t K s x).2.2) := HJ.out.take HLM.out
         have hTM : T.length + (takeT W t K s x).1.length ≤ 1000000 := by have := HJ2.out.few; rw [List.length_append] at this; omega
         obtain ⟨nl, hnl⟩ : ∃ nl, (takeT W t K s x).1.length = nl := ⟨_, rfl⟩
         have HNL : Hid ((takeT W t K s x).1.length = nl) := hnl
         clear hnl h1
         go_upto_region 14 with (first
          | (go_at_call 24; refine hta.mono ?_; rintro e w5 ⟨v5, rfl, c5, hE5, hP5, hV5⟩
             obtain ⟨p5, k5, hp5⟩ := hV5.lenv
             rw [HNL.out] at hp5
             subst hp5
             have HE5 : Hid (Ev (· = 2) c4 w4 c5 w5) := hE5
             have HP5 : Hid (PR 2 c5 w5 rb W (takeT W t K s x).2.1 (takeT W t K s x).2.2) := hP5
             have HV5 : Hid (Vw EB c5 w5 (.slice p5 nl k5) (takeT W t K s x).1) := hV5
             have HT5 : Hid (Rc EB 6 c5 w5 (.slice qt tl kt) T) := HT4.out.ev hE5 (by decide) (by decide)
             clear hta hE5 hP5 hV5)
          | (at_builtin; refine wpList_app rfl (.tmp 45) (.tmp 54) 31 rfl Try.underlying31 rfl HT5.out rfl HV5.out hTM ?_; rintro v' w6 hg hat ⟨q6, k6, hv6⟩ HD
             obtain ⟨n6, hn6⟩ : ∃ n6, (T ++ (takeT W t K s x).1).length = n6 := ⟨_, rfl⟩
             rw [hn6] at hv6
             subst hv6
             clear hn6))
         obtain ⟨f1, f2, -⟩ := row_end HT5.out (by decide) (Below.refl _ _) hg hat HD.out (fun k hk => .inl hk)
         have HT6 : Hid (Rc EB 6 (paint c5 w5 (Value.slice q6 n6 k6).ownBlock 6) w6 (.slice q6 n6 k6) (T ++ (takeT W t K s x).1)) := f2
         have HE56 : Hid (Ev S7 c4 w4 (paint c5 w5 (Value.slice q6 n6 k6).ownBlock 6) w6) := (HE5.out.mono fun i h => by rw [h]; exact ⟨by decide, by decide⟩).trans f1 fun i h => by rw [h]; exact ⟨by decide, by decide⟩
         have HE6 : Hid (Ev S7 (fun _ => 99) w (paint c5 w5 (Value.slice q6 n6 k6).ownBlock 6) w6) := HE4.out.trans HE56.out fun _ h => h
         have HR6 : Hid (PR 2 (paint c5 w5 (Value.slice q6 n6 k6).ownBlock 6) w6 rb W (takeT W t K s x).2.1 (takeT W t K s x).2.2) := HP5.out.ev f1 (by decide) (by decide)
         have HB6 : Hid (Rc EU 7 (paint c5 w5 (Value.slice q6 n6 k6).ownBlock 6) w6 (.slice q' ml c') x) := (HB4.out.ev HE5.out (by decide) (by decide)).ev f1 (by decide) (by decide)
         clear hg hat HD f1 f2 HE5 HP5 HV5 HT5 HT4 HR4 HB4 HE56 y1
         generalize paint c5 w5 (Value.slice q6 n6 k6).ownBlock 6 = c6 at *
         obtain ⟨_, _, e, -, -, -, hcl⟩ := HB6.out.sl.bytes
         rw [HML.out] at e
         cases e
         have HCL : Hid (0 < ml → ∃ g og, q' = some ⟨g, og, none⟩ ∧ Cl c6 7 w6 g ∧ (∃ cur, w6.heap[g]? = some (.cells cur 5 (0, 0))) ∧ ∀ j, j < ml → ∃ y, w6.cell? ⟨g, og + j, none⟩ = some (.int .u8 y)) := fun h0 => by
          obtain ⟨g, og, e1, e2, e3⟩ := hcl (by rintro rfl; have := HML.out; simp at this; omega)
          refine ⟨g, og, e1, e2, ?_, fun j hj => ?_⟩
          · obtain ⟨_, _, how, _⟩ := HB6.out
            rcases how.2 with ⟨e, -⟩ | ⟨g', cap, cur, e, -, hgg, -⟩
            · rw [e1] at e
              cases e
            · rw [e1] at e
              cases e
              exact ⟨_, hgg⟩
          have hjx : j < x.length := by rw [HML.out]; exact hj
          exact ⟨_, e3 j x[j] (List.getElem?_eq_getElem hjx)⟩
         clear hcl
         go_upto_region 15 with fail
         go_loopw [58] (fun jv wx => ∃ j : Nat, j ≤ ml ∧ jv = .int .i64 (j : Int) ∧ Hid (Ev (· = 7) c6 w6 c6 wx) ∧ Hid (∀ g og, q' = some ⟨g, og, none⟩ → 0 < ml → (∃ cur, wx.heap[g]? = some (.cells cur 5 (0, 0))) ∧ ∀ i, i < ml → ∃ y, wx.cell? ⟨g, og + i, none⟩ = some (.int .u8 y))) (fun jv _ => ml - (intOf jv).toNat)
         case atStart => exact ⟨0, Nat.zero_le _, rfl, Ev.refl _ _ _, fun g og e h0 => by obtain ⟨g', og', e1, _, e2⟩ := HCL.out h0; rw [e] at e1; cases e1; exact e2⟩
         case round =>
          obtain ⟨j, hj, rfl, HX2, HY⟩ := hrel
          obtain ⟨wx, rfl⟩ : ∃ z : World, z = wr := ⟨_, rfl⟩
          by_cases hjm : j < ml
          · obtain ⟨g, og, rfl, hg7, -⟩ := HCL.out (by omega)
            obtain ⟨⟨cur, hcur⟩, hcy⟩ := HY.out g og rfl (by omega)
            obtain ⟨y, hy⟩ := hcy j hjm
            have hfz := frozen_of_row wx g (og + j) _ _ hcur
            have HCU : Hid (wx.heap[g]? = some (.cells cur 5 (0, 0))) := hcur
            have HCY : Hid (∀ i, i < ml → ∃ y, wx.cell? ⟨g, og + i, none⟩ = some (.int .u8 y)) := hcy
            have HG7 : Hid (c6 g = 7) := hg7.1
            have HYY : Hid (wx.cell? ⟨g, og + j, none⟩ = some (.int .u8 y)) := hy
            clear hg7 hcur hcy
            go_wp2
            go_roundw
            case rel => exact ⟨j + 1, by omega, by go_num, HX2.out.set HG7.out _, fun g' og' e h0 => by
             cases e
             refine ⟨⟨_, heap_setCell_same wx g (og + j) _ _ _ HCU.out⟩, fun i hi => ?_⟩
             by_cases hij : i = j
             · subst hij
               exact ⟨_, World.cell?_setCell_same' _ _ _ (by rw [HYY.out]; rfl)⟩
             · obtain ⟨y', hy'⟩ := HCY.out i hi
               exact ⟨y', (World.cell?_setCell_other _ _ _ _ (by intro e; have := congrArg Addr.off e; simp at this; omega)).trans hy'⟩⟩
            case measure => simp [intOf]; omega
          · obtain rfl : j = ml := by omega
            go_wp2
            go_roundw
            case rel => exact ⟨k + 1, c6, _, _, _, by omega, by go_num, HT6.out.ev HX2.out (by decide) (by decide), HR6.out.ev HX2.out (by decide) (by decide), HJ2.out, HE6.out.trans HX2.out fun i h => by rw [h]; exact ⟨by decide, by decide⟩⟩
            case measure => simp [intOf]; omega
       · go_wp2
         go_ret
         exact ⟨rfl, HBW.out⟩
     · obtain rfl : k = n := by omega
       obtain ⟨wz, rfl⟩ : ∃ z : World, z = wr := ⟨_, rfl⟩
       have hfew := HJ.out.few
       have hjl := HJ.out.len
       obtain ⟨tl, htl⟩ : ∃ tl, T.length = tl := ⟨_, rfl⟩
       have HTL : Hid (T.length = tl) := htl
       obtain ⟨pt, kt, hpt, hkt, -, hneT, hceT⟩ := HT.out.sl.rows
       rw [htl] at hpt hfew hjl hkt
       subst hpt hjl
       have HIM : Hid (∀ i, i < tl → ∀ m, m < k → ∃ (sb so b o : Nat) (s : Int) (x : List Int) (pu : Option Addr) (lu cu : Nat) (pv : Option Addr) (lv cv : Nat) (st st' : ByteArray), pt = some ⟨sb, so, none⟩ ∧ p = some ⟨b, o, none⟩ ∧ wz.cell? ⟨sb, so + i, none⟩ = some (.slice pv lv cv) ∧ wz.cell? ⟨b, o + m * 2, none⟩ = some (.int .i64 s) ∧ wz.cell? ⟨b, o + m * 2 + 1, none⟩ = some (.slice pu lu cu) ∧
           (∀ X : World, X.heap = wz.heap → (convert 37 9 (.slice pu lu cu)).run Try.prog X = .ok (.string st) X) ∧ (∀ X : World, X.heap = wz.heap → (convert 37 9 (.slice pv lv cv)).run Try.prog X = .ok (.string st') X) ∧ (st = st' ↔ x = T.getD i []) ∧ l[m]? = some (s, x)) := by
        intro i hi m hm
        have hit : i < T.length := by omega
        obtain ⟨sb, so, rfl, -⟩ := hneT (by rintro rfl; simp at hit)
        obtain ⟨v1, a1, a2⟩ := hceT sb so rfl i (T.getD i []) (by rw [List.getD_eq_getElem?_getD, List.getElem?_eq_getElem hit]; rfl)
        obtain ⟨b, o, s, x, pu, cu, rfl, hb, h1, h2, h3, h4, -, -⟩ := HK.out m hm
        obtain ⟨pv, cv, rfl⟩ := a2.lenv
        obtain ⟨_, _, _, _, _, ra, _⟩ := a2.bytes
        obtain ⟨_, _, _, _, _, rb, _⟩ := h3.bytes
        have h5 := h3.carry (w' := wz) (Same.of_below hbw fun k hk => hk) (Same.of_below hbw fun k hk => hk) (fun _ h => h) fun _ h => h
        exact ⟨sb, so, b, o, s, x, pu, _, cu, pv, _, cv, strOfNums x, strOfNums (T.getD i []), rfl, rfl, a1, (World.cell?_of_block (a := ⟨b, o + m * 2, none⟩) (hbw.block b hb)).trans h1, (World.cell?_of_block (a := ⟨b, o + m * 2 + 1, none⟩) (hbw.block b hb)).trans h2, fun X hX => conv_bytes (w := X) (h5.carry (fun _ _ => by rw [hX]) (fun _ _ => by rw [hX]) (fun _ h => h) fun _ h => h), fun X hX => conv_bytes (w := X) (a2.carry (fun _ _ => by rw [hX]) (fun _ _ => by rw [hX]) (fun _ h => h) fun _ h => h), ⟨fun h => str_inj rb ra h, fun h => by rw [h]⟩, h4⟩
       have HWA : Hid (∀ j, Calls Try.prog 26 #[.pointer (some ⟨rb, 0, none⟩)] (wz.drewN j) fun e w' => e = .returned (.int .i64 (tl : Int)) ∧ w' = wz.drewN j) := fun j => want_any (HR.out.ev (Ev.drewN (fun _ => False) cr wz j) (fun h => h) fun h => h)
       have HTD : Hid (∀ i, i < tl → anyT l k (i : Int) (T.getD i []) = true) := fun i hi => by
        have hit : i < T.length := by omega
        exact HLN.out k (Nat.le_refl _) _ _ (HJ.out.told i _ (by rw [List.getD_eq_getElem?_getD, List.getElem?_eq_getElem hit]; rfl))
       have htl2 : tl ≤ 200 := by omega
       clear hneT hceT hbw htl hfew HR HT HJ
       go_upto_region 20 with fail
       go_loopw [11] (fun iv wx => ∃ i : Nat, i ≤ tl ∧ iv = .int .i64 (i : Int) ∧ Hid (∃ q, wx = wz.drewN q)) (fun iv _ => tl - (intOf iv).toNat)
       case atStart => exact ⟨0, Nat.zero_le _, rfl, 0, rfl⟩
       case round =>
        obtain ⟨i, hi, rfl, HQ⟩ := hrel
        by_cases hit : i < tl
        · obtain ⟨yT, hyT⟩ : ∃ yT, T.getD i [] = yT := ⟨_, rfl⟩
          have hIM := HIM.out i hit
          rw [hyT] at hIM
          have HIMi := (show Hid _ from hIM)
          have HTi : Hid (anyT l k (i : Int) yT = true) := by have := HTD.out i hit; rw [hyT] at this; exact this
          clear hIM hyT
          go_upto_region 24 with fail
          go_loopw [12, 13] (fun ov mv wx => ∃ m : Nat, m ≤ k ∧ mv = .int .i64 (m : Int) ∧ ov = .bool (anyT l m (i : Int) yT) ∧ Hid (∃ q, wx = wz.drewN q)) (fun _ mv _ => k - (intOf mv).toNat)
          case atStart => exact ⟨0, Nat.zero_le _, rfl, rfl, HQ.out⟩
          case round =>
           obtain ⟨m, hm, rfl, rfl, HQ2⟩ := hrel
           obtain ⟨wx, rfl⟩ : ∃ z : World, z = wr := ⟨_, rfl⟩
           have HH : Hid (wx.heap = wz.heap) := by obtain ⟨q0, hq⟩ := HQ2.out; show _ = _; rw [hq]; rfl
           have HQN : Hid (∀ i, ∃ q, wx.drewN i = wz.drewN q) := fun i => by obtain ⟨q0, hq⟩ := HQ2.out; exact ⟨q0 + i, by rw [hq, World.drewN_drewN]⟩
           by_cases hmk : m < k
           · obtain ⟨sb, so, b, o, s, x, pu, lu, cu, pv, lv, cv, st, st', rfl, rfl, a1, a2, a3, a4, a5, a6, a7⟩ := HIMi.out m hmk
             have hcl : ∀ (b o : Nat) (v : Value), wz.cell? ⟨b, o, none⟩ = some v → wx.cell? ⟨b, o, none⟩ = some v := fun b o v h => (World.cell?_of_block (by rw [HH.out])).trans h
             have g1 := hcl _ _ _ a1
             have g2 := hcl _ _ _ a2
             have g3 := hcl _ _ _ a3
             have hva : ∀ i : Nat, (convert 37 9 (.slice pu lu cu)).run Try.prog (wx.drewN i) = .ok (.string st) (wx.drewN i) := fun i => a4 _ HH.out
             have hvb : ∀ i : Nat, (convert 37 9 (.slice pv lv cv)).run Try.prog (wx.drewN i) = .ok (.string st') (wx.drewN i) := fun i => a5 _ HH.out
             have hsu := anyT_succ (i := (i : Int)) (y := yT) a7
             clear a1 a2 a3 a4 a5 a7 hcl
             cases hb : anyT l m (i : Int) yT with
             | true =>
              have HS : Hid (anyT l (m + 1) (i : Int) yT = true) := by show _ = _; rw [hsu, hb]; rfl
              clear hsu a6
              go_upto_region 26 with fail
              go_quiet (fail)
              go_wp2
              go_roundw
              case rel => exact ⟨m + 1, by omega, by go_num, by rw [HS.out], HQN.out _⟩
              case measure => simp [intOf]; omega
             | false =>
              by_cases hsi : s = (i : Int)
              · subst hsi
                by_cases hst : st = st'
                · have HS : Hid (anyT l (m + 1) (i : Int) yT = true) := by show _ = _; rw [hsu, hb, a6.1 hst]; simp
                  subst hst
                  clear hsu a6
                  go_upto_region 26 with fail
                  go_quiet (fail)
                  go_wp2
                  go_roundw
                  case rel => exact ⟨m + 1, by omega, by go_num, by rw [HS.out], HQN.out _⟩
                  case measure => simp [intOf]; omega
                · have HS : Hid (anyT l (m + 1) (i : Int) yT = false) := by
                    show _ = _
                    rw [hsu, hb, Bool.false_or]
                    exact decide_eq_false fun e => hst (a6.2 (congrArg Prod.snd e))
                  have hne2 : (st.toList == st'.toList) = false := by
                   rw [Bool.eq_false_iff]
                   intro h
                   rw [beq_iff_eq, ByteArray.toList_eq, ByteArray.toList_eq] at h
                   exact hst (ByteArray.ext (Array.toList_inj.1 h))
                  have hne3 : ¬ (st.toList = st'.toList) := by simpa using hne2
                  clear hsu a6
                  go_upto_region 26 with fail
                  go_quiet (fail)
                  go_wp2
                  go_roundw
                  case rel => exact ⟨m + 1, by omega, by go_num, by rw [HS.out], HQN.out _⟩
                  case measure => simp [intOf]; omega
              · have HS : Hid (anyT l (m + 1) (i : Int) yT = false) := by
                  show _ = _
                  rw [hsu, hb, Bool.false_or]
                  exact decide_eq_false fun e => hsi (congrArg Prod.fst e)
                have e1 : (s == (i : Int)) = false := by simpa using hsi
                have e2 : decide (s = (i : Int)) = false := decide_eq_false hsi
                clear hsu a6
                go_upto_region 26 with fail
                go_quiet (fail)
                go_wp2
                go_roundw
                case rel => exact ⟨m + 1, by omega, by go_num, by rw [HS.out], HQN.out _⟩
                case measure => simp [intOf]; omega
           · obtain rfl : m = k := by omega
             have hT := HTi.out
             rw [hT]
             go_wp2
             go_roundw
             case rel => exact ⟨i + 1, by omega, by go_num, HQ2.out⟩
             case measure => simp [intOf]; omega
        · obtain rfl : i = tl := by omega
          obtain ⟨wx, rfl⟩ : ∃ z : World, z = wr := ⟨_, rfl⟩
          have hwa : Calls Try.prog 26 #[.pointer (some ⟨rb, 0, none⟩)] wx fun e w' => e = .returned (.int .i64 (i : Int)) ∧ w' = wx := by
           obtain ⟨q0, hq⟩ := HQ.out
           rw [hq]
           exact HWA.out q0
          have haw := awake_any wx
          have HBX : Hid (Below w.heap.size w wx) := by obtain ⟨q0, hq⟩ := HQ.out; rw [hq]; exact below_drewN HBW.out q0
          go_wp2_with (first
           | (go_at_call 26; refine hwa.mono ?_; rintro e w4 ⟨rfl, rfl⟩)
           | (go_at_call 12; refine haw.mono ?_; rintro e w3 ⟨rfl, hb3⟩))
          go_ret
          exact ⟨rfl, belowP HBX.out hb3⟩
 · go_enter Try.func8, Try.ntmps8
   go_wp2
   go_ret
   exact ⟨rfl, Below.refl _ _⟩
end Go.Proofs.Ytnhgjgoldcplnaa

/-
  WindowTakes, walked.
-/
import Derived.Test.YtnhgjgoldcplnaaDH04
set_option maxRecDepth 100000
set_option maxHeartbeats 16000000
namespace Go.Proofs.Ytnhgjgoldcplnaa
open Go.RowKit Go.Maps
structure TJ (W : Int) (k : Nat) (t : Int) (K : Kp) : Prop where
 pos : 0 ≤ t
 few : t + K.length ≤ k
 apart : Apart K
 near : ∀ p ∈ K, t < p.1 ∧ p.1 < t + W
theorem TJ.len {W : Int} {k : Nat} {t : Int} {K : Kp} (h : TJ W k t K) (hW : wideT W = true) : (K.length : Int) < W := by
 unfold wideT at hW
 simp only [Bool.and_eq_true, decide_eq_true_eq] at hW
 have h1 := nodup_range (W - 1).toNat (t + 1) (K.map fun p : Int × List Int => p.1) h.apart fun x hx => by
  obtain ⟨p, hp, rfl⟩ := List.mem_map.1 hx
  have := h.near p hp
  omega
 rw [List.length_map] at h1
 omega
theorem TJ.take {W : Int} {k : Nat} {t : Int} {K : Kp} (h : TJ W k t K) {s : Int} {x : List Int} :
    TJ W (k + 1) (takeT W t K s x).2.1 (takeT W t K s x).2.2 ∧ (takeT W t K s x).1.length ≤ k + 1 := by
 have hfew := h.few
 have hpos := h.pos
 unfold takeT
 split
 · rename_i hc
   rw [Bool.and_eq_true] at hc
   have hn := hc.1
   unfold nearT at hn
   rw [Bool.and_eq_true] at hn
   have h1 := of_decide_eq_true hn.1
   have h2 := of_decide_eq_true hn.2
   have hkl := keepT_len K s x
   have hA : Apart (keepT K s x) := by
    unfold keepT
    split
    · exact h.apart
    · rename_i hn
      exact h.apart.snoc (by cases hl : look K s with
       | none => rfl
       | some y => rw [hl] at hn; simp at hn)
   have hk : ∀ p ∈ keepT K s x, t ≤ p.1 ∧ p.1 < t + W := by
    intro p hp
    unfold keepT at hp
    split at hp
    · have := h.near p hp
      exact ⟨by omega, this.2⟩
    · rcases List.mem_append.1 hp with g | g
      · have := h.near p g
        exact ⟨by omega, this.2⟩
      · rw [List.mem_singleton.1 g]
        exact ⟨h1, by show s < t + W; omega⟩
   obtain ⟨g1, g2, g3, g4, g5, g6⟩ := runR_gen (K.length + 1) t (keepT K s x) hkl hA (fun p hp => (hk p hp).1)
   refine ⟨⟨by omega, by omega, g3, fun p hp => ⟨(g4 p hp).2, ?_⟩⟩, by omega⟩
   have := (hk p (g4 p hp).1).2
   omega
 · exact ⟨⟨h.pos, by show t + (K.length : Int) ≤ ((k + 1 : Nat) : Int); omega, h.apart, h.near⟩, by simp⟩
theorem ev_under {w w' : World} {col' : Nat → Nat} (h : Ev S7 (fun _ => 99) w col' w') : Below w.heap.size w w' := h.keep.below (Nat.le_refl _) fun _ _ h => by unfold S7 at h; omega
section
variable {P : Program} {ops : Array Oper} {Q : Exit → Act → World → Prop} {md : Region.Mode} {C C' : World → Prop} {k : Nat}
theorem wpJ_more (hC : ∀ w, C' w → C w) : ∀ {n : Nat} {listed : Array Bool} {a : Act} {w : World}, wpJ P md ops Q k C' n listed a w → wpJ P md ops Q k C n listed a w
 | 0, _, _, _, h => ⟨fun e => hC _ (h.1 e), h.2.1, h.2.2⟩
 | _ + 1, _, _, _, h => ⟨fun e => hC _ (h.1 e), h.2.1, fun i hi => wpOp_mono (fun _ _ h' => wpJ_more hC h') (h.2.2 i hi)⟩
end
theorem rWide_any (n : Int) (w : World) : Calls Try.prog 11 #[.int .i64 n] w fun e w' => e = .returned (.bool (wideT n)) ∧ w' = w := by
 unfold wideT
 by_cases h : 1 ≤ n
 · by_cases h2 : n ≤ 64
   · go_enter Try.func11, Try.ntmps11
     go_wp2
     go_ret
     exact ⟨by simp [h, h2], rfl⟩
   · go_enter Try.func11, Try.ntmps11
     go_wp2
     go_ret
     exact ⟨by simp [h2], rfl⟩
 · have h' : ¬ (1 ≤ n) := h
   go_enter Try.func11, Try.ntmps11
   go_wp2
   go_ret
   exact ⟨by simp; omega, rfl⟩
theorem takes_any {w : World} {v : Value} {l : List (Int × List Int)} (W : Int) (h : Sl EP (· < w.heap.size) (· < w.heap.size) w v l) (hl : l.length ≤ 9223372036854775807) (hs : ∀ x ∈ l, wf64 x.1 ∧ x.2.length ≤ 9223372036854775807) :
    Calls Try.prog 4 #[.int .i64 W, v] w fun e w' => e = .returned (.bool true) ∧ Below w.heap.size w w' := by
 obtain ⟨p, c, rfl, hlc, _, hne, hce⟩ := h.pieces
 have HK : Hid (∀ j, j < l.length → ∃ (b o : Nat) (s : Int) (x : List Int) (pu : Option Addr) (cu : Nat), p = some ⟨b, o, none⟩ ∧ b < w.heap.size ∧ w.cell? ⟨b, o + j * 2, none⟩ = some (.int .i64 s) ∧ w.cell? ⟨b, o + j * 2 + 1, none⟩ = some (.slice pu x.length cu) ∧ Sl EU (· < w.heap.size) (· < w.heap.size) w (.slice pu x.length cu) x ∧ l[j]? = some (s, x) ∧ wf64 s ∧ x.length ≤ 9223372036854775807) := fun j hj => by
  obtain ⟨b, o, rfl, hb⟩ := hne (by rintro rfl; simp at hj)
  obtain ⟨u, h1, h2, h3⟩ := hce b o rfl j l[j] (List.getElem?_eq_getElem hj)
  have h4 := hs l[j] (List.getElem_mem hj)
  obtain ⟨pu, cu, rfl⟩ := h3.lenv
  exact ⟨b, o, _, _, pu, cu, rfl, hb, h1, h2, h3, List.getElem?_eq_getElem hj, h4.1, h4.2⟩
 clear h hne hce hs
 generalize l.length = n at *
 have hnr := newReceiver_any W w
 unfold NewRP at hnr
 have hrw := fun X => rWide_any W X
 by_cases hn2 : n ≤ 200
 · cases hwd : wideT W with
   | false =>
    rw [hwd] at hnr hrw
    simp only [Bool.false_eq_true, if_false] at hnr
    have haw := awake_any w
    go_enter Try.func4, Try.ntmps4
    go_wp2_with (first
     | (go_at_call 22; refine hnr.mono ?_; rintro e w1 ⟨rfl, rfl⟩)
     | (go_at_call 11; refine (hrw _).mono ?_; rintro e w2 ⟨rfl, rfl⟩)
     | (go_at_call 12; refine haw.mono ?_; rintro e w3 ⟨rfl, hb3⟩))
    go_ret
    exact ⟨rfl, hb3⟩
   | true =>
    rw [hwd] at hnr hrw
    simp only [if_true] at hnr
    have HWD : Hid (wideT W = true) := hwd
    go_enter Try.func4, Try.ntmps4
    go_upto_region 4 with (go_at_call 22; refine hnr.mono ?_; rintro e w1 ⟨rfl, hw1⟩)
    have hR1 : PR 1 (paintAll (fun _ => 99) w 1) w1 (w.heap.size + 1) W 0 [] := by rw [hw1]; exact PR.new hwd
    have hE1 : Ev S7 (fun _ => 99) w (paintAll (fun _ => 99) w 1) w1 := by
     rw [hw1]
     exact Ev.paintAll (Keep.of_below (((Below.refl _ _).alloc (Nat.le_refl _) _).alloc (by simp) _)) _
    have HP1 : Hid (PR 1 (paintAll (fun _ => 99) w 1) w1 (w.heap.size + 1) W 0 []) := hR1
    have HE1 : Hid (Ev S7 (fun _ => 99) w (paintAll (fun _ => 99) w 1) w1) := hE1
    generalize paintAll (fun _ => 99) w 1 = c1 at *
    try rw [← hw1]
    clear hnr hw1 hR1 hE1 hwd
    obtain ⟨ra, hra⟩ : ∃ ra, w.heap.size + 1 = ra := ⟨_, rfl⟩
    rw [hra] at HP1
    try rw [hra]
    go_upto_region 10 with (go_at_call 11; refine (hrw _).mono ?_; rintro e w2 ⟨rfl, rfl⟩)
    have hr2 : RR 2 (paint c1 w2 (some w2.heap.size) 2) (w2.alloc (.cells #[.int .i64 W, .int .i64 0, .slice none 0 0] 50)) w2.heap.size W 0 [] := RR.new HWD.out
    have he2 : Ev (fun _ => False) c1 w2 (paint c1 w2 (some w2.heap.size) 2) (w2.alloc (.cells #[.int .i64 W, .int .i64 0, .slice none 0 0] 50)) := Ev.paint (Keep.of_below ((Below.refl _ _).alloc (Nat.le_refl _) _)) _ _
    have HP3 : Hid (PR 1 (paint c1 w2 (some w2.heap.size) 2) (w2.alloc (.cells #[.int .i64 W, .int .i64 0, .slice none 0 0] 50)) ra W 0 []) := HP1.out.ev he2 (fun h => h) fun h => h
    have HE3 : Hid (Ev S7 (fun _ => 99) w (paint c1 w2 (some w2.heap.size) 2) (w2.alloc (.cells #[.int .i64 W, .int .i64 0, .slice none 0 0] 50))) := HE1.out.trans he2 fun _ h => h.elim
    have HR3 : Hid (RR 2 (paint c1 w2 (some w2.heap.size) 2) (w2.alloc (.cells #[.int .i64 W, .int .i64 0, .slice none 0 0] 50)) w2.heap.size W 0 []) := hr2
    generalize paint c1 w2 (some w2.heap.size) 2 = c3 at *
    generalize w2.alloc (.cells #[.int .i64 W, .int .i64 0, .slice none 0 0] 50) = w3 at *
    clear hr2 he2 HE1 HP1 hrw
    obtain ⟨rb, hrb⟩ : ∃ rb, w2.heap.size = rb := ⟨_, rfl⟩
    rw [hrb] at HR3
    rw [hrb]
    clear hrb
    go_loopw [8] (fun iv wr => ∃ (k : Nat) (cr : Nat → Nat) (t : Int) (K : Kp), k ≤ n ∧ iv = .int .i64 (k : Int) ∧ Hid (PR 1 cr wr ra W t K) ∧ Hid (RR 2 cr wr rb W t K) ∧ Hid (TJ W k t K) ∧ Hid (Ev S7 (fun _ => 99) w cr wr)) (fun iv _ => n - (intOf iv).toNat)
    case atStart => exact ⟨0, c3, 0, [], Nat.zero_le _, rfl, HP3.out, HR3.out, ⟨Int.le_refl _, by simp, List.nodup_nil, fun p h => by cases h⟩, HE3.out⟩
    case round =>
     obtain ⟨k, cr, t, K, hk, rfl, HP, HR, HJ, HE⟩ := hrel
     have hbw := ev_under HE.out
     have HBW : Hid (Below w.heap.size w wr) := hbw
     by_cases hkn : k < n
     · obtain ⟨b, o, s, x, pu, cu, rfl, hb, h1, h2, h3, h4, h5, h6⟩ := HK.out k hkn
       obtain ⟨ml, hml⟩ : ∃ ml, x.length = ml := ⟨_, rfl⟩
       have HML : Hid (x.length = ml) := hml
       rw [hml] at h2 h3 h6
       have HS : Hid (wf64 s) := h5
       have HCC : Hid (∀ (c : Nat → Nat) (X : World), Ev S7 (fun _ => 99) w c X → X.cell? ⟨b, o + k * 2, none⟩ = some (.int .i64 s) ∧ X.cell? ⟨b, o + k * 2 + 1, none⟩ = some (.slice pu ml cu)) := fun c X h =>
        ⟨(World.cell?_of_block (a := ⟨b, o + k * 2, none⟩) ((ev_under h).block b hb)).trans h1, (World.cell?_of_block (a := ⟨b, o + k * 2 + 1, none⟩) ((ev_under h).block b hb)).trans h2⟩
       have HCX : Hid (∀ (c : Nat → Nat) (X : World), Ev S7 (fun _ => 99) w c X → Vi EU 99 c X (.slice pu ml cu) x) := fun c X h =>
        h3.carry (fun q hq => (ev_under h).block q hq) (fun q hq => (ev_under h).block q hq) (fun q hq => ⟨h.ext q hq, Nat.lt_of_lt_of_le hq h.keep.size⟩) fun q hq => ⟨h.ext q hq, Nat.lt_of_lt_of_le hq h.keep.size⟩
       have y2 := (HCC.out cr wr HE.out).2
       have hfew := HJ.out.few
       have hpos := HJ.out.pos
       have HJ0 := HJ.out.take (s := s) (x := x)
       obtain ⟨t2, ht2⟩ : ∃ t2, (takeT W t K s x).2.1 = t2 := ⟨_, rfl⟩
       obtain ⟨K2, hK2⟩ : ∃ K2, (takeT W t K s x).2.2 = K2 := ⟨_, rfl⟩
       obtain ⟨tl, htl⟩ : ∃ tl, (takeT W t K s x).1.length = tl := ⟨_, rfl⟩
       obtain ⟨kl, hkl⟩ : ∃ kl, K2.length = kl := ⟨_, rfl⟩
       rw [ht2, hK2, htl] at HJ0
       have HT2 : Hid ((takeT W t K s x).2.1 = t2) := ht2
       have HK2 : Hid ((takeT W t K s x).2.2 = K2) := hK2
       have HTL : Hid ((takeT W t K s x).1.length = tl) := htl
       have HKL : Hid (K2.length = kl) := hkl
       have HJ2 : Hid (TJ W (k + 1) t2 K2) := HJ0.1
       have htlb := HJ0.2
       have hkw : decide (W ≤ (kl : Int)) = false := decide_eq_false (by have := HJ0.1.len HWD.out; omega)
       clear h1 h2 h3 h4 h5 hml hbw HJ0 ht2 hK2 htl hkl
       by_cases hbig : ml ≤ 500
       · go_upto_region 14 with fail
         refine wp_region_J 99 (fun X => X.cell? ⟨b, o + k * 2, none⟩ = some (.int .i64 s) ∧ X.cell? ⟨b, o + k * 2 + 1, none⟩ = some (.slice pu ml cu)) ?_
         change wpJ _ _ _ _ _ _ _ _ _ (World.drew _)
         have HPQ : Hid (PR 1 cr wr.drew ra W t K) := HP.out.ev (Ev.drewN (fun _ => False) cr wr 1) (fun h => h) fun h => h
         have HRQ : Hid (RR 2 cr wr.drew rb W t K) := HR.out.ev (Ev.drewN (fun _ => False) cr wr 1) (fun h => h) fun h => h
         have HEQ : Hid (Ev S7 (fun _ => 99) w cr wr.drew) := HE.out.trans (Ev.drewN (fun _ => False) cr wr 1) fun _ h => h.elim
         have hC1 := HCC.out cr wr.drew HEQ.out
         have hta := take_far HPQ.out (by decide) (by omega) (by omega) (ix := 99) (HCX.out cr wr.drew HEQ.out) HS.out (by have := HML.out; omega)
         generalize wr.drew = w1 at *
         refine wpJ_q (i := 0) (d := some 52) (v := .pointer (some ⟨ra, 0, none⟩)) rfl ?_
         refine wpJ_q (i := 1) (d := some 53) (v := .slice (some ⟨b, o, none⟩) n c) rfl ?_
         refine wpJ_q (i := 2) (d := some 54) (v := .int .i64 (k : Int)) rfl ?_
         refine wpJ_q (i := 3) (d := some 55) (v := .pointer (some ⟨b, o + k * 2, none⟩)) rfl ?_
         refine wpJ_r (i := 4) (d := some 56) (v := .agg #[.int .i64 s, .slice pu ml cu]) rfl (by intro wq hq; have g := hq.1; have g2 := hq.2; go_simp; first | done | with_reducible rfl) ?_
         refine wpJ_q (i := 6) (d := some 58) (v := .pointer (some ⟨rb, 0, none⟩)) rfl ?_
         refine wpJ_q (i := 7) (d := some 59) (v := .slice (some ⟨b, o, none⟩) n c) rfl ?_
         refine wpJ_q (i := 8) (d := some 60) (v := .int .i64 (k : Int)) rfl ?_
         refine wpJ_q (i := 9) (d := some 61) (v := .pointer (some ⟨b, o + k * 2, none⟩)) rfl ?_
         refine wpJ_r (i := 10) (d := some 62) (v := .agg #[.int .i64 s, .slice pu ml cu]) rfl (by intro wq hq; have g := hq.1; have g2 := hq.2; go_simp; first | done | with_reducible rfl) ?_
         refine wpJ_do (i := 5) (fun _ => hC1) (by kernel_rfl) rfl (by rfl) ?_
         intro K5 hK5
         go_simp
         go_wp2_with (go_at_call 24; refine hta.mono ?_; rintro e w2 ⟨v2, rfl, c2, hE2, hP2, hV2⟩)
         have HP2 : Hid (PR 1 c2 w2 ra W (takeT W t K s x).2.1 (takeT W t K s x).2.2) := hP2
         have HR2 : Hid (RR 2 c2 w2 rb W t K) := HRQ.out.ev hE2 (by decide) (by decide)
         have HE2 : Hid (Ev S7 (fun _ => 99) w c2 w2) := HEQ.out.trans hE2 fun i h => by rw [h]; exact ⟨by decide, by decide⟩
         have hC2 := HCC.out c2 w2 HE2.out
         obtain ⟨p2, k2, hp2⟩ := hV2.lenv
         rw [HTL.out] at hp2
         subst hp2
         have HV2 : Hid (Vw EB c2 w2 (.slice p2 tl k2) (takeT W t K s x).1) := hV2
         clear hta hE2 hP2 hV2 HPQ HRQ HEQ
         have hrt := rtake_far HR2.out (by decide) (by omega) (by omega) (ix := 99) (HCX.out c2 w2 HE2.out) HS.out (by have := HML.out; omega)
         refine wpJ_do (i := 11) (fun _ => hC2) (by kernel_rfl) rfl (by rfl) ?_
         intro K11 hK11
         go_simp
         go_wp2_with (go_at_call 25; refine hrt.mono ?_; rintro e w3 ⟨v3, rfl, c3, hE3, hR3, hV3⟩)
         have HR3 : Hid (RR 2 c3 w3 rb W (takeT W t K s x).2.1 (takeT W t K s x).2.2) := hR3
         have HP3 : Hid (PR 1 c3 w3 ra W (takeT W t K s x).2.1 (takeT W t K s x).2.2) := HP2.out.ev hE3 (by decide) (by decide)
         have HE3 : Hid (Ev S7 (fun _ => 99) w c3 w3) := HE2.out.trans hE3 fun i h => by rw [h]; exact ⟨by decide, by decide⟩
         have HV2' : Hid (Vw EB c3 w3 (.slice p2 tl k2) (takeT W t K s x).1) := Vw.ev HV2.out hE3 (by decide)
         obtain ⟨p3, k3, hp3⟩ := hV3.lenv
         rw [HTL.out] at hp3
         subst hp3
         have HV3 : Hid (Vw EB c3 w3 (.slice p3 tl k3) (takeT W t K s x).1) := hV3
         clear hrt hE3 hR3 hV3 HP2 HR2 HE2 HV2
         rw [HT2.out, HK2.out] at HR3 HP3
         obtain ⟨vr, hrow, hrk, -⟩ := HR3.out.row
         obtain ⟨pk, ck, rfl⟩ := hrk.slice
         rw [HKL.out] at hrow
         have hC3 := HCC.out c3 w3 HE3.out
         have htx := texts_any HV2'.out HV3.out (by have := HTL.out; omega)
         rw [decide_eq_true rfl] at htx
         clear hrk
         refine wpJ_more (C' := (fun X => X.cell? ⟨b, o + k * 2, none⟩ = some (.int .i64 s) ∧ X.cell? ⟨b, o + k * 2 + 1, none⟩ = some (.slice pu ml cu) ∧ X.heap[rb]? = some (.cells #[.int .i64 W, .int .i64 t2, .slice pk kl ck] 50))) (fun _ h => ⟨h.1, h.2.1⟩) ?_
         refine wpJ_do (i := 12) (fun _ => ⟨hC3.1, hC3.2, hrow⟩) (by kernel_rfl) rfl (by rfl) ?_
         intro K12 hK12
         go_simp
         go_wp2_with (go_at_call 23; refine htx.mono ?_; rintro e w4 ⟨rfl, m4, hW4⟩)
         have HR4 : Hid (RR 2 c3 w4 rb W t2 K2) := by rw [hW4]; exact HR3.out.ev (Ev.drewN (fun _ => False) c3 w3 m4) (fun h => h) fun h => h
         have HP4 : Hid (PR 1 c3 w4 ra W t2 K2) := by rw [hW4]; exact HP3.out.ev (Ev.drewN (fun _ => False) c3 w3 m4) (fun h => h) fun h => h
         have HE4 : Hid (Ev S7 (fun _ => 99) w c3 w4) := by rw [hW4]; exact HE3.out.trans (Ev.drewN (fun _ => False) c3 w3 m4) fun _ h => h.elim
         have hC4 : w4.cell? ⟨b, o + k * 2, none⟩ = some (.int .i64 s) ∧ w4.cell? ⟨b, o + k * 2 + 1, none⟩ = some (.slice pu ml cu) ∧ w4.heap[rb]? = some (.cells #[.int .i64 W, .int .i64 t2, .slice pk kl ck] 50) := by
          refine ⟨(HCC.out c3 w4 HE4.out).1, (HCC.out c3 w4 HE4.out).2, ?_⟩
          rw [hW4]
          exact hrow
         try rw [← hW4]
         clear htx hW4 hrow hC3 HR3 HP3 HE3
         refine wpJ_q (i := 13) (d := some 65) (v := .bool false) rfl ?_
         refine wpJ_q (i := 14) (d := some 66) (v := .bool false) rfl ?_
         refine wpJ_q (i := 15) (d := some 67) (v := .pointer (some ⟨ra, 0, none⟩)) rfl ?_
         refine wpJ_q (i := 17) (d := some 69) (v := .pointer (some ⟨rb, 0, none⟩)) rfl ?_
         refine wpJ_q (i := 18) (d := some 70) (v := .pointer (some ⟨rb, 0, none⟩)) rfl ?_
         refine wpJ_q (i := 19) (d := some 71) (v := .pointer (some ⟨rb, 1, none⟩)) rfl ?_
         refine wpJ_r (i := 20) (d := some 72) (v := .int .i64 t2) rfl (by intro wq hq; have g := cell_row (cur := [_, _, _]) hq.2.2 1 _ rfl; go_simp; first | done | with_reducible rfl) ?_
         refine wpJ_do (i := 16) (fun _ => hC4) (by kernel_rfl) rfl (by rfl) ?_
         intro K16 hK16
         have hwa := want_any HP4.out
         go_simp
         go_wp2_with (go_at_call 26; refine hwa.mono ?_; rintro e w5 ⟨rfl, rfl⟩)
         clear hwa
         refine wpJ_q (i := 21) (d := some 73) (v := .bool false) rfl ?_
         refine wpJ_q (i := 22) (d := some 74) (v := .bool false) rfl ?_
         refine wpJ_q (i := 23) (d := some 75) (v := .bool false) rfl ?_
         refine wpJ_q (i := 24) (d := some 76) (v := .pointer (some ⟨ra, 0, none⟩)) rfl ?_
         refine wpJ_q (i := 26) (d := some 78) (v := .pointer (some ⟨rb, 0, none⟩)) rfl ?_
         refine wpJ_q (i := 27) (d := some 79) (v := .pointer (some ⟨rb, 0, none⟩)) rfl ?_
         refine wpJ_q (i := 28) (d := some 80) (v := .pointer (some ⟨rb, 2, none⟩)) rfl ?_
         refine wpJ_r (i := 29) (d := some 81) (v := .slice pk kl ck) rfl (by intro wq hq; have g := cell_row (cur := [_, _, _]) hq.2.2 2 _ rfl; go_simp; first | done | with_reducible rfl) ?_
         refine wpJ_q (i := 30) (d := some 82) (v := .int .i64 (kl : Int)) rfl ?_
         refine wpJ_do (i := 25) (fun _ => hC4) (by kernel_rfl) rfl (by rfl) ?_
         intro K25 hK25
         have hka := kept_any HP4.out
         rw [HKL.out] at hka
         go_simp
         go_wp2_with (go_at_call 27; refine hka.mono ?_; rintro e w5 ⟨rfl, rfl⟩)
         clear hka
         refine wpJ_q (i := 31) (d := some 83) (v := .bool false) rfl ?_
         refine wpJ_q (i := 32) (d := some 84) (v := .bool false) rfl ?_
         refine wpJ_q (i := 33) (d := some 85) (v := .bool false) rfl ?_
         refine wpJ_q (i := 34) (d := some 86) (v := .pointer (some ⟨ra, 0, none⟩)) rfl ?_
         refine wpJ_q (i := 36) (d := some 88) (v := .int .i64 W) rfl ?_
         refine wpJ_do (i := 35) (fun _ => hC4) (by kernel_rfl) rfl (by rfl) ?_
         intro K35 hK35
         have hka := kept_any HP4.out
         rw [HKL.out] at hka
         go_simp
         go_wp2_with (go_at_call 27; refine hka.mono ?_; rintro e w5 ⟨rfl, rfl⟩)
         clear hka
         refine wpJ_q (i := 37) (d := some 89) (v := .bool false) rfl ?_
         refine wpJ_q (i := 38) (d := some 90) (v := .bool false) rfl ?_
         refine wpJ_done (fun _ => hC4) (by kernel_rfl) ?_ _
         go_wp2
         go_roundw
         case rel => exact ⟨k + 1, c3, t2, K2, by omega, by go_num, HP4.out, HR4.out, HJ2.out, HE4.out⟩
         case measure => simp [intOf]; omega
       · have hbg : decide ((500 : Int) < (ml : Int)) = true := decide_eq_true (by omega)
         go_wp2
         go_ret
         exact ⟨rfl, HBW.out⟩
     · obtain rfl : k = n := by omega
       have haw := awake_any wr
       go_wp2_with (go_at_call 12; refine haw.mono ?_; rintro e w3 ⟨rfl, hb3⟩)
       go_ret
       exact ⟨rfl, belowP HBW.out hb3⟩
 · have hbg : decide ((200 : Int) < (n : Int)) = true := decide_eq_true (by omega)
   go_enter Try.func4, Try.ntmps4
   go_wp2
   go_ret
   exact ⟨rfl, Below.refl _ _⟩
end Go.Proofs.Ytnhgjgoldcplnaa

/-
  Places in order: by a contract.
  Things of which some are told as soon as they may be: the others come in the same order without them.
  By power: as plain functions, and rows of levels.
  By power: by a contract.
  How far back in a line an event stands, as the program tells it: by a contract.
-/
import Derived.Test.YtimhpglfolbomabGreatRL13
set_option maxRecDepth 100000
set_option maxHeartbeats 16000000
namespace Go.Proofs.YtimhpglfolbomabGreat.Od
open Go.RowKit Go.Maps
def fT (num : Nat → Int) (l : List Nat) : Int → Option Int := fun x => if x ∈ zs l then some (num x.toNat) else none
theorem fT_nil (num : Nat → Int) : fT num [] = fun _ => none := by funext x; unfold fT; simp [zs]
theorem fT_snoc (num : Nat → Int) (l : List Nat) (x : Nat) : fT num (l ++ [x]) = more (fT num l) x (num x) := by
 funext y
 unfold fT more
 have e : y ∈ zs (l ++ [x]) ↔ y ∈ zs l ∨ y = (x : Int) := by simp [zs]
 by_cases h : y = (x : Int)
 · subst h
   rw [if_pos (e.2 (.inr rfl)), if_pos rfl]
   simp
 · rw [if_neg h]
   show _ = (if y ∈ zs l then some (num y.toNat) else none)
   by_cases h2 : y ∈ zs l
   · rw [if_pos h2, if_pos (e.2 (.inl h2))]
   · rw [if_neg h2, if_neg (fun h3 => (e.1 h3).elim h2 h)]
theorem fT_tells {num : Nat → Int} {l : List Nat} {x : Nat} (h : x ∈ l) : fT num l (x : Int) = some (num x) := by
 unfold fT
 rw [if_pos ((zs_mem l x).2 h)]
 simp
theorem inTurn_any {w : World} {fb : Nat} : Calls Tryz.prog 46 #[.slice (some ⟨fb, 0, none⟩) 4 4] w fun e w' => e = .returned (.func (.func 73) #[] #[.pointer (some ⟨w.heap.size, 0, none⟩)]) ∧ w' = w.alloc (.cells #[.slice (some ⟨fb, 0, none⟩) 4 4] 109) := by
 go_enter Tryz.func46, Tryz.ntmps46
 go_wp2
 go_ret
 exact ⟨rfl, rfl⟩
theorem byp1_any {w : World} {p : Pa} {q : Pq} {pb : Nat} (hp : IsVP w pb p q) (hz : SzPa p) (hs : SzEs p) (hr : backT p.auth p.evs.length = true) (i : Nat) (hi : i < p.evs.length) :
    Calls Tryz.prog 30 #[.int .i64 (i : Int), .pointer (some ⟨pb, 0, none⟩)] w fun e w' => e = .returned (.int .i64 (levelT p i)) ∧ Below w.heap.size w w' := by
 have hl := hp.load
 have hL := level_any hp.pa hz hs hr i hi
 unfold valPa at hL
 generalize levelT p i = r at *
 generalize cellsPa p q = CP at *
 go_enter Tryz.func30, Tryz.ntmps30
 go_wp2_with (first
  | (refine wpList_loadK rfl 27 _ rfl pb 0 rfl CP hl ?_)
  | (go_at_call 31; refine hL.mono ?_; rintro e w1 ⟨rfl, hb1⟩))
 go_ret
 exact ⟨rfl, hb1⟩
theorem own_base {w : World} {B e s g n c m : Nat} {xs : List Value} (h : w.ownsRow B e s (.slice (some ⟨g, 0, none⟩) n c) m xs) : w.ownsRow g e s (.slice (some ⟨g, 0, none⟩) n c) m xs := by
 refine ⟨h.1, ?_⟩
 rcases h.2 with ⟨h', _⟩ | ⟨g', cap, cur, h', _, r⟩
 · cases h'
 · cases h'
   exact .inr ⟨g, _, cur, rfl, Nat.le_refl _, r⟩
theorem own_some {w : World} {B e : Nat} {v : Value} {xs : List Value} (h : w.ownsRow B e 1 v xs.length xs) (hn : xs ≠ []) : ∃ g c, v = .slice (some ⟨g, 0, none⟩) xs.length c ∧ B ≤ g ∧ g < w.heap.size := by
 rcases h.2 with ⟨_, hn'⟩ | ⟨g, cap, cur, rfl, hb, hg, r⟩
 · exact absurd (List.eq_nil_of_length_eq_zero hn') hn
 · exact ⟨g, cap, rfl, hb, obj_lt hg⟩
theorem ranked_any {O : Nat → Prop} {w : World} {p : Pa} {q : Pq} {S : List Nat} {pl : Option Addr} {cl cb : Nat} (h : IsPa (· < w.heap.size) w p q) (hcb : IsVP w cb p q) (hz : SzPa p) (hs : SzEs p) (hnl : p.names.length = p.evs.length) (hr : backT p.auth p.evs.length = true) (hl : RdI O w pl cl (zs S)) (hO : ∀ k, O k → k < w.heap.size) (hnd : S.Nodup) (hb : ∀ x ∈ S, x < p.evs.length) :
    Calls Tryz.prog 16 #[valPa p q, .slice pl (zs S).length cl, .func (.func 30) #[] #[.pointer (some ⟨cb, 0, none⟩)]] w fun e w' => ∃ L, Rkd (levelT p) p S L ∧ RowP (zs L) w e w' := by
 have hmm := run_makeMap_room Tryz.underlying70
 obtain ⟨W0, hW0⟩ : ∃ W0, W0 = w.alloc (.cells (cellsPa p q).toArray 27) := ⟨_, rfl⟩
 have hb0 : Below w.heap.size w W0 := by rw [hW0]; exact (Below.refl _ _).alloc (Nat.le_refl _) _
 have hs0 : W0.heap.size = w.heap.size + 1 := by rw [hW0]; simp
 have V : IsVP W0 w.heap.size p q := by rw [hW0]; exact isVP_new h
 obtain ⟨mb, hmb⟩ : ∃ mb, W0.heap.size = mb := ⟨_, rfl⟩
 obtain ⟨W1, hW1⟩ : ∃ W1, W1 = (W0.alloc (.map #[] 0)).alloc (.cells #[.map (some mb)] 70) := ⟨_, rfl⟩
 have HMB : Hid (w.heap.size + 1 = mb) := by show _ = _; rw [← hmb, hs0]
 have hk1 : Keep (fun k => mb ≤ k) W0 W1 := by rw [hW1]; exact (((Keep.refl _ W0).alloc _).alloc _)
 have hs1 : W1.heap.size = mb + 2 := by rw [hW1]; simp [hmb]
 have HS1 : Hid (W1.heap.size = mb + 2) := hs1
 have HM0 : Hid (MapL W1 mb 0 (fT (levelT p) [])) := by
  show MapL _ _ _ _
  rw [hW1, fT_nil]
  refine MapL.same (w := W0.alloc (.map #[] 0)) (by rw [← hmb]; exact mapL_made W0) ?_
  exact Below.block ((Below.refl (W0.alloc (.map #[] 0)).heap.size (W0.alloc (.map #[] 0))).alloc (Nat.le_refl _) _) mb (by simp [hmb])
 have HMC : Hid (W1.cell? ⟨mb + 1, 0, none⟩ = some (.map (some mb))) := by
  show _ = _
  rw [hW1, show mb + 1 = (W0.alloc (.map #[] 0)).heap.size by simp [hmb]]
  exact cell_row (cur := [_]) (heap_alloc_new _ _) 0 _ rfl
 have HMCX : Hid (∀ X, Keep (fun k => k = mb ∨ mb + 2 ≤ k) W1 X → X.cell? ⟨mb + 1, 0, none⟩ = some (.map (some mb))) := fun X hX => (World.cell?_of_block (a := ⟨mb + 1, 0, none⟩) (hX.block (mb + 1) (by omega) (by omega))).trans HMC.out
 have HBW : Hid (∀ X, Keep (fun k => k = mb ∨ mb + 2 ≤ k) W1 X → Below W0.heap.size W0 X) := fun X hX => (hk1.trans hX (fun i _ e => by omega)).below (by omega) (fun k hk => by omega)
 have HVC : Hid (∀ X, Keep (fun k => k = mb ∨ mb + 2 ≤ k) W1 X → IsVP X cb p q) := fun X hX => hcb.below (belowP hb0 (HBW.out X hX))
 have HVB : Hid (∀ X, Keep (fun k => k = mb ∨ mb + 2 ≤ k) W1 X → IsVP X w.heap.size p q) := fun X hX => V.below (HBW.out X hX)
 have HIS : Hid (∀ X, Keep (fun k => k = mb ∨ mb + 2 ≤ k) W1 X → IsPa (· < w.heap.size) X p q) := fun X hX => h.carry fun k hk => ⟨hk, (belowP hb0 (HBW.out X hX)).block k hk⟩
 have HR : Hid (∀ X, Keep (fun k => k = mb ∨ mb + 2 ≤ k) W1 X → RdI O X pl cl (zs S)) := fun X hX => hl.same (Same.of_below (belowP hb0 (HBW.out X hX)) hO)
 have HBY : Hid (∀ X i, Keep (fun k => k = mb ∨ mb + 2 ≤ k) W1 X → i < p.evs.length → Calls Tryz.prog 30 #[.int .i64 (i : Int), .pointer (some ⟨cb, 0, none⟩)] X fun e w' => e = .returned (.int .i64 (levelT p i)) ∧ Below X.heap.size X w') := fun X i hX hi => byp1_any (HVC.out X hX) hz hs hr i hi
 have hSl : S.length ≤ 30 := by
  have h1 := sub_len (l := S) (T := List.range p.evs.length) hnd (fun x hx => List.mem_range.2 (hb x hx))
  have := hz.evs
  simp at h1
  omega
 have hen := hz.evs
 have HSB : Hid (∀ x ∈ S, x < p.evs.length) := hb
 have HZ : Hid (SzPa p) := hz
 have HND : Hid S.Nodup := hnd
 have HNL : Hid (p.names.length = p.evs.length) := hnl
 have HOL : Hid (∀ k, O k → k < w.heap.size) := hO
 have HB0 : Hid (Below w.heap.size w W0) := hb0
 obtain ⟨s, hsl⟩ : ∃ s, (zs S).length = s := ⟨_, rfl⟩
 have HSL : Hid ((zs S).length = s) := hsl
 have HSN : Hid (S.length = s) := by show _ = _; rw [← zs_len]; exact hsl
 have hs30 : s ≤ 30 := by rw [← HSN.out]; exact hSl
 rw [hsl]
 clear hk1 hz hs hr hl hO hb hb0 hnl hnd hcb h V hsl hSl
 have HNUM : Hid (∀ i, wf64 (levelT p i)) := fun i => level_wf p i
 unfold valPa
 generalize hnum : levelT p = num at *
 clear hnum
 generalize hCP : (cellsPa p q) = CP at hW0 ⊢
 clear hs0 hCP
 go_enter Tryz.func16, Tryz.ntmps16
 go_upto_region 1 with fail
 rw [← hW0]
 clear hW0
 go_upto_region 2 with fail
 rw [← hW1]
 clear hW1 hmm hmb hs1
 go_upto_region 3 with fail
 go_loopw [19] (fun i wr => ∃ k N : Nat, k ≤ s ∧ i = .int .i64 k ∧ N ≤ k ∧ MapL wr mb N (fT num (S.take k)) ∧ Keep (fun k => k = mb ∨ mb + 2 ≤ k) W1 wr) (fun i _ => s - (intOf i).toNat)
 case atStart => exact ⟨0, 0, Nat.zero_le _, rfl, Nat.le_refl _, HM0.out, Keep.refl _ _⟩
 case round =>
  clear HM0
  obtain ⟨k, N, hk, rfl, hN, hM, hkp⟩ := hrel
  by_cases hlt : k < s
  · have hkl : k < (zs S).length := by rw [HSL.out]; exact hlt
    have hkS : k < S.length := by rw [HSN.out]; exact hlt
    obtain ⟨ad, rfl, _, hc⟩ := (HR.out wr hkp).at k 0 hkl
    rw [zs_getD] at hc
    have hx := HSB.out _ (getD_inm (d := 0) hkS)
    have HT : Hid (fT num (S.take (k + 1)) = more (fT num (S.take k)) (S.getD k 0 : Nat) (num (S.getD k 0))) := by show _ = _; rw [take_snoc S k 0 hkS, fT_snoc]
    generalize S.getD k 0 = x at *
    have hwx : wf64 (x : Int) := wf_nat (by omega)
    have hwn := HNUM.out x
    have HTR : Hid (∀ X, Keep (· = mb) wr X → Keep (fun k => k = mb ∨ mb + 2 ≤ k) W1 X) := fun X hX => hkp.trans hX fun _ _ e => .inl e
    have HCC : Hid (∀ X, Keep (· = mb) wr X → X.cell? ⟨mb + 1, 0, none⟩ = some (.map (some mb))) := fun X hX => HMCX.out X (HTR.out X hX)
    have HB2 : Hid (∀ X, Keep (· = mb) wr X → Calls Tryz.prog 30 #[.int .i64 (x : Int), .pointer (some ⟨cb, 0, none⟩)] X fun e w' => e = .returned (.int .i64 (num x)) ∧ Below X.heap.size X w') := fun X hX => HBY.out X x (HTR.out X hX) hx
    have HMM : Hid (MapL wr mb N (fT num (S.take k))) := hM
    have hml := hM.lt
    clear hM
    go_upto_region 5 with fail
    refine wp_region_in (by kernel_rfl) (fun w' => Keep (· = mb) wr w') ?_
    change wpIn _ _ _ _ _ _ _ _ (World.drew _)
    have hD : Keep (· = mb) wr wr.drew := (Keep.refl _ _).drew
    refine wpIn_take (i := 0) (d := (some 23)) (v := .map (some mb)) (a' := ?aq0) rfl rfl (by kernel_rfl) (by kernel_rfl) (by kernel_rfl) (fun _ _ _ h => h) (Or.inl ⟨by rfl, ?yq0⟩) ?fq0 ?_
    case yq0 => (intro wq hq; have hcc := HCC.out wq hq; go_simp; first | done | with_reducible rfl)
    case fq0 => (go_frame; rfl)
    refine wpIn_tk (i := 1) (d := some 24) rfl ?_
    refine wpIn_tk (i := 2) (d := some 25) rfl ?_
    refine wpIn_tk (i := 3) (d := some 26) rfl ?_
    refine wpIn_do (i := 4) hD (by kernel_rfl) rfl (by rfl) ?_
    intro K hK
    go_simp
    go_wp2_with (go_at_call 30; refine (HB2.out _ hD).mono ?_; rintro e w7 ⟨rfl, hb7⟩)
    have hD7 : Keep (· = mb) wr w7 := hD.trans (Keep.of_below (S := (· = mb)) hb7) fun _ _ h => h
    have hM7 : MapL w7 mb N (fT num (S.take k)) := HMM.out.same (hb7.block mb (by show mb < wr.heap.size; exact hml))
    refine wpIn_do (i := 5) hD7 (by kernel_rfl) rfl (by rfl) ?_
    intro K2 hK2
    refine wp_updateL _ _ _ rfl mb N _ rfl hM7 (by omega) (x : Int) (num x) hwx hwn rfl rfl ?_
    intro w8 hM8 hg8
    refine hK2 _ _ ?_
    have hD8 : Keep (· = mb) wr w8 := hD7.trans (Keep.of_grown (S := (· = mb)) hg8 fun k _ e => by cases e; rfl) fun _ _ h => h
    refine wpIn_done hD8 (by kernel_rfl) ?_ _
    rw [← HT.out] at hM8
    go_wp2
    go_roundw
    case rel => exact ⟨k + 1, N + 1, by omega, by go_num, by omega, hM8, HTR.out _ hD8⟩
    case measure => simp [intOf]; try omega
  · obtain rfl : k = s := by omega
    rw [← HSN.out, List.take_length] at hM
    have hML := hM.lt
    have hcl := clone_any wr (HR.out wr hkp) (by rw [HSL.out]; omega)
    rw [HSL.out] at hcl
    have HVBW := HVB.out wr hkp
    have HISW : Hid (IsPa (· < w.heap.size) wr p q) := HIS.out wr hkp
    have hmcw := HMCX.out wr hkp
    have hwr := hkp.size
    clear HVC HVB HIS HR HBY HMCX HMC
    by_cases hS0 : S = []
    · subst hS0
      obtain rfl : k = 0 := by rw [← HSN.out]; rfl
      have HSF : Hid (∀ (X : World) (a : Option Addr) (c : Nat) (fv : Value), Calls Tryz.prog 45 #[.slice a 0 c, fv] X fun e w' => e = .returned (.tuple #[]) ∧ w' = X) := fun X a c fv => Tryz.slices_SortFunc_none (α := Nat) a c fv X
      go_wp2_with (first
       | (go_at_call 44; refine hcl.mono ?_; rintro e w3 ⟨v, rfl, ho3, hb3⟩; obtain ⟨q3, c3, rfl, _⟩ := own_rd (xs := []) (enc := Value.int .i64) ho3)
       | (go_at_call 46; refine inTurn_any.mono ?_; rintro e w4 ⟨rfl, rfl⟩)
       | (go_at_call 45; refine (HSF.out _ _ _ _).mono ?_; rintro e w5 ⟨rfl, rfl⟩))
      go_ret
      refine ⟨[], ⟨List.Perm.refl _, List.Pairwise.nil⟩, _, rfl, ?_, ?_⟩
      · exact own_le ((ho3.alloc _).alloc _) (by have := HB0.out.size; have := (HBW.out _ hkp).size; omega)
      · exact belowP HB0.out (((HBW.out _ hkp).trans (hb3.mono (by have := (HBW.out _ hkp).size; omega))).alloc (by have := hb3.size; have := (HBW.out _ hkp).size; omega) _ |>.alloc (by have := hb3.size; have := (HBW.out _ hkp).size; simp; omega) _)
    · have HCL : Hid (∀ (X : World) (g c fb bx N : Nat), CloP X (· < w.heap.size) num S p q w.heap.size (mb + 1) mb N fb bx (fT num S) → w.heap.size < g → mb + 2 ≤ g → mb + 2 ≤ X.heap.size → fb ≠ g ∧ fb < X.heap.size → bx ≠ g ∧ bx < X.heap.size → X.ownsRow g 3 1 (.slice (some ⟨g, 0, none⟩) k c) k ((zs S).map (Value.int .i64)) → Calls Tryz.prog 45 #[.slice (some ⟨g, 0, none⟩) k c, .func (.func 73) #[] #[.pointer (some ⟨bx, 0, none⟩)]] X fun e w' => e = .returned (.tuple #[]) ∧ ∃ L, Rkd num p S L ∧ w'.ownsRow g 3 1 (.slice (some ⟨g, 0, none⟩) k c) (zs L).length ((zs L).map (Value.int .i64)) ∧ X.grownBy w' (some g)) := by
        intro X g c fb bx N C h1 h2 h3 h4 h5 h6
        have hh := sortS_any (cap := c) C HZ.out HNL.out HSB.out HND.out (fun k hk => ⟨by have := HMB.out; omega, by omega⟩) (by omega) ⟨by omega, by omega⟩ (by omega) h4 h5 (by rw [HSL.out]; exact h6)
        rw [HSL.out] at hh
        exact hh
      have hmb1 := HMB.out
      have hbw := HBW.out _ hkp
      have hbs := hbw.size
      have hb00 := HB0.out.size
      have hS1 := HS1.out
      have HVB2 : Hid (wr.heap[w.heap.size]? = some (.cells (cellsPa p q).toArray 27 (0, 0))) := HVBW.blk
      have HML2 : Hid (MapL wr mb N (fT num S)) := hM
      have HMC2 : Hid (wr.cell? ⟨mb + 1, 0, none⟩ = some (.map (some mb))) := hmcw
      have hzne : zs S ≠ [] := fun e => hS0 (List.eq_nil_of_length_eq_zero (by rw [← zs_len, e]; rfl))
      have HZN : Hid (zs S ≠ []) := hzne
      have HBX : Hid (Below W0.heap.size W0 wr) := hbw
      clear hM hmcw hzne HVBW hbw
      go_upto_region 11 with (go_at_call 44; refine hcl.mono ?_; rintro e w3 ⟨v, rfl, ho3, hb3⟩; clear hcl)
      have ho4 : w3.ownsRow wr.heap.size 3 1 v ((zs S).map (Value.int .i64)).length ((zs S).map (Value.int .i64)) := by rw [List.length_map, HSL.out]; exact ho3
      obtain ⟨g, c, rfl, hgb, hgl⟩ := own_some ho4 (by simpa using HZN.out)
      rw [List.length_map, HSL.out] at ho4 ⊢
      have hs3 := hb3.size
      have HB3 : Hid (Below wr.heap.size wr w3) := hb3
      have HO4 : Hid (w3.ownsRow g 3 1 (.slice (some ⟨g, 0, none⟩) k c) k ((zs S).map (Value.int .i64))) := own_base ho4
      clear ho3 ho4 hb3
      obtain ⟨W5, hW5⟩ : ∃ W5, W5 = (w3.alloc (.cells #[.func (.func 39) #[] #[.pointer (some ⟨mb + 1, 0, none⟩)], .func (.func 41) #[] #[.pointer (some ⟨w.heap.size, 0, none⟩)], .func (.func 42) #[] #[.pointer (some ⟨w.heap.size, 0, none⟩)], .func (.func 47) #[] #[]] 76)).alloc (.cells #[.slice (some ⟨w3.heap.size, 0, none⟩) 4 4] 109) := ⟨_, rfl⟩
      have hb5 : Below w3.heap.size w3 W5 := by rw [hW5]; exact ((Below.refl _ _).alloc (Nat.le_refl _) _).alloc (by simp) _
      have hs5 : W5.heap.size = w3.heap.size + 2 := by rw [hW5]; simp
      have hF : W5.heap[w3.heap.size]? = some (.cells ([.func (.func 39) #[] #[.pointer (some ⟨mb + 1, 0, none⟩)], .func (.func 41) #[] #[.pointer (some ⟨w.heap.size, 0, none⟩)], .func (.func 42) #[] #[.pointer (some ⟨w.heap.size, 0, none⟩)], .func (.func 47) #[] #[]] : List Value).toArray 76 (0, 0)) := by
       rw [hW5]
       exact (Below.block ((Below.refl (w3.alloc (.cells #[.func (.func 39) #[] #[.pointer (some ⟨mb + 1, 0, none⟩)], .func (.func 41) #[] #[.pointer (some ⟨w.heap.size, 0, none⟩)], .func (.func 42) #[] #[.pointer (some ⟨w.heap.size, 0, none⟩)], .func (.func 47) #[] #[]] 76)).heap.size _).alloc (Nat.le_refl _) _) _ (by simp)).trans (heap_alloc_new _ _)
      have hX : W5.heap[w3.heap.size + 1]? = some (.cells ([.slice (some ⟨w3.heap.size, 0, none⟩) 4 4] : List Value).toArray 109 (0, 0)) := by
       rw [hW5, show w3.heap.size + 1 = (w3.alloc (.cells #[.func (.func 39) #[] #[.pointer (some ⟨mb + 1, 0, none⟩)], .func (.func 41) #[] #[.pointer (some ⟨w.heap.size, 0, none⟩)], .func (.func 42) #[] #[.pointer (some ⟨w.heap.size, 0, none⟩)], .func (.func 47) #[] #[]] 76)).heap.size by simp]
       exact heap_alloc_new _ _
      have hbw5 : Below wr.heap.size wr W5 := belowP HB3.out hb5
      have hsort := HCL.out W5 g c w3.heap.size (w3.heap.size + 1) N ⟨(hbw5.block w.heap.size (obj_lt HVB2.out)).trans HVB2.out, HISW.out.carry fun k hk => ⟨hk, hbw5.block k (by omega)⟩, (World.cell?_of_block (a := ⟨mb + 1, 0, none⟩) (hbw5.block (mb + 1) (by omega))).trans HMC2.out, HML2.out.same (hbw5.block mb hML), fun x hx => fT_tells hx, cell_row hX 0 _ rfl, cell_row hF 0 _ rfl, cell_row hF 1 _ rfl, cell_row hF 2 _ rfl, cell_row hF 3 _ rfl⟩ (by omega) (by omega) (by omega) ⟨by omega, by omega⟩ ⟨by omega, by omega⟩ (own_below HO4.out hb5)
      have HW5 : Hid (W5 = (w3.alloc (.cells #[.func (.func 39) #[] #[.pointer (some ⟨mb + 1, 0, none⟩)], .func (.func 41) #[] #[.pointer (some ⟨w.heap.size, 0, none⟩)], .func (.func 42) #[] #[.pointer (some ⟨w.heap.size, 0, none⟩)], .func (.func 47) #[] #[]] 76)).alloc (.cells #[.slice (some ⟨w3.heap.size, 0, none⟩) 4 4] 109)) := hW5
      have HEND : Hid (∀ X, W5.grownBy X (some g) → Below w.heap.size w X) := fun X hX => belowP HB0.out ((HBX.out.trans (hbw5.mono (by omega))).grown hX (by omega) fun k hk => by cases hk; omega)
      clear hF hX hW5 hb5 hbw5 hs5
      go_wp2_with (first
       | (go_at_call 46; refine inTurn_any.mono ?_; rintro e w4 ⟨rfl, rfl⟩; rw [← HW5.out])
       | (go_at_call 45; refine hsort.mono ?_; rintro e w6 ⟨rfl, L, hL, ho6, hg6⟩))
      go_ret
      exact ⟨L, hL, _, rfl, own_le ho6 (by omega), HEND.out _ hg6⟩
end Go.Proofs.YtimhpglfolbomabGreat.Od
namespace Go.Proofs.YtimhpglfolbomabGreat.Od
open Go.RowKit Go.Maps
open Classical in
noncomputable def thT (Q : List (List Nat)) (S : List Nat) (n : Nat) : List Nat := (List.range n).filter fun i => decide (i ∈ S ∨ Lead Q S i)
theorem thT_mem {Q : List (List Nat)} {S : List Nat} {n x : Nat} (hQ : BackQ Q) (hS : ∀ x ∈ S, x < n) : x ∈ thT Q S n ↔ x ∈ S ∨ Lead Q S x := by
 unfold thT
 simp only [List.mem_filter, List.mem_range, decide_eq_true_eq]
 exact ⟨fun h => h.2, fun h => ⟨h.elim (hS x) (ch_lt hQ hS), h⟩⟩
theorem thT_rises (Q : List (List Nat)) (S : List Nat) (n : Nat) : (thT Q S n).Pairwise (· < ·) := List.Pairwise.filter _ List.pairwise_lt_range
theorem thT_len (Q : List (List Nat)) (S : List Nat) (n : Nat) : (thT Q S n).length ≤ n := by
 unfold thT
 exact Nat.le_trans (List.length_filter_le _ _) (by simp)
theorem thT_chain {Q : List (List Nat)} {S : List Nat} {n x y : Nat} (hQ : BackQ Q) (hS : ∀ x ∈ S, x < n) (hx : x ∈ thT Q S n) (hy : y ∈ par Q x) : y ∈ thT Q S n :=
 (thT_mem hQ hS).2 (.inr (((thT_mem hQ hS).1 hx).elim (fun h => .one h hy) fun h => .more h hy))
theorem fr_two (a b : List Int) (x : Int) : (0 < fr [a, b] x ∧ (1 : Int) ≤ fr [a, b] x ∧ (fr [a, b] x : Int) ≤ ([a, b] : List (List Int)).length) ↔ x ∈ a ∨ x ∈ b := by
 have h1 := fr_pos (P := [a, b]) (x := x)
 have h2 := fr_le [a, b] x
 have e : (∃ r ∈ [a, b], x ∈ r) ↔ x ∈ a ∨ x ∈ b := by simp
 rw [e] at h1
 rw [← h1]
 omega
theorem within_two {Q : List (List Nat)} {S : List Nat} {n : Nat} (hQ : BackQ Q) (hS : ∀ x ∈ S, x < n) {l : List Int} (h : Rs [zs S, zs (chT Q S)] 1 ([zs S, zs (chT Q S)] : List (List Int)).length l) : l = zs (thT Q S n) := by
 refine riseZ_ext h.rise (zs_rises (thT_rises Q S n)) fun x => ?_
 rw [h.mem, fr_two]
 constructor
 · rintro (hx | hx)
   · obtain ⟨y, hy, rfl⟩ := List.mem_map.1 hx
     exact (zs_mem _ _).2 ((thT_mem hQ hS).2 (.inl hy))
   · obtain ⟨y, hy, rfl⟩ := List.mem_map.1 hx
     exact (zs_mem _ _).2 ((thT_mem hQ hS).2 (.inr ((cht_mem hQ).1 hy)))
 · intro hx
   obtain ⟨y, hy, rfl⟩ := List.mem_map.1 hx
   exact ((thT_mem hQ hS).1 hy).imp (fun h => (zs_mem _ _).2 h) fun h => (zs_mem _ _).2 ((cht_mem hQ).2 h)
theorem idx_zs : ∀ (l : List Nat) (j : Nat), (zs l).idxOf (j : Int) = l.idxOf j
 | [], _ => rfl
 | a :: r, j => by
  have ih := idx_zs r j
  unfold zs at ih ⊢
  rw [List.map_cons, List.idxOf_cons, List.idxOf_cons, ih]
  by_cases h : a = j
  · subst h; simp
  · have h2 : ((a : Int) == (j : Int)) = false := by rw [beq_eq_false_iff_ne]; omega
    have h3 : (a == j) = false := by simpa using h
    rw [h2, h3]
theorem idx_lt {l : List Nat} {j : Nat} (h : j ∈ l) : l.idxOf j < l.length := List.idxOf_lt_length_iff.2 h
theorem idx_get {l : List Nat} {j : Nat} (h : j ∈ l) : l.getD (l.idxOf j) 0 = j := by
 rw [getD_in (idx_lt h)]
 exact List.getElem_idxOf (idx_lt h)
theorem rise_get {l : List Nat} (h : l.Pairwise (· < ·)) {i j : Nat} (hi : i < l.length) (hj : j < l.length) (hij : l.getD i 0 < l.getD j 0) : i < j := by
 rw [getD_in hi, getD_in hj] at hij
 rcases Nat.lt_trichotomy i j with h' | h' | h'
 · exact h'
 · subst h'; omega
 · have := List.pairwise_iff_getElem.1 h j i hj hi h'
   omega
theorem par_rws {Q : List (List Nat)} {Th : List Nat} {i : Nat} (hi : i < Th.length) : par (rwsT Q Th) i = rwT Q Th i := by
 unfold par rwsT
 rw [getD_in (by simpa using hi)]
 simp
theorem par_rws_out {Q : List (List Nat)} {Th : List Nat} {i : Nat} (hi : ¬ i < Th.length) : par (rwsT Q Th) i = [] := by
 unfold par rwsT
 rw [List.getD_eq_getElem?_getD, List.getElem?_eq_none (by simpa using hi)]
 rfl
theorem rws_back {Q : List (List Nat)} {Th : List Nat} (hQ : BackQ Q) (hr : Th.Pairwise (· < ·)) (hc : ∀ x ∈ Th, ∀ y ∈ par Q x, y ∈ Th) : BackQ (rwsT Q Th) := by
 intro i p hp
 by_cases hi : i < Th.length
 · rw [par_rws hi] at hp
   obtain ⟨j, hj, rfl⟩ := List.mem_map.1 hp
   have hx := getD_inm (l := Th) (d := 0) hi
   have hjT := hc _ hx j hj
   rw [idx_zs]
   refine rise_get hr (idx_lt hjT) hi ?_
   rw [idx_get hjT]
   exact hQ _ _ hj
 · rw [par_rws_out hi] at hp
   cases hp
theorem zs_nat (l : List Nat) : (zs l).map Int.toNat = l := by
 unfold zs
 rw [List.map_map]
 conv => rhs; rw [← List.map_id l]
 exact List.map_congr_left fun x _ => by simp
theorem toQ_of (P : List (List Nat)) : Od.toQ (P.map zs) = P := by
 unfold toQ
 rw [List.map_map]
 conv => rhs; rw [← List.map_id P]
 exact List.map_congr_left fun x _ => zs_nat x
def rkV (L : List Nat) (i : Nat) : Int := if (posI (zs L) (i : Int)).isSome then (posI (zs L) (i : Int)).getD 0 + 1 else 0
def rkT (L Th : List Nat) : List Int := Th.map (rkV L)
theorem rkV_in {L : List Nat} {i : Nat} (h : i ∈ L) : rkV L i = (L.idxOf i : Int) + 1 := by
 unfold rkV posI
 rw [if_pos ((zs_mem _ _).2 h), idx_zs]
 rfl
theorem rkV_out {L : List Nat} {i : Nat} (h : i ∉ L) : rkV L i = 0 := by
 unfold rkV posI
 rw [if_neg (fun h' => h ((zs_mem _ _).1 h'))]
 rfl
theorem lin_some {Q : List (List Nat)} {Th L : List Nat} (hQ : BackQ Q) (hr : Th.Pairwise (· < ·)) (hc : ∀ x ∈ Th, ∀ y ∈ par Q x, y ∈ Th) : ∃ T, lin (rwsT Q Th) (rkT L Th) = some T ∧ linP ((rwsT Q Th).map zs) (rkT L Th) = some T := by
 have hb := rws_back hQ hr hc
 obtain ⟨T, hT⟩ := lin_back (Q := rwsT Q Th) (R := rkT L Th) hb
 refine ⟨T, hT, ?_⟩
 rw [linP_ok (by simp [rkT, rwsT]) ?_, toQ_of, hT]
 unfold insB
 rw [List.all_eq_true]
 intro r hr'
 obtain ⟨x, hx, rfl⟩ := List.mem_map.1 hr'
 obtain ⟨i, hi, rfl⟩ := List.mem_map.1 hx
 have hi := List.mem_range.1 hi
 unfold rowB
 rw [List.all_eq_true]
 intro y hy
 obtain ⟨k, hk, rfl⟩ := List.mem_map.1 hy
 rw [← par_rws hi] at hk
 have := hb i k hk
 simp [rwsT]
 omega
def toldT (Th : List Nat) (R : List Int) (T : List Nat) : List Nat := (T.filter fun i => decide (0 < rk R i)).map fun i => Th.getD i 0
theorem told_next {Th : List Nat} {R : List Int} {T : List Nat} {k : Nat} (hk : k < T.length) : toldT Th R (T.take (k + 1)) = toldT Th R (T.take k) ++ if 0 < rk R (T.getD k 0) then [Th.getD (T.getD k 0) 0] else [] := by
 unfold toldT
 rw [take_snoc T k 0 hk, List.filter_append, List.map_append]
 congr 1
 generalize T.getD k 0 = x
 by_cases h : 0 < rk R x <;> simp [h]
def Ik2 (w : World) (b : Nat) (L : List Int) : Prop := w.heap[b]? = some (.cells (L.map (Value.int .i64)).toArray 2)
theorem Ik2.cell {w : World} {b : Nat} {L : List Int} (h : Ik2 w b L) (j : Nat) (hj : j < L.length) : w.cell? ⟨b, j, none⟩ = some (.int .i64 (L.getD j 0)) :=
 cell_row (cur := L.map (Value.int .i64)) h j _ (by rw [List.getElem?_map, List.getElem?_eq_getElem hj, getD_in hj]; rfl)
theorem Ik2.fz {w : World} {b : Nat} {L : List Int} (h : Ik2 w b L) (j : Nat) : w.frozen? ⟨b, j, none⟩ = false := frozen_of_row w b j _ _ h
theorem Ik2.set {w : World} {b : Nat} {L : List Int} (h : Ik2 w b L) (j : Nat) (x : Int) : Ik2 (w.setCell ⟨b, j, none⟩ (.int .i64 x)) b (L.set j x) := by
 unfold Ik2
 rw [heap_setCell_same w b j _ _ _ h]
 congr 2
 simp
theorem Ik2.rd {w : World} {b : Nat} {L : List Int} (h : Ik2 w b L) (c : Nat) (hc : L.length ≤ c) : RdI (· = b) w (some ⟨b, 0, none⟩) c L :=
 ⟨hc, fun _ => ⟨b, 0, rfl, rfl, fun j x hj => by
  rw [Nat.zero_add]
  exact cell_row (cur := L.map (Value.int .i64)) h j _ (by rw [List.getElem?_map, hj]; rfl)⟩⟩
theorem make_longs (W : World) (n : Nat) (hn : n ≤ 1000000) : (Instr.makeSlice 57 (.int .i64 (n : Int)) (.int .i64 (n : Int))).run Tryz.prog W = .ok (.slice (some ⟨W.heap.size, 0, none⟩) n n) (W.alloc (.cells ((List.replicate n (0 : Int)).map (Value.int .i64)).toArray 2)) := by
 obtain ⟨i0, hi, hz0, hz1, hz2⟩ := info_parts Tryz.info2
 have := run_makeSlice (P := Tryz.prog) W 57 2 i0 (.int .i64 0) Tryz.underlying57 hi hz0 .i64 .i64 n n (by omega) (Int.le_refl _) (by rw [hz1]; simp; omega) (by rw [hz2]; omega) (by omega)
 rw [hz1] at this
 simp only [Int.toNat_natCast] at this
 rw [made_ints] at this
 exact this
theorem wpList_longs {W : World} {ops : Array Oper} {rest : List Oper} {o : Oper} {a : Act} {Q : Exit → Act → World → Prop} (hgd : o.guard = none) (x y : Operand) (ho : o.op = .makeSlice 57 x y) (n : Nat) (hn : n ≤ 1000000) (hx : a.eval x = .int .i64 (n : Int)) (hy : a.eval y = .int .i64 (n : Int))
    (h : ∀ W', Hid (W' = W.alloc (.cells ((List.replicate n (0 : Int)).map (Value.int .i64)).toArray 2)) → wpList Tryz.prog ops Q rest (a.put o.dst (.slice (some ⟨W.heap.size, 0, none⟩) n n)) W') : wpList Tryz.prog ops Q (o :: rest) a W := by
 refine wpList_plain hgd fun K hK => ?_
 have hrun := make_longs W n hn
 unfold Oper.wp
 simp [execOp, ho, hx, hy, hrun, Result.andThen]
 refine hK _ _ ?_
 have := h _ rfl
 simpa using this
def rkJ (L Th : List Nat) (k : Nat) : List Int := (List.range Th.length).map fun i => if i < k then rkV L (Th.getD i 0) else 0
theorem rkJ_len (L Th : List Nat) (k : Nat) : (rkJ L Th k).length = Th.length := by simp [rkJ]
theorem rkJ_zero (L Th : List Nat) : rkJ L Th 0 = List.replicate Th.length 0 := by
 apply List.ext_getElem
 · simp [rkJ]
 · intro i h1 h2; simp [rkJ]
theorem rkJ_all (L Th : List Nat) : rkJ L Th Th.length = rkT L Th := by
 apply List.ext_getElem
 · simp [rkJ, rkT]
 · intro i h1 h2
   have hi : i < Th.length := by simpa [rkJ] using h1
   simp [rkJ, rkT, hi]
theorem rkJ_set (L Th : List Nat) (k : Nat) (_hk : k < Th.length) : (rkJ L Th k).set k (rkV L (Th.getD k 0)) = rkJ L Th (k + 1) := by
 apply List.ext_getElem
 · simp [rkJ]
 · intro i h1 h2
   rw [List.getElem_set]
   split
   · rename_i e; subst e; simp [rkJ]
   · rename_i e
     simp only [rkJ, List.getElem_map, List.getElem_range]
     by_cases h : i < k
     · rw [if_pos h, if_pos (by omega)]
     · rw [if_neg h, if_neg (by omega)]
theorem rkJ_same (L Th : List Nat) (k : Nat) (h0 : rkV L (Th.getD k 0) = 0) : rkJ L Th k = rkJ L Th (k + 1) := by
 unfold rkJ
 refine List.map_congr_left fun i _ => ?_
 by_cases h : i < k
 · rw [if_pos h, if_pos (by omega)]
 · rw [if_neg h]
   by_cases e : i = k
   · subst e; rw [if_pos (by omega), h0]
   · rw [if_neg (by omega)]
theorem rkJ_get (L Th : List Nat) (k i : Nat) (hi : i < Th.length) : (rkJ L Th k).getD i 0 = if i < k then rkV L (Th.getD i 0) else 0 := by
 unfold rkJ
 rw [getD_in (by simpa using hi)]
 simp
theorem own_made0 {w : World} {n : Nat} (hn : n ≤ 1000000) : (w.alloc (.cells ((List.replicate n (0 : Int)).map (Value.int .i64)).toArray 3)).ownsRow w.heap.size 3 1 (.slice (some ⟨w.heap.size, 0, none⟩) 0 n) 0 [] :=
 ⟨rfl, .inr ⟨w.heap.size, n, _, rfl, Nat.le_refl _, heap_alloc_new _ _, Nat.zero_le _, by unfold maxLen; omega, by simp, by simp⟩⟩
end Go.Proofs.YtimhpglfolbomabGreat.Od
namespace Go.Proofs.YtimhpglfolbomabGreat.Od
open Go.RowKit Go.Maps
def ByPP (p : Pa) (S : List Nat) (w : World) (e : Ending) (w' : World) : Prop :=
 ∃ L T, Rkd (levelT p) p S L ∧ lin (rwsT (toQ p.auth) (thT (toQ p.auth) S p.evs.length)) (rkT L (thT (toQ p.auth) S p.evs.length)) = some T ∧ RowP (zs (toldT (thT (toQ p.auth) S p.evs.length) (rkT L (thT (toQ p.auth) S p.evs.length)) T)) w e w'
theorem right_parts {p : Pa} (h : rightT p = true) : p.names.length = p.evs.length ∧ backT p.auth p.evs.length = true ∧ p.prev.length = p.evs.length ∧ p.den.length = p.evs.length := by
 unfold rightT at h
 simp only [Bool.and_eq_true, decide_eq_true_eq] at h
 exact ⟨h.1.1.1, h.2, (back_of h.1.2).2.2, h.1.1.2⟩
theorem byPower_ok {O : Nat → Prop} {w : World} {p : Pa} {q : Pq} {l : List Int} {pl : Option Addr} {cl : Nat} (h : IsPa (· < w.heap.size) w p q) (hz : SzPa p) (hs : SzEs p) (hr : rightT p = true) (hl : RdI O w pl cl l) (hO : ∀ k, O k → k < w.heap.size) (hll : l.length ≤ 1000) :
    Calls Tryz.prog 10 #[valPa p q, .slice pl l.length cl] w (ByPP p (thereT p.evs.length l) w) := by
 obtain ⟨hnl, hba, _, _⟩ := right_parts hr
 obtain ⟨W0, hW0⟩ : ∃ W0, W0 = w.alloc (.cells (cellsPa p q).toArray 27) := ⟨_, rfl⟩
 have hb0 : Below w.heap.size w W0 := by rw [hW0]; exact (Below.refl _ _).alloc (Nat.le_refl _) _
 have V : IsVP W0 w.heap.size p q := by rw [hW0]; exact isVP_new h
 have HB0 : Hid (Below w.heap.size w W0) := hb0
 have hRi := right_any V.pa hz
 rw [hr] at hRi
 have HLD : Hid (∀ X, Below W0.heap.size W0 X → (Instr.loadAt 27 (.pointer (some ⟨w.heap.size, 0, none⟩))).run Tryz.prog X = .ok (.agg (cellsPa p q).toArray) X) := fun X hX => (V.below hX).load
 have HTH : Hid (∀ X, Below W0.heap.size W0 X → Calls Tryz.prog 17 #[.agg (cellsPa p q).toArray, .slice pl l.length cl] X fun e w' => ∃ p1 c1, e = .returned (.slice p1 (zs (thereT p.evs.length l)).length c1) ∧ RdI (fun k => X.heap.size ≤ k ∧ k < w'.heap.size) w' p1 c1 (zs (thereT p.evs.length l)) ∧ Below X.heap.size X w') := fun X hX => (there_any (V.below hX).pa (hl.same (Same.of_below (belowP hb0 hX) hO)) (fun k hk => Nat.lt_of_lt_of_le (hO k hk) (belowP hb0 hX).size) hll).mono fun _ _ h => h.rd
 have hQ := (back_of hba).2.1
 have hSr := there_rises p.evs.length l
 have hSb : ∀ x ∈ thereT p.evs.length l, x < p.evs.length := fun x hx => (there_mem.1 hx).1
 have hen := hz.evs
 obtain ⟨S, hS⟩ : ∃ S, thereT p.evs.length l = S := ⟨_, rfl⟩
 rw [hS] at HTH hSr hSb ⊢
 have hnd : S.Nodup := hSr.imp fun h => by omega
 have hSl : S.length ≤ 30 := by
  have h1 := sub_len (l := S) (T := List.range p.evs.length) hnd (fun x hx => List.mem_range.2 (hSb x hx))
  simp at h1
  omega
 have HRK : Hid (∀ (X : World) (p1 : Option Addr) (c1 : Nat), Below W0.heap.size W0 X → RdI (· < X.heap.size) X p1 c1 (zs S) → Calls Tryz.prog 16 #[.agg (cellsPa p q).toArray, .slice p1 (zs S).length c1, .func (.func 30) #[] #[.pointer (some ⟨w.heap.size, 0, none⟩)]] X fun e w' => ∃ L, Rkd (levelT p) p S L ∧ ∃ p2 c2, e = .returned (.slice p2 (zs L).length c2) ∧ RdI (fun k => X.heap.size ≤ k ∧ k < w'.heap.size) w' p2 c2 (zs L) ∧ Below X.heap.size X w') := fun X p1 c1 hX hr1 => (ranked_any (V.below hX).pa (V.below hX) hz hs hnl hba hr1 (fun _ h => h) hnd hSb).mono fun _ _ ⟨L, h1, h2⟩ => ⟨L, h1, h2.rd⟩
 have HST : Hid (∀ (X : World) (L : List Nat) (p2 : Option Addr) (c2 : Nat), Rkd (levelT p) p S L → RdI (· < X.heap.size) X p2 c2 (zs L) → Calls Tryz.prog 29 #[.slice p2 (zs L).length c2] X (StandsP (zs L) X)) := fun X L p2 c2 hL hr2 => stands_any hr2 (fun _ h => h) (by rw [zs_len, hL.perm.length_eq]; omega) (fun x hx => by
  obtain ⟨y, hy, rfl⟩ := List.mem_map.1 hx
  have := hSb y (hL.perm.mem_iff.1 hy)
  exact wf_nat (by omega))
 have HCH : Hid (∀ (X : World) (p1 : Option Addr) (c1 : Nat), Below W0.heap.size W0 X → RdI (· < X.heap.size) X p1 c1 (zs S) → Calls Tryz.prog 33 #[.agg (cellsPa p q).toArray, .slice p1 (zs S).length c1] X fun e w' => ∃ p2 c2, e = .returned (.slice p2 (zs (chT (toQ p.auth) S)).length c2) ∧ RdI (fun k => X.heap.size ≤ k ∧ k < w'.heap.size) w' p2 c2 (zs (chT (toQ p.auth) S)) ∧ Below X.heap.size X w') := fun X p1 c1 hX hr1 => (chain_any (V.below hX).pa hz hba hr1 (fun _ h => h) hSr hSb).mono fun _ _ h => h.rd
 have hcl : (zs (chT (toQ p.auth) S)).length ≤ 30 := by
  have h1 := sub_len (l := chT (toQ p.auth) S) (T := List.range p.evs.length) ((cht_rises _ _).imp fun h => by omega) (fun x hx => List.mem_range.2 (ch_lt hQ hSb ((cht_mem hQ).1 hx)))
  rw [zs_len]
  simp at h1
  omega
 have hzl : (zs S).length ≤ 30 := by rw [zs_len]; exact hSl
 have HUN : Hid (∀ (X : World) (p0 : Option Addr) (c0 : Nat), RdR (· < X.heap.size) X p0 c0 [zs S, zs (chT (toQ p.auth) S)] → Calls Tryz.prog 32 #[.slice p0 2 c0] X fun e w' => ∃ p2 c2, e = .returned (.slice p2 (zs (thT (toQ p.auth) S p.evs.length)).length c2) ∧ RdI (fun k => X.heap.size ≤ k ∧ k < w'.heap.size) w' p2 c2 (zs (thT (toQ p.auth) S p.evs.length)) ∧ Below X.heap.size X w') := fun X p0 c0 hr0 => (union_any [zs S, zs (chT (toQ p.auth) S)] p0 c0 X hr0 (by simp) (fun x hx => by
     rcases List.mem_cons.1 hx with rfl | hx
     · omega
     · rw [List.mem_singleton.1 hx]; omega) (fun x hx y hy => by
     have key : ∀ m : List Nat, (∀ z ∈ m, z < p.evs.length) → ∀ y ∈ zs m, wf64 y := fun m hm y hy => by
      obtain ⟨z, hz', rfl⟩ := List.mem_map.1 hy
      have := hm z hz'
      exact wf_nat (by omega)
     rcases List.mem_cons.1 hx with rfl | hx
     · exact key S hSb y hy
     · rw [List.mem_singleton.1 hx] at hy
       exact key _ (fun z hz' => ch_lt hQ hSb ((cht_mem hQ).1 hz')) y hy)).mono fun _ w' ⟨v, l2, h1, h2, h3, _, h5⟩ => by
     rw [within_two hQ hSb h3] at h2
     exact RowP.rd ⟨v, h1, h2, h5⟩
 have hTr := thT_rises (toQ p.auth) S p.evs.length
 have hTl := thT_len (toQ p.auth) S p.evs.length
 have hTb : ∀ x ∈ thT (toQ p.auth) S p.evs.length, x < p.evs.length := fun x hx => ((thT_mem hQ hSb).1 hx).elim (hSb x) (ch_lt hQ hSb)
 have hTc : ∀ x ∈ thT (toQ p.auth) S p.evs.length, ∀ y ∈ par (toQ p.auth) x, y ∈ thT (toQ p.auth) S p.evs.length := fun x hx y hy => thT_chain hQ hSb hx hy
 unfold ByPP
 generalize thT (toQ p.auth) S p.evs.length = Th at *
 have HRW : Hid (∀ (X : World) (p1 : Option Addr) (c1 : Nat), Below W0.heap.size W0 X → RdI (· < X.heap.size) X p1 c1 (zs Th) → Calls Tryz.prog 35 #[.agg (cellsPa p q).toArray, .slice p1 (zs Th).length c1] X (RowsP (toQ p.auth) Th X)) := fun X p1 c1 hX hr1 => rows_any (V.below hX).pa hz hba hr1 (fun _ h => h) (by omega) hTb hTc
 have HLS : Hid (∀ L, ∃ T, lin (rwsT (toQ p.auth) Th) (rkT L Th) = some T ∧ linP ((rwsT (toQ p.auth) Th).map zs) (rkT L Th) = some T) := fun L => lin_some hQ hTr hTc
 have HRL : Hid (∀ x ∈ (rwsT (toQ p.auth) Th).map zs, x.length ≤ 1000) := fun x hx => by
  obtain ⟨y, hy, rfl⟩ := List.mem_map.1 hx
  obtain ⟨i, hi, rfl⟩ := List.mem_map.1 hy
  have h1 := row_len hz hba (hTb _ (getD_inm (d := 0) (List.mem_range.1 hi)))
  rw [zs_len]
  unfold rwT
  rw [List.length_map]
  omega
 have HTF : Hid (∀ L T, lin (rwsT (toQ p.auth) Th) (rkT L Th) = some T → (∀ x ∈ T, x < Th.length) ∧ T.length = Th.length) := fun L T h => by
  obtain ⟨h1, h2⟩ := lin_fit h
  have e : (rwsT (toQ p.auth) Th).length = Th.length := by simp [rwsT]
  rw [e] at h2
  exact ⟨fun x hx => by have := h1.lt x hx; omega, h2⟩
 have hP0 : ((rwsT (toQ p.auth) Th).map zs).length = Th.length := by simp [rwsT]
 have HLN : Hid (∀ (X : World) (c rb : Nat) (L T : List Nat), linP ((rwsT (toQ p.auth) Th).map zs) (rkT L Th) = some T → RdR (· < X.heap.size) X (some ⟨c, 0, none⟩) Th.length ((rwsT (toQ p.auth) Th).map zs) → RdI (· < X.heap.size) X (some ⟨rb, 0, none⟩) Th.length (rkT L Th) → Calls Tryz.prog 34 #[.slice (some ⟨c, 0, none⟩) Th.length Th.length, .slice (some ⟨rb, 0, none⟩) Th.length Th.length] X fun e w' => ∃ p2 c2, e = .returned (.tuple #[.slice p2 (zs T).length c2, .int .i64 0]) ∧ RdI (fun k => X.heap.size ≤ k ∧ k < w'.heap.size) w' p2 c2 (zs T) ∧ Below X.heap.size X w') := fun X c rb L T hT hr1 hr2 => by
  have h1 := linear_any ((rwsT (toQ p.auth) Th).map zs) (rkT L Th) _ _ _ _ X hr1 hr2 (by rw [hP0]; omega) HRL.out (by simp [rkT]; omega)
  rw [hP0, show (rkT L Th).length = Th.length by simp [rkT], hT] at h1
  refine h1.mono fun e w' ⟨v, e1, ho, hb⟩ => ?_
  obtain ⟨p2, c2, rfl, hr3⟩ := own_rd ho
  exact ⟨p2, c2, e1, hr3.carry (fun _ _ => rfl) fun k hk => ho.lt k hk, hb⟩
 clear V h hz hs hr hl hba hnl hb0 hSr hnd HRL hQ hP0
 have hzt : (zs Th).length = Th.length := zs_len Th
 rw [hzt] at HUN HRW
 obtain ⟨nt, hnt⟩ : ∃ nt, Th.length = nt := ⟨_, rfl⟩
 have HNT : Hid (Th.length = nt) := hnt
 have hnt30 : nt ≤ 30 := by omega
 have HRW2 : Hid (∀ (X : World) (p1 : Option Addr) (c1 : Nat), Below W0.heap.size W0 X → RdI (· < X.heap.size) X p1 c1 (zs Th) → Calls Tryz.prog 35 #[.agg (cellsPa p q).toArray, .slice p1 nt c1] X fun e w' => ∃ c, e = .returned (.slice (some ⟨c, 0, none⟩) nt nt) ∧ RdR (fun k => X.heap.size ≤ k ∧ k < w'.heap.size) w' (some ⟨c, 0, none⟩) nt ((rwsT (toQ p.auth) Th).map zs) ∧ Below X.heap.size X w') := fun X p1 c1 h1 h2 => by
  have := HRW.out X p1 c1 h1 h2
  unfold RowsP at this
  rw [hnt] at this
  exact this
 rw [hnt] at HUN HLN HTF hTl
 have HSB : Hid (∀ x ∈ S, x < p.evs.length) := hSb
 have HTB : Hid (∀ x ∈ Th, x < p.evs.length) := hTb
 obtain ⟨ns, hns⟩ : ∃ ns, (zs S).length = ns := ⟨_, rfl⟩
 rw [hns] at HTH HRK HCH hzl
 obtain ⟨nc, hnc⟩ : ∃ nc, (zs (chT (toQ p.auth) S)).length = nc := ⟨_, rfl⟩
 rw [hnc] at HCH hcl
 have HNS : Hid ((zs S).length = ns) := hns
 have HNC : Hid ((zs (chT (toQ p.auth) S)).length = nc) := hnc
 clear hzt hnt HRW hSb hTb hTc hTr hns hnc hTl hS
 generalize hnum : levelT p = num at *
 clear hnum
 unfold valPa at hRi ⊢
 generalize cellsPa p q = CP at *
 generalize chT (toQ p.auth) S = Cc at *
 generalize toQ p.auth = Q at *
 generalize p.evs.length = n1 at *
 generalize l.length = nl at *
 have hcur : Below W0.heap.size W0 W0 := Below.refl _ _
 go_enter Tryz.func10, Tryz.ntmps10
 go_upto_region 1 with fail
 rw [← hW0]
 clear hW0
 go_upto_region 7 with (first
  | (refine wpList_loadK rfl 27 _ rfl w.heap.size 0 rfl CP (HLD.out _ hcur) ?_)
  | (go_at_call 13; refine hRi.mono ?_; rintro e w1 ⟨rfl, hb1⟩; replace hcur := belowP hcur hb1; clear hRi hb1)
  | (go_at_call 17; refine (HTH.out _ hcur).mono ?_; rintro e w2 ⟨p1, c1, rfl, hr1, hb2⟩; replace hcur := belowP hcur hb2
     have HR1 : Hid (∀ X, Below w2.heap.size w2 X → RdI (· < X.heap.size) X p1 c1 (zs S)) := fun X hX => hr1.carry (Same.of_below hX fun k hk => hk.2) fun k hk => Nat.lt_of_lt_of_le hk.2 hX.size
     have hc2 : Below w2.heap.size w2 w2 := Below.refl _ _
     clear hb2 hr1)
  | (go_at_call 16; refine (HRK.out _ p1 c1 hcur (HR1.out _ hc2)).mono ?_; rintro e w3 ⟨L, hL, p2, c2, rfl, hr2, hb3⟩; replace hcur := belowP hcur hb3; replace hc2 := belowP hc2 hb3
     have HL : Hid (Rkd num p S L) := hL
     have hst := HST.out w3 L p2 c2 hL (hr2.carry (fun _ _ => rfl) fun k hk => hk.2)
     clear hb3 hL hr2)
  | (go_at_call 29; refine hst.mono ?_; rintro e w4 ⟨mb, N, rfl, hmb, hN, hM, hb4⟩; replace hcur := belowP hcur hb4; replace hc2 := belowP hc2 hb4
     have HM : Hid (∀ X, Below w4.heap.size w4 X → MapI X mb N (posI (zs L))) := fun X hX => hM.same (hX.block mb hM.lt)
     have HML : Hid (mb < w4.heap.size) := hM.lt
     have hc4 : Below w4.heap.size w4 w4 := Below.refl _ _
     clear hst hb4 hM hmb)
  | (go_at_call 33; refine (HCH.out _ p1 c1 hcur (HR1.out _ hc2)).mono ?_; rintro e w5 ⟨p3, c3, rfl, hr3, hb5⟩; replace hcur := belowP hcur hb5; replace hc2 := belowP hc2 hb5; replace hc4 := belowP hc4 hb5
     have HRR : Hid (∀ X, Hid (X = w5.alloc (.cells #[.slice p1 ns c1, .slice p3 nc c3] 28)) → RdR (· < X.heap.size) X (some ⟨w5.heap.size, 0, none⟩) 2 [zs S, zs Cc]) := fun X hX => by
      have hbx : Below w5.heap.size w5 X := by rw [hX.out]; exact (Below.refl _ _).alloc (Nat.le_refl _) _
      have hox : X.heap[w5.heap.size]? = some (.cells ([.slice p1 ns c1, .slice p3 nc c3] : List Value).toArray 28) := by rw [hX.out]; exact heap_alloc_new _ _
      have h1 := HR1.out X (belowP hc2 hbx)
      have h3 : RdI (· < X.heap.size) X p3 c3 (zs Cc) := hr3.carry (Same.of_below hbx fun k hk => hk.2) fun k hk => Nat.lt_of_lt_of_le hk.2 hbx.size
      refine ⟨by simp, fun j hj => ?_⟩
      match j, hj with
      | 0, _ => exact ⟨w5.heap.size, 0, p1, c1, rfl, obj_lt hox, by rw [show ([zs S, zs Cc] : List (List Int)).getD 0 [] = zs S from rfl, HNS.out]; exact cell_row hox 0 _ rfl, h1⟩
      | 1, _ => exact ⟨w5.heap.size, 0, p3, c3, rfl, obj_lt hox, by rw [show ([zs S, zs Cc] : List (List Int)).getD 1 [] = zs Cc from rfl, HNC.out]; exact cell_row hox 1 _ rfl, h3⟩
     clear hb5 hr3)
  | (go_at_call 32; refine (HUN.out _ _ _ (HRR.out _ rfl)).mono ?_; rintro e w6 ⟨p4, c4, rfl, hr4, hb6⟩
     have hb6' := belowP ((Below.refl w5.heap.size w5).alloc (Nat.le_refl _) _) hb6
     replace hcur := belowP hcur hb6'; replace hc2 := belowP hc2 hb6'; replace hc4 := belowP hc4 hb6'
     have HR4 : Hid (∀ X, Below w6.heap.size w6 X → RdI (· < X.heap.size) X p4 c4 (zs Th)) := fun X hX => hr4.carry (Same.of_below hX fun k hk => hk.2) fun k hk => Nat.lt_of_lt_of_le hk.2 hX.size
     clear hb6 hb6' hr4 HRR)
  | (refine wpList_longs rfl _ _ rfl nt (by omega) rfl rfl ?_; intro w7 hw7))
 have hb7 : Below w6.heap.size w6 w7 := by rw [hw7.out]; exact (Below.refl _ _).alloc (Nat.le_refl _) _
 obtain ⟨rb, hrb⟩ : ∃ rb, w6.heap.size = rb := ⟨_, rfl⟩
 have HRB : Hid (w6.heap.size = rb) := hrb
 have hI0 : Ik2 w7 rb (rkJ L Th 0) := by rw [rkJ_zero, HNT.out, hw7.out, ← hrb]; exact heap_alloc_new _ _
 have hs7 : w7.heap.size = rb + 1 := by rw [hw7.out, ← hrb]; simp
 have hc6 : Below w6.heap.size w6 w7 := hb7
 have hr46 : w4.heap.size ≤ rb := by rw [← hrb]; exact hc4.size
 have hr06 : W0.heap.size ≤ rb := by rw [← hrb]; exact hcur.size
 replace hcur := belowP hcur hb7
 replace hc2 := belowP hc2 hb7
 replace hc4 := belowP hc4 hb7
 have HI0 : Hid (Ik2 w7 rb (rkJ L Th 0)) := hI0
 have HCUR : Hid (Below W0.heap.size W0 w7) := hcur
 have HC4 : Hid (Below w4.heap.size w4 w7) := hc4
 have HC6 : Hid (Below w6.heap.size w6 w7) := hc6
 have HS7 : Hid (w7.heap.size = rb + 1) := hs7
 have HX7 : Hid (∀ X, Keep (· = rb) w7 X → Below W0.heap.size W0 X ∧ Below w4.heap.size w4 X ∧ Below w6.heap.size w6 X) := fun X hX => ⟨(HCUR.out).trans (hX.below (by have := HS7.out; omega) fun k hk => by omega), (HC4.out).trans (hX.below (by have := HS7.out; omega) fun k hk => by omega), (HC6.out).trans (hX.below (by have := HS7.out; have := HRB.out; omega) fun k hk => by have := HRB.out; omega)⟩
 have HLT : Hid (∀ i ∈ L, L.idxOf i < 31) := fun i hi => by
  have h1 := idx_lt hi
  rw [HL.out.perm.length_eq] at h1
  omega
 rw [hrb]
 clear hb7 hw7 hrb hI0 hs7 hc6 hcur hc2 hc4 HR1
 go_upto_region 8 with fail
 go_loopw [40] (fun i wr => ∃ k : Nat, k ≤ nt ∧ i = .int .i64 k ∧ Ik2 wr rb (rkJ L Th k) ∧ Keep (· = rb) w7 wr) (fun i _ => nt - (intOf i).toNat)
 case atStart => exact ⟨0, Nat.zero_le _, rfl, HI0.out, Keep.refl _ _⟩
 case round =>
  clear HI0
  obtain ⟨k, hk, rfl, hI, hkp⟩ := hrel
  obtain ⟨hx0, hx4, hx6⟩ := HX7.out wr hkp
  by_cases hlt : k < nt
  · have hkT : k < Th.length := by rw [HNT.out]; exact hlt
    obtain ⟨ad, rfl, _, hc⟩ := (HR4.out wr hx6).at k 0 (by rw [zs_len]; exact hkT)
    rw [zs_getD] at hc
    have hx := HTB.out _ (getD_inm (d := 0) hkT)
    have hcr := hI.cell k (by rw [rkJ_len]; exact hkT)
    rw [rkJ_get L Th k k hkT, if_neg (by omega)] at hcr
    have HSET : Hid (Ik2 (wr.setCell ⟨rb, k, none⟩ (.int .i64 (rkV L (Th.getD k 0)))) rb (rkJ L Th (k + 1))) := by show Ik2 _ _ _; rw [← rkJ_set L Th k hkT]; exact hI.set k _
    have HSAME : Hid (rkV L (Th.getD k 0) = 0 → rkJ L Th k = rkJ L Th (k + 1)) := fun h => rkJ_same L Th k h
    have hfz := hI.fz k
    have HII : Hid (Ik2 wr rb (rkJ L Th k)) := hI
    clear hI
    generalize Th.getD k 0 = x at *
    have hwx : wf64 (x : Int) := wf_nat (by omega)
    have hMw := HM.out wr hx4
    by_cases hxL : x ∈ L
    · have hps : posI (zs L) (x : Int) = some ((L.idxOf x : Nat) : Int) := by unfold posI; rw [if_pos ((zs_mem _ _).2 hxL), idx_zs]
      have hrv : rkV L x = ((L.idxOf x : Nat) : Int) + 1 := rkV_in hxL
      have hil := HLT.out x hxL
      rw [hrv] at HSET
      generalize L.idxOf x = t at *
      clear HSAME hrv hxL
      go_wp2_with (first
       | (at_lookup; refine wpList_lookupI rfl _ _ rfl mb N _ rfl hMw x hwx rfl ?_; rw [hps]; simp only [Option.getD_some, Option.isSome_some]))
      go_roundw
      case rel => exact ⟨k + 1, by omega, by go_num, HSET.out, hkp.setCell (p := ⟨rb, k, none⟩) (fun _ => rfl) _⟩
      case measure => simp [intOf]; try omega
    · have hps : posI (zs L) (x : Int) = none := by unfold posI; rw [if_neg (fun h => hxL ((zs_mem _ _).1 h))]
      have HS2 : Hid (rkJ L Th k = rkJ L Th (k + 1)) := HSAME.out (rkV_out hxL)
      clear HSET HSAME hxL
      go_wp2_with (first
       | (at_lookup; refine wpList_lookupI rfl _ _ rfl mb N _ rfl hMw x hwx rfl ?_; rw [hps]; simp only [Option.getD_none, Option.isSome_none]))
      go_roundw
      case rel => exact ⟨k + 1, by omega, by go_num, by rw [← HS2.out]; exact HII.out, hkp⟩
      case measure => simp [intOf]; try omega
  · obtain rfl : k = nt := by omega
    obtain ⟨T, hT1, hT2⟩ := HLS.out L
    obtain ⟨hTm, hTl⟩ := HTF.out L T hT1
    have HT1 : Hid (lin (rwsT Q Th) (rkT L Th) = some T) := hT1
    have HTM : Hid (∀ x ∈ T, x < k) := hTm
    rw [← HNT.out, rkJ_all] at hI
    have hrw := HRW2.out wr p4 c4 hx0 (HR4.out wr hx6)
    have HRR : Hid (∀ X, Below wr.heap.size wr X → RdI (· < X.heap.size) X (some ⟨rb, 0, none⟩) k (rkT L Th)) := fun X hX => (hI.rd k (by simp [rkT]; rw [HNT.out]; exact Nat.le_refl _)).carry (Same.of_below hX fun j hj => by cases hj; exact obj_lt hI) fun j hj => by cases hj; exact Nat.lt_of_lt_of_le (obj_lt hI) hX.size
    have HLIN : Hid (∀ X c, Below wr.heap.size wr X → RdR (· < X.heap.size) X (some ⟨c, 0, none⟩) k ((rwsT Q Th).map zs) → Calls Tryz.prog 34 #[.slice (some ⟨c, 0, none⟩) k k, .slice (some ⟨rb, 0, none⟩) k k] X fun e w' => ∃ p2 c2, e = .returned (.tuple #[.slice p2 (zs T).length c2, .int .i64 0]) ∧ RdI (fun j => X.heap.size ≤ j ∧ j < w'.heap.size) w' p2 c2 (zs T) ∧ Below X.heap.size X w') := fun X c hX hr => HLN.out X c rb L T hT2 hr (HRR.out X hX)
    have HIK : Hid (∀ X, Below wr.heap.size wr X → Ik2 X rb (rkT L Th)) := fun X hX => (hX.block rb (obj_lt hI)).trans hI
    have HWR : Hid (Below w6.heap.size w6 wr) := hx6
    have HWR0 : Hid (Below W0.heap.size W0 wr) := hx0
    have hIl := obj_lt hI
    have hzT : (zs T).length = k := by rw [zs_len]; exact hTl
    clear hT1 hT2 hTm HLS HTF HLN HRW2 hI hkp hx4 hlt hTl
    go_upto_region 16 with (first
     | (refine wpList_loadK rfl 27 _ rfl w.heap.size 0 rfl CP (HLD.out _ HWR0.out) ?_)
     | (go_at_call 35; refine hrw.mono ?_; rintro e w8 ⟨c8, rfl, hr8, hb8⟩
        have hlin := HLIN.out w8 c8 hb8 (hr8.carry (fun _ _ => rfl) fun j hj => hj.2)
        clear hrw hr8)
     | (go_at_call 34; refine hlin.mono ?_; rintro e w9 ⟨p9, c9, rfl, hr9, hb9⟩; clear hlin)
     | (refine wpList_ints rfl _ _ rfl 0 ns (Nat.zero_le _) (by omega) rfl rfl ?_; intro w10 hw10))
    have hb89 : Below wr.heap.size wr w9 := belowP hb8 hb9
    have hb10 : Below w9.heap.size w9 w10 := by rw [hw10.out]; exact (Below.refl _ _).alloc (Nat.le_refl _) _
    have hown0 : w10.ownsRow w9.heap.size 3 1 (.slice (some ⟨w9.heap.size, 0, none⟩) 0 ns) 0 [] := by rw [hw10.out]; exact own_made0 (by omega)
    have HR9 : Hid (∀ X, Below w9.heap.size w9 X → RdI (· < X.heap.size) X p9 c9 (zs T)) := fun X hX => hr9.carry (Same.of_below hX fun j hj => hj.2) fun j hj => Nat.lt_of_lt_of_le hj.2 hX.size
    have HW9 : Hid (Below wr.heap.size wr w9) := hb89
    have HB10 : Hid (Below w9.heap.size w9 w10) := hb10
    have hs9 := hb89.size
    have hs10 := hb10.size
    generalize hv0 : (Value.slice (some ⟨w9.heap.size, 0, none⟩) 0 ns) = v0 at *
    obtain ⟨B, hB⟩ : ∃ B, w9.heap.size = B := ⟨_, rfl⟩
    have HBB : Hid (w9.heap.size = B) := hB
    rw [hB] at hown0 hs9 hs10
    clear hw10 hb89 hb10 hb8 hb9 hr9 hB hv0
    have HOWN0 : Hid (w10.ownsRow B 3 1 v0 0 []) := hown0
    clear hown0
    have HWX : Hid (∀ X, Keep (fun j => B ≤ j) w10 X → Below w9.heap.size w9 X ∧ Below wr.heap.size wr X) := fun X hX => by
     have h9 := HBB.out
     have h1 : Below w9.heap.size w9 X := HB10.out.trans (hX.below (by omega) fun j hj => by omega)
     exact ⟨h1, belowP HW9.out h1⟩
    have HZT : Hid ((zs T).length = k) := hzT
    have HTK : Hid (T.length = k) := by show _ = _; rw [← zs_len]; exact hzT
    clear hzT
    go_upto_region 17 with fail
    go_loopw [15, 71] (fun v i wx => ∃ (j : Nat) (M : List Nat), j ≤ k ∧ i = .int .i64 j ∧ wx.ownsRow B 3 1 v (zs M).length ((zs M).map (Value.int .i64)) ∧ Hid (M = toldT Th (rkT L Th) (T.take j)) ∧ M.length ≤ j ∧ Keep (fun j => B ≤ j) w10 wx) (fun _ i _ => k - (intOf i).toNat)
    case atStart => exact ⟨0, [], Nat.zero_le _, rfl, HOWN0.out, rfl, Nat.le_refl _, Keep.refl _ _⟩
    case round =>
     clear HOWN0
     obtain ⟨j, M, hj, rfl, hown, HMT, hMl, hkp⟩ := hrel
     obtain ⟨hx9, hxr⟩ := HWX.out _ hkp
     by_cases hjt : j < k
     · have hjT : j < T.length := by rw [HTK.out]; exact hjt
       obtain ⟨ad9, rfl, _, hc9⟩ := (HR9.out _ hx9).at j 0 (by rw [HZT.out]; exact hjt)
       rw [zs_getD] at hc9
       have hxk := HTM.out _ (getD_inm (d := 0) hjT)
       have HNX : Hid (toldT Th (rkT L Th) (T.take (j + 1)) = toldT Th (rkT L Th) (T.take j) ++ if 0 < rk (rkT L Th) (T.getD j 0) then [Th.getD (T.getD j 0) 0] else []) := told_next hjT
       generalize T.getD j 0 = x at *
       have hcR := (HIK.out _ hxr).cell x (by simp [rkT]; rw [HNT.out]; exact hxk)
       change _ = some (Value.int .i64 (rk (rkT L Th) x)) at hcR
       have hxT : x < Th.length := by rw [HNT.out]; exact hxk
       obtain ⟨ad4, rfl, _, hc4⟩ := (HR4.out _ (belowP HWR.out hxr)).at x 0 (by rw [zs_len]; exact hxT)
       rw [zs_getD] at hc4
       generalize Th.getD x 0 = y at *
       have hws := hkp.size
       by_cases hr0 : 0 < rk (rkT L Th) x
       · have HN2 : Hid (M ++ [y] = toldT Th (rkT L Th) (T.take (j + 1))) := by show _ = _; rw [HNX.out, if_pos hr0, HMT.out]
         generalize rk (rkT L Th) x = r at *
         have hzm : (zs M).length ≤ 30 := by rw [zs_len]; omega
         clear HNX HMT
         go_wp2_with (first
          | (at_builtin; refine wpList_push rfl (.tmp 80) (.tmp 85) 28 3 (.int .i64 0) 8 rfl Tryz.underlying28 Tryz.info3 rfl (by decide) int_one B _ (zs M) rfl ?a0 _ (y : Int) rfl ?a1 ?a2 ?a3 ?_))
         case a0 => exact hown.alloc _
         case a1 => exact cell_row (cur := [_]) (heap_alloc_new _ _) 0 _ rfl
         case a2 => omega
         case a3 => simp; omega
         intro v' w12 ho12 hg12 _
         have ho13 := own_snoc ho12
         have hk12 := (hkp.alloc (.cells #[.int .i64 (y : Int)] 3)).trans (Keep.of_grown (S := fun j => B ≤ j) hg12 fun j _ e => (hown.lt j e).1) fun _ _ h => h
         clear ho12 hg12
         go_wp2
         go_roundw
         case rel => exact ⟨j + 1, M ++ [y], by omega, by go_num, by rw [show zs (M ++ [y]) = zs M ++ [(y : Int)] by simp [zs]]; exact ho13, HN2, by simp; omega, hk12⟩
         case measure => simp [intOf]; try omega
       · have HN2 : Hid (M = toldT Th (rkT L Th) (T.take (j + 1))) := by show _ = _; rw [HNX.out, if_neg hr0, List.append_nil, HMT.out]
         have d0 : decide (0 < rk (rkT L Th) x) = false := decide_eq_false hr0
         generalize rk (rkT L Th) x = r at *
         clear HNX HMT
         go_wp2
         go_roundw
         case rel => exact ⟨j + 1, M, by omega, by go_num, hown, HN2, by omega, hkp⟩
         case measure => simp [intOf]; try omega
     · obtain rfl : j = k := by omega
       have HMM : Hid (M = toldT Th (rkT L Th) T) := by
        have := HMT.out
        rw [← HTK.out, List.take_length] at this
        exact this
       have hbw := belowP HWR0.out hxr
       have hz0 := HB0.out.size
       have hz1 := HWR0.out.size
       have hz2 := HW9.out.size
       have hz3 := HBB.out
       go_wp2
       go_ret
       refine ⟨L, T, HL.out, HT1.out, _, rfl, ?_, belowP HB0.out hbw⟩
       rw [← HMM.out]
       exact own_le hown (by omega)
end Go.Proofs.YtimhpglfolbomabGreat.Od
namespace Go.Proofs.YtimhpglfolbomabGreat.Od
open Go.RowKit Go.Maps Go.Shelf
theorem loadM2 {w : World} {b : Nat} {a0 a1 : Value} (h : w.heap[b]? = some (.cells #[a0, a1] 45 (0, 0))) : (loadVar 45 ⟨b, 0, none⟩).run Tryz.prog w = .ok (.agg #[a0, a1]) w := by
 have k0 := cellP h 0 _ rfl; have k1 := cellP h 1 _ rfl
 simp [loadVar, go_sem, k0, k1]
theorem measure_any {O : Nat → Prop} {w : World} {l : List Int} {p : Option Addr} {c : Nat} (hr : RdI O w p c l) (hO : ∀ k, O k → k < w.heap.size) (hl : l.length ≤ 1000) (hw : ∀ x ∈ l, wf64 x) :
    Calls Tryz.prog 14 #[.slice p l.length c] w fun e w' => ∃ b N, e = .returned (.agg #[.map (some b), .int .i64 (l.length : Int)]) ∧ w.heap.size ≤ b ∧ N ≤ 1000 ∧ MapI w' b N (posI l) ∧ Below w.heap.size w w' := by
 obtain ⟨W0, hW0⟩ : ∃ W0, W0 = w.alloc (.cells #[.map none, .int .i64 0] 45) := ⟨_, rfl⟩
 have hb0 : Below w.heap.size w W0 := by rw [hW0]; exact (Below.refl _ _).alloc (Nat.le_refl _) _
 have h0 : W0.heap[w.heap.size]? = some (.cells #[.map none, .int .i64 0] 45 (0, 0)) := by rw [hW0]; exact newP _
 have hs0 : W0.heap.size = w.heap.size + 1 := by rw [hW0]; simp only [World.size_alloc]
 have HS : Hid (Calls Tryz.prog 29 #[.slice p l.length c] W0 (StandsP l W0)) := stands_any (hr.same (Same.of_below hb0 hO)) (fun k hk => Nat.lt_of_lt_of_le (hO k hk) hb0.size) hl hw
 clear hr hw
 generalize hn : l.length = n at HS ⊢
 go_enter Tryz.func14, Tryz.ntmps14
 go_upto_region 1 with fail
 rw [← hW0]
 clear hW0
 go_wp2_with (go_at_call 29; refine HS.out.mono ?_; rintro e w1 ⟨b, N, rfl, hb, hN, hM, hb1⟩; have h1 := (hb1.block _ (objP_lt h0)).trans h0; have r0 := cellP h1 0 _ rfl; have r1 := cellP h1 1 _ rfl; have z0 := fzP h1 0; have z1 := fzP h1 1)
 have h5 := setL_all (b := w.heap.size) [.map (some b), .int .i64 n] h1 rfl
 have HK5 := setL_keep (w.heap.size) [.map (some b), .int .i64 n] w1 0
 simp only [setL, Nat.zero_add] at h5 HK5
 refine bodyPost_ret (resultsP_cell rfl _ _ _ rfl (loadM2 h5)) rfl ?_
 have hbb := hM.lt
 refine ⟨b, N, rfl, by omega, hN, hM.same (HK5.block b hbb (by unfold OneP; omega)), ?_⟩
 have hk2 := belowP hb0 hb1
 exact ⟨HK5.os.trans hk2.os, HK5.tape.trans hk2.tape, HK5.output.trans hk2.output, Nat.le_trans hk2.size HK5.size, fun k hk => (HK5.block k (Nat.lt_of_lt_of_le hk hk2.size) (by unfold OneP; omega)).trans (hk2.block k hk)⟩
def nearV (p : Pa) (l : List Int) (i : Int) : Int := if rightT p then nearT (posI l) (l.length : Int) (wayT p i) else (l.length : Int)
theorem pos_wf {l : List Int} (hl : l.length ≤ 1000) : ∀ x c, posI l x = some c → wf64 c := fun x c h => by
 unfold posI at h
 split at h
 · rename_i hx
   cases h
   have := List.idxOf_lt_length_of_mem hx
   exact wf_nat (by omega)
 · cases h
theorem nearP_any {O : Nat → Prop} {w : World} {p : Pa} {q : Pq} {l : List Int} {pl : Option Addr} {cl : Nat} (h : IsPa (· < w.heap.size) w p q) (hz : SzPa p) (hl : RdI O w pl cl l) (hO : ∀ k, O k → k < w.heap.size) (hll : l.length ≤ 1000) (hw : ∀ x ∈ l, wf64 x) (i : Int) :
    Calls Tryz.prog 28 #[valPa p q, .slice pl l.length cl, .int .i64 i] w fun e w' => e = .returned (.int .i64 (nearV p l i)) ∧ Below w.heap.size w w' := by
 obtain ⟨W0, hW0⟩ : ∃ W0, W0 = w.alloc (.cells (cellsPa p q).toArray 27) := ⟨_, rfl⟩
 have hb0 : Below w.heap.size w W0 := by rw [hW0]; exact (Below.refl _ _).alloc (Nat.le_refl _) _
 have V : IsVP W0 w.heap.size p q := by rw [hW0]; exact isVP_new h
 have hR := right_any V.pa hz
 have HLD : Hid (∀ X, Below W0.heap.size W0 X → (Instr.loadAt 27 (.pointer (some ⟨w.heap.size, 0, none⟩))).run Tryz.prog X = .ok (.agg (cellsPa p q).toArray) X) := fun X hX => (V.below hX).load
 have HME : Hid (∀ X, Below W0.heap.size W0 X → Calls Tryz.prog 14 #[.slice pl l.length cl] X fun e w' => ∃ b N, e = .returned (.agg #[.map (some b), .int .i64 (l.length : Int)]) ∧ X.heap.size ≤ b ∧ N ≤ 1000 ∧ MapI w' b N (posI l) ∧ Below X.heap.size X w') := fun X hX => measure_any (hl.same (Same.of_below (belowP hb0 hX) hO)) (fun k hk => Nat.lt_of_lt_of_le (hO k hk) (belowP hb0 hX).size) hll hw
 have HNV : Hid (nearV p l i = if rightT p then nearT (posI l) (l.length : Int) (wayT p i) else (l.length : Int)) := rfl
 have HNE : Hid (rightT p = true → ∀ X b N, Below W0.heap.size W0 X → MapI X b N (posI l) → N ≤ 1000 → Calls Tryz.prog 19 #[.agg #[.map (some b), .int .i64 (l.length : Int)], .agg (cellsPa p q).toArray, .int .i64 i] X fun e w' => e = .returned (.int .i64 (nearT (posI l) (l.length : Int) (wayT p i))) ∧ Keep (· = b) X w') := fun hr X b N hX hM hN => (near_any (V.below hX).pa hz (right_parts hr).2.1 hM (Nat.le_trans hN (by decide)) (pos_wf hll) (wf_nat (by omega)) i).mono fun _ _ h => ⟨h.1, h.2.2⟩
 clear V h hz hl hw
 unfold valPa at hR ⊢
 generalize nearV p l i = R at HNV ⊢
 generalize nearT (posI l) (l.length : Int) (wayT p i) = NT at HNV HNE
 generalize l.length = n at HME HNV HNE hll ⊢
 generalize cellsPa p q = CP at hR HLD HNE hW0 ⊢
 go_enter Tryz.func28, Tryz.ntmps28
 go_upto_region 1 with fail
 rw [← hW0]
 clear hW0
 cases hr : rightT p with
 | false =>
  have HR2 : Hid (R = (n : Int)) := by show _ = _; rw [HNV.out, hr]; rfl
  rw [hr] at hR
  clear hr
  go_wp2_with (first
   | (refine wpList_loadK rfl 27 _ rfl w.heap.size 0 rfl CP (HLD.out _ (Below.refl _ _)) ?_)
   | (go_at_call 13; refine hR.mono ?_; rintro e w1 ⟨rfl, hb1⟩))
  go_ret
  exact ⟨by rw [HR2.out]; rfl, belowP hb0 hb1⟩
 | true =>
  have HR2 : Hid (R = NT) := by show _ = _; rw [HNV.out, hr]; rfl
  have HNE2 := (show Hid _ from HNE.out hr)
  rw [hr] at hR
  clear hr HNE
  go_upto_region 3 with (first
   | (refine wpList_loadK rfl 27 _ rfl w.heap.size 0 rfl CP (HLD.out _ (Below.refl _ _)) ?_)
   | (go_at_call 13; refine hR.mono ?_; rintro e w1 ⟨rfl, hb1⟩))
  clear hR
  have HBW : Hid (Below W0.heap.size W0 w1) := hb1
  clear hb1
  refine wp_region_in (by kernel_rfl) (fun w' => Below w1.heap.size w1 w') ?_
  change wpIn _ _ _ _ _ _ _ _ (World.drew _)
  have hD : Below w1.heap.size w1 w1.drew := (Below.refl _ _).drew
  refine wpIn_tk (i := 0) (d := some 12) rfl ?_
  refine wpIn_take (i := 2) (d := (some 14)) (v := .agg CP.toArray) (a' := ?aw2) rfl rfl (by kernel_rfl) (by kernel_rfl) (by kernel_rfl) (fun _ _ _ h => h) (Or.inl ⟨by rfl, ?yw2⟩) ?fw2 ?_
  case yw2 => exact fun wq hq => exec_loadR rfl rfl (HLD.out wq (belowP HBW.out hq))
  case fw2 => (go_frame; rfl)
  refine wpIn_tk (i := 3) (d := some 15) rfl ?_
  refine wpIn_do (i := 1) hD (by kernel_rfl) rfl (by rfl) ?_
  intro K hK
  go_simp
  go_wp2_with (go_at_call 14; refine (HME.out _ (belowP HBW.out hD)).mono ?_; rintro e w2 ⟨b, N, rfl, hb, hN, hM, hb2⟩)
  have hD2 : Below w1.heap.size w1 w2 := belowP hD hb2
  have hbw : w1.heap.size ≤ b := hb
  clear hb
  refine wpIn_do (i := 4) hD2 (by kernel_rfl) rfl (by rfl) ?_
  intro K hK
  go_simp
  go_wp2_with (go_at_call 19; refine (HNE2.out _ b N (belowP HBW.out hD2) hM hN).mono ?_; rintro e w3 ⟨rfl, hb3⟩)
  have hD3 : Below w1.heap.size w1 w3 := ⟨hb3.os.trans hD2.os, hb3.tape.trans hD2.tape, hb3.output.trans hD2.output, Nat.le_trans hD2.size hb3.size, fun k hk => (hb3.block k (Nat.lt_of_lt_of_le hk hD2.size) (by omega)).trans (hD2.block k hk)⟩
  refine wpIn_tk (i := 5) (d := some 6) rfl ?_
  refine wpIn_done hD3 (by kernel_rfl) ?_ _
  go_wp2
  go_ret
  exact ⟨by rw [HR2.out]; rfl, belowP hb0 (belowP HBW.out hD3)⟩
end Go.Proofs.YtimhpglfolbomabGreat.Od

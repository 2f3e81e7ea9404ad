/-
  The document's Line: by a contract.
  The document's Near: by a contract.
  The document's set and younger: by contracts.
  What stands first is taken out, again and again: the row ranked.
  What near puts down changes no answer of near.
-/
import Derived.Test.YtimhpglfolbomabGreatRL16
set_option maxRecDepth 100000
set_option maxHeartbeats 16000000
namespace Go.Proofs.YtimhpglfolbomabGreat.Od
open Go.RowKit Go.Maps
def restT (p : Pa) : Option Nat → List Nat
 | some j => lineT p j
 | none => []
theorem rest_next {p : Pa} (hr : backT p.auth p.evs.length = true) (j : Nat) : restT p (some j) = j :: restT p (leansT p j tPower) := by
 show lineT p j = _
 rw [lineT_eq hr]
 cases leansT p j tPower <;> rfl
theorem rline_any {w : World} {p : Pa} {q : Pq} (h : IsPa (· < w.heap.size) w p q) (hz : SzPa p) (i : Int) :
    Calls Tryz.prog 21 #[valPa p q, .int .i64 i] w (RowP (zs (lineV p i)) w) := by
 obtain ⟨W0, hW0⟩ : ∃ W0, W0 = w.alloc (.cells (cellsPa p q).toArray 27) := ⟨_, rfl⟩
 have hb0 : Below w.heap.size w W0 := by rw [hW0]; exact (Below.refl _ _).alloc (Nat.le_refl _) _
 have V : IsVP W0 w.heap.size p q := by rw [hW0]; exact isVP_new h
 have HLD : Hid (∀ X, Below W0.heap.size W0 X → (Instr.loadAt 27 (.pointer (some ⟨w.heap.size, 0, none⟩))).run Tryz.prog X = .ok (.agg (cellsPa p q).toArray) X) := fun X hX => (V.below hX).load
 have hRi := rright_any V.pa hz
 have HCL : Hid (∀ X, Below W0.heap.size W0 X → X.cell? ⟨w.heap.size, 1, none⟩ = some (.slice q.e p.evs.length q.ce)) := fun X hX => (V.below hX).c1
 have hen := hz.evs
 have hB0 : Below W0.heap.size W0 W0 := Below.refl _ _
 cases hr : rightT p with
 | false =>
  have HR : Hid (lineV p i = []) := by show _ = _; unfold lineV; rw [hr]; rfl
  rw [hr] at hRi
  clear V h hz hr
  unfold valPa at hRi ⊢
  generalize cellsPa p q = CP at *
  go_enter Tryz.func21, Tryz.ntmps21
  go_upto_region 1 with fail
  rw [← hW0]
  clear hW0
  go_wp2_with (first
   | (refine wpList_loadK rfl 27 _ rfl w.heap.size 0 rfl CP (HLD.out _ hB0) ?_)
   | (go_at_call 20; refine hRi.mono ?_; rintro e w1 ⟨rfl, hb1⟩))
  go_ret
  rw [HR.out]
  exact ⟨_, rfl, World.ownsRow_nil _ _ _ _, belowP hb0 hb1⟩
 | true =>
 rw [hr] at hRi
 by_cases hi0 : i < 0
 · have HR : Hid (lineV p i = []) := by show _ = _; unfold lineV wayT; rw [if_neg (fun hh : 0 ≤ i ∧ i < (p.evs.length : Int) => by omega)]; split <;> rfl
   have d0 : decide (i < 0) = true := decide_eq_true hi0
   clear V h hz hr
   unfold valPa at hRi ⊢
   generalize cellsPa p q = CP at *
   go_enter Tryz.func21, Tryz.ntmps21
   go_upto_region 1 with fail
   rw [← hW0]
   clear hW0
   go_wp2_with (first
    | (refine wpList_loadK rfl 27 _ rfl w.heap.size 0 rfl CP (HLD.out _ hB0) ?_)
    | (go_at_call 20; refine hRi.mono ?_; rintro e w1 ⟨rfl, hb1⟩))
   go_ret
   rw [HR.out]
   exact ⟨_, rfl, World.ownsRow_nil _ _ _ _, belowP hb0 hb1⟩
 have d0 : decide (i < 0) = false := decide_eq_false hi0
 by_cases hi1 : (p.evs.length : Int) ≤ i
 · have HR : Hid (lineV p i = []) := by show _ = _; unfold lineV wayT; rw [if_neg (fun hh : 0 ≤ i ∧ i < (p.evs.length : Int) => by omega)]; split <;> rfl
   clear V h hz hr
   unfold valPa at hRi ⊢
   generalize lineV p i = R at *
   generalize cellsPa p q = CP at *
   generalize p.evs.length = n1 at *
   have d1 : decide ((n1 : Int) ≤ i) = true := decide_eq_true hi1
   go_enter Tryz.func21, Tryz.ntmps21
   go_upto_region 1 with fail
   rw [← hW0]
   clear hW0
   go_wp2_with (first
    | (refine wpList_loadK rfl 27 _ rfl w.heap.size 0 rfl CP (HLD.out _ hB0) ?_)
    | (go_at_call 20; refine hRi.mono ?_; rintro e w1 ⟨rfl, hb1⟩; have c1 := HCL.out _ hb1))
   go_ret
   rw [HR.out]
   exact ⟨_, rfl, World.ownsRow_nil _ _ _ _, belowP hb0 hb1⟩
 obtain ⟨x, rfl⟩ : ∃ x : Nat, i = (x : Int) := ⟨i.toNat, by omega⟩
 have hi : x < p.evs.length := by omega
 have hba := (right_parts hr).2.1
 have HRV : Hid (lineV p (x : Int) = restT p (some x)) := by
  show _ = _
  unfold lineV wayT
  rw [hr, if_pos (show 0 ≤ (x : Int) ∧ (x : Int) < (p.evs.length : Int) by omega)]
  simp [restT]
 have HLL : Hid ((restT p (some x)).length ≤ 30) := by have := lineT_len hba x; show (lineT p x).length ≤ 30; omega
 have HNX : Hid (∀ j, restT p (some j) = j :: restT p (leansT p j tPower)) := fun j => rest_next hba j
 have HLT : Hid (∀ j k, leansT p j tPower = some k → k < j) := fun j k h => leans_lt hba h
 have HLN : Hid (∀ X j, Below W0.heap.size W0 X → j < p.evs.length → Calls Tryz.prog 52 #[.agg (cellsPa p q).toArray, .int .i64 (j : Int), .string tPower] X fun e w' => e = .returned (.int .i64 (rleanV (leansT p j tPower))) ∧ Below X.heap.size X w') := fun X j hX hj => rleans_any (V.below hX).pa hz hba j hj tPower
 clear V h hz hr hba
 unfold valPa at hRi ⊢
 generalize lineV p (x : Int) = R at *
 generalize cellsPa p q = CP at *
 generalize p.evs.length = n1 at *
 have d1 : decide ((n1 : Int) ≤ (x : Int)) = false := decide_eq_false hi1
 have d2 : decide (n1 ≤ x) = false := decide_eq_false (by omega)
 go_enter Tryz.func21, Tryz.ntmps21
 go_upto_region 1 with fail
 rw [← hW0]
 clear hW0
 go_upto_region 4 with (first
  | (refine wpList_loadK rfl 27 _ rfl w.heap.size 0 rfl CP (HLD.out _ hB0) ?_)
  | (go_at_call 20; refine hRi.mono ?_; rintro e w1 ⟨rfl, hb1⟩; have c1 := HCL.out _ hb1))
 clear c1 HCL hRi
 obtain ⟨B, hB⟩ : ∃ B, w1.heap.size = B := ⟨_, rfl⟩
 have HBB : Hid (w1.heap.size = B) := hB
 have HKB : Hid (∀ X, Keep (fun k => B ≤ k) w1 X → Below W0.heap.size W0 X) := fun X hX => hb1.trans (hX.below hb1.size fun k hk e => by have := hb1.size; have := HBB.out; omega)
 clear hB
 go_loopw [1, 5] (fun i v wr => ∃ (o : Option Nat) (M : List Nat), i = .int .i64 (rleanV o) ∧ (∀ j, o = some j → j < n1) ∧ wr.ownsRow B 3 1 v (zs M).length ((zs M).map (Value.int .i64)) ∧ Hid (restT p (some x) = M ++ restT p o) ∧ Keep (fun k => B ≤ k) w1 wr) (fun i _ _ => (intOf i + 1).toNat)
 case atStart => exact ⟨some x, [], rfl, fun j hj => by cases hj; exact hi, World.ownsRow_nil _ _ _ _, rfl, Keep.refl _ _⟩
 case round =>
  obtain ⟨o, M, rfl, hoj, hown, HM, hkp⟩ := hrel
  have hBW := HKB.out wr hkp
  cases o with
  | none =>
   have HE : Hid (R = M) := by show _ = _; rw [HRV.out, HM.out]; simp [restT]
   rw [show rleanV none = -1 from rfl]
   clear HM HNX HLT HLN
   go_wp2
   go_ret
   rw [HE.out]
   have := HBB.out
   exact RowP.of_own hown (by have := hb1.size; have := hb0.size; omega) (belowP hb0 hBW)
  | some j =>
   have hj := hoj j rfl
   rw [show rleanV (some j) = (j : Int) from rfl]
   have HM2 : Hid (restT p (some x) = (M ++ [j]) ++ restT p (leansT p j tPower)) := by show _ = _; rw [HM.out, HNX.out j]; simp
   have hMl : (zs M).length ≤ 30 := by
    have h1 := HLL.out
    rw [HM2.out] at h1
    rw [zs_len]
    simp at h1
    omega
   have HO : Hid (∀ k, leansT p j tPower = some k → k < j) := HLT.out j
   have HLJ : Hid (∀ X, Below W0.heap.size W0 X → Calls Tryz.prog 52 #[.agg CP.toArray, .int .i64 (j : Int), .string tPower] X fun e w' => e = .returned (.int .i64 (rleanV (leansT p j tPower))) ∧ Below X.heap.size X w') := fun X hX => HLN.out X j hX hj
   generalize leansT p j tPower = o2 at *
   have hws := hkp.size
   clear HM hoj
   go_upto_region 6 with (first
    | (at_builtin; refine wpList_push rfl (.tmp 22) (.tmp 24) 28 3 (.int .i64 0) 8 rfl Tryz.underlying28 Tryz.info3 rfl (by decide) int_one B _ (zs M) rfl ?a0 _ (j : Int) rfl ?a1 ?a2 ?a3 ?_))
   case a0 => exact hown.alloc _
   case a1 => exact cell_row (cur := [_]) (heap_alloc_new _ _) 0 _ rfl
   case a2 => omega
   case a3 => have := HBB.out; simp; omega
   intro v' w12 ho12 hg12 _
   have ho13 := own_snoc ho12
   have hk12 := (hkp.alloc (.cells #[.int .i64 (j : Int)] 3)).trans (Keep.of_grown (S := fun j => B ≤ j) hg12 fun j _ e => (hown.lt j e).1) fun _ _ h => h
   have hB12 := HKB.out _ hk12
   have ho14 : Hid (w12.ownsRow B 3 1 v' (zs (M ++ [j])).length ((zs (M ++ [j])).map (Value.int .i64))) := by rw [show zs (M ++ [j]) = zs M ++ [(j : Int)] by simp [zs]]; exact ho13
   clear ho12 hg12 ho13 hown
   go_wp2_with (first
    | (refine wpList_loadK rfl 27 _ rfl w.heap.size 0 rfl CP (HLD.out _ hB12) ?_)
    | (go_at_call 52; refine (HLJ.out _ hB12).mono ?_; rintro e w13 ⟨rfl, hb13⟩))
   have ho15 := own_keep (S := fun _ => False) ho14.out ⟨hb13.os, hb13.tape, hb13.output, hb13.size, fun k hk _ => hb13.block k hk⟩ fun _ _ h => h
   have hk13 : Keep (fun k => B ≤ k) w1 w13 := hk12.trans (Keep.of_below (S := fun _ => False) hb13) fun _ _ h => h.elim
   go_roundw
   case rel => exact ⟨o2, M ++ [j], rfl, fun k hk => by have := HO.out k hk; omega, ho15, HM2, hk13⟩
   case measure =>
    have := HO.out
    cases o2 with
    | none => simp [intOf, rleanV]; try omega
    | some k => have := this k rfl; simp [intOf, rleanV]; try omega
theorem near_line (p : Pa) (l : List Int) (i : Int) : nearV p l i = nearT (posI l) (l.length : Int) (lineV p i) := by
 unfold nearV lineV
 split <;> rfl
theorem near_drop {F : Int → Option Int} {k0 : Int} : ∀ (L : List Nat) (k : Nat), (∀ j, j < k → j < L.length → F ((L.getD j 0 : Nat) : Int) = none) → nearT F k0 L = nearT F k0 (L.drop k)
 | [], k, _ => by rw [List.drop_nil]
 | x :: r, 0, _ => rfl
 | x :: r, k + 1, h => by
  have h0 : F (x : Int) = none := h 0 (by omega) (by simp)
  show (match F (x : Int) with | some c => c | none => nearT F k0 r) = nearT F k0 (r.drop k)
  rw [h0]
  exact near_drop r k fun j hj hl => h (j + 1) (by omega) (by simpa using hl)
theorem near_found {l : List Int} {L : List Nat} {k0 : Int} {k n : Nat} (hk : k < L.length) (hn : n < l.length) (h1 : ∀ j, j < k → ((L.getD j 0 : Nat) : Int) ∉ l) (h2 : ∀ j, j < n → l.getD j 0 ≠ ((L.getD k 0 : Nat) : Int)) (h3 : l.getD n 0 = ((L.getD k 0 : Nat) : Int)) : nearT (posI l) k0 L = (n : Int) := by
 rw [near_drop L k fun j hj _ => by unfold posI; rw [if_neg (h1 j hj)]]
 rw [List.drop_eq_getElem_cons hk]
 have e : L[k] = L.getD k 0 := (getD_in hk).symm
 have hm : ((L.getD k 0 : Nat) : Int) ∈ l := by rw [← h3, getD_in hn]; exact List.getElem_mem hn
 rw [e]
 generalize L.getD k 0 = x at *
 show (match posI l (x : Int) with | some c => c | none => nearT (posI l) k0 (L.drop (k + 1))) = (n : Int)
 unfold posI
 rw [if_pos hm]
 show ((l.idxOf (x : Int) : Nat) : Int) = (n : Int)
 have h4 : l.idxOf (x : Int) = n := by
  have hil := List.idxOf_lt_length_iff.2 hm
  have hg : l[l.idxOf (x : Int)] = (x : Int) := List.getElem_idxOf hil
  rcases Nat.lt_trichotomy (l.idxOf (x : Int)) n with h | h | h
  · exact absurd (by rw [getD_in hil]; exact hg) (h2 _ h)
  · exact h
  · exfalso
    have := List.not_of_lt_findIdx (p := fun y => y == (x : Int)) (xs := l) (i := n) h
    rw [getD_in hn] at h3
    simp [h3] at this
 omega
theorem near_none {l : List Int} {L : List Nat} {k0 : Int} (h1 : ∀ j, j < L.length → ((L.getD j 0 : Nat) : Int) ∉ l) : nearT (posI l) k0 L = k0 := by
 refine (near_all fun x hx => ?_).1
 obtain ⟨j, hj, rfl⟩ := List.getElem_of_mem hx
 have := h1 j hj
 rw [getD_in hj] at this
 unfold posI
 rw [if_neg this]
theorem rnear_any {O : Nat → Prop} {w : World} {p : Pa} {q : Pq} {l : List Int} {pl : Option Addr} {cl : Nat} (h : IsPa (· < w.heap.size) w p q) (hz : SzPa p) (hl : RdI O w pl cl l) (hO : ∀ k, O k → k < w.heap.size) (hll : l.length ≤ 1000) (i : Int) :
    Calls Tryz.prog 23 #[valPa p q, .slice pl l.length cl, .int .i64 i] w fun e w' => e = .returned (.int .i64 (nearV p l i)) ∧ Below w.heap.size w w' := by
 obtain ⟨W0, hW0⟩ : ∃ W0, W0 = w.alloc (.cells (cellsPa p q).toArray 27) := ⟨_, rfl⟩
 have hb0 : Below w.heap.size w W0 := by rw [hW0]; exact (Below.refl _ _).alloc (Nat.le_refl _) _
 have V : IsVP W0 w.heap.size p q := by rw [hW0]; exact isVP_new h
 have HLD : Hid ((Instr.loadAt 27 (.pointer (some ⟨w.heap.size, 0, none⟩))).run Tryz.prog W0 = .ok (.agg (cellsPa p q).toArray) W0) := V.load
 have hLine := (rline_any V.pa hz i).mono fun _ _ h => RowP.rd h
 have HNV : Hid (nearV p l i = nearT (posI l) (l.length : Int) (lineV p i)) := near_line p l i
 have HLR : Hid (∀ X, Below W0.heap.size W0 X → RdI O X pl cl l) := fun X hX => hl.same (Same.of_below (belowP hb0 hX) hO)
 have HLN : Hid ((lineV p i).length ≤ 30) := by
  show (lineV p i).length ≤ 30
  unfold lineV wayT
  split
  · rename_i hr
    split
    · have := lineT_len (right_parts hr).2.1 i.toNat
      have := hz.evs
      omega
    · simp
  · simp
 clear V h hz hl
 have HFO : Hid (∀ k n, k < (lineV p i).length → n < l.length → (∀ j, j < k → (((lineV p i).getD j 0 : Nat) : Int) ∉ l) → (∀ j, j < n → l.getD j 0 ≠ (((lineV p i).getD k 0 : Nat) : Int)) → l.getD n 0 = (((lineV p i).getD k 0 : Nat) : Int) → nearV p l i = (n : Int)) := fun k n a b c d e => by rw [HNV.out]; exact near_found a b c d e
 have HNO : Hid ((∀ j, j < (lineV p i).length → (((lineV p i).getD j 0 : Nat) : Int) ∉ l) → nearV p l i = (l.length : Int)) := fun a => by rw [HNV.out]; exact near_none a
 clear HNV
 unfold valPa at hLine ⊢
 generalize nearV p l i = R at *
 generalize lineV p i = L at *
 generalize cellsPa p q = CP at *
 obtain ⟨m, hm⟩ : ∃ m, L.length = m := ⟨_, rfl⟩
 have HM : Hid (L.length = m) := hm
 obtain ⟨nl, hnl⟩ : ∃ nl, l.length = nl := ⟨_, rfl⟩
 have HL : Hid (l.length = nl) := hnl
 rw [hm] at HFO HNO HLN
 rw [hnl] at HFO HNO hll ⊢
 rw [zs_len, hm] at hLine
 have HLN2 := HLN.out
 clear hm hnl
 go_enter Tryz.func23, Tryz.ntmps23
 go_upto_region 1 with fail
 rw [← hW0]
 clear hW0
 go_upto_region 3 with (first
  | (refine wpList_loadK rfl 27 _ rfl w.heap.size 0 rfl CP HLD.out ?_)
  | (go_at_call 21; refine hLine.mono ?_; rintro e w1 ⟨v1, c1, rfl, hr1, hb1⟩; clear hLine))
 have HR1 : Hid (∀ X, Below w1.heap.size w1 X → RdI (fun k => W0.heap.size ≤ k ∧ k < w1.heap.size) X v1 c1 (zs L)) := fun X hX => hr1.same (Same.of_below hX fun k hk => hk.2)
 have hcl := (HLR.out W0 (Below.refl _ _)).1
 have hc1 := hr1.1
 rw [HL.out] at hcl
 rw [zs_len, HM.out] at hc1
 clear hr1 HLD
 go_loopw [8] (fun v wr => ∃ k : Nat, k ≤ m ∧ v = .int .i64 k ∧ Below w1.heap.size w1 wr ∧ Hid (∀ j, j < k → ((L.getD j 0 : Nat) : Int) ∉ l)) (fun v _ => m - (intOf v).toNat)
 case atStart => exact ⟨0, Nat.zero_le _, rfl, Below.refl _ _, fun j hj => absurd hj (by omega)⟩
 case round =>
  obtain ⟨k, hk, rfl, hb, HS⟩ := hrel
  by_cases hkm : k < m
  · have hkL : k < L.length := by rw [HM.out]; exact hkm
    have HFk : Hid (∀ n, n < nl → (∀ j, j < n → l.getD j 0 ≠ ((L.getD k 0 : Nat) : Int)) → l.getD n 0 = ((L.getD k 0 : Nat) : Int) → R = (n : Int)) := fun n hn a b => HFO.out k n hkm hn HS.out a b
    have HSk : Hid ((∀ j, j < nl → l.getD j 0 ≠ ((L.getD k 0 : Nat) : Int)) → ∀ j, j < k + 1 → ((L.getD j 0 : Nat) : Int) ∉ l) := fun h j hj => by
     rcases Nat.lt_or_ge j k with h' | h'
     · exact HS.out j h'
     · rw [show j = k by omega]
       intro hn
       obtain ⟨t, ht, e⟩ := List.getElem_of_mem hn
       exact h t (by rw [← HL.out]; exact ht) (by rw [getD_in ht]; exact e)
    have HCK : Hid (∀ X, Below w1.heap.size w1 X → ∃ ad, v1 = some ad ∧ X.cell? (ad.add k) = some (.int .i64 ((L.getD k 0 : Nat) : Int))) := fun X hX => by
     obtain ⟨ad, h1, _, h3⟩ := (HR1.out X hX).at k 0 (by rw [zs_len]; exact hkL)
     rw [zs_getD] at h3
     exact ⟨ad, h1, h3⟩
    generalize L.getD k 0 = x at *
    clear HFO HNO HS
    obtain ⟨ad, hv1, _⟩ := HCK.out wr hb
    subst hv1
    go_upto_region 6 with fail
    go_loopw [9] (fun v wx => ∃ t : Nat, t ≤ nl ∧ v = .int .i64 t ∧ Below wr.heap.size wr wx ∧ Hid (∀ j, j < t → l.getD j 0 ≠ (x : Int))) (fun v _ => nl - (intOf v).toNat)
    case atStart => exact ⟨0, Nat.zero_le _, rfl, Below.refl _ _, fun j hj => absurd hj (by omega)⟩
    case round =>
     obtain ⟨t, ht, rfl, hbx, HT⟩ := hrel
     have hbw := belowP hb hbx
     by_cases htn : t < nl
     · obtain ⟨ad2, hpl, _, hct⟩ := (HLR.out _ (belowP hb1 hbw)).at t 0 (by rw [HL.out]; exact htn)
       obtain ⟨ad3, hv3, hck⟩ := HCK.out _ hbw
       cases hv3
       have HFt : Hid (l.getD t 0 = (x : Int) → R = (t : Int)) := fun e => HFk.out t htn HT.out e
       have HTt : Hid (l.getD t 0 ≠ (x : Int) → ∀ j, j < t + 1 → l.getD j 0 ≠ (x : Int)) := fun h j hj => by
        rcases Nat.lt_or_ge j t with h' | h'
        · exact HT.out j h'
        · rw [show j = t by omega]; exact h
       have hdr : ∀ (X : World) (n : Nat), Below X.heap.size X (X.drewN n) := fun X n => belowN X n
       generalize l.getD t 0 = y at *
       subst hpl
       clear HT
       by_cases e : y = (x : Int)
       · subst e
         have HE : Hid (R = (t : Int)) := HFt.out rfl
         clear HFt HTt
         go_wp2_with fail
         go_quiet (fail)
         go_wp2_with fail
         go_ret
         exact ⟨ret_int HE.out.symm, belowP hb0 (belowP hb1 (belowP hbw (hdr _ _)))⟩
       · have e' : (y == (x : Int)) = false := by simpa using e
         have HE := (show Hid _ from HTt.out e)
         clear HFt HTt
         go_wp2_with fail
         go_quiet (fail)
         go_wp2_with fail
         go_roundw
         case rel => exact ⟨t + 1, by omega, by go_num, belowP hbx (hdr _ _), HE⟩
         case measure => simp [intOf]; try omega
     · obtain rfl : t = nl := by omega
       have HX := (show Hid _ from HSk.out HT.out)
       clear HT HSk HFk
       go_wp2_with fail
       go_roundw
       case rel => exact ⟨k + 1, by omega, by go_num, hbw, HX⟩
       case measure => simp [intOf]; try omega
  · obtain rfl : k = m := by omega
    have HE : Hid (R = (nl : Int)) := HNO.out HS.out
    clear HFO HNO HS
    go_wp2_with fail
    go_ret
    exact ⟨ret_int HE.out.symm, belowP hb0 (belowP hb1 hb)⟩
theorem there_next (n : Nat) (l : List Int) : thereT (n + 1) l = if (n : Int) ∈ l then thereT n l ++ [n] else thereT n l := by
 unfold thereT
 rw [List.range_succ, List.filter_append]
 rw [show [n].filter (fun i : Nat => decide ((i : Int) ∈ l)) = if (n : Int) ∈ l then [n] else [] from by simp only [List.filter_cons, List.filter_nil, decide_eq_true_eq]]
 split
 · rfl
 · rw [List.append_nil]
theorem there_len (n : Nat) (l : List Int) : (thereT n l).length ≤ n := by
 unfold thereT
 exact Nat.le_trans (List.length_filter_le _ _) (by simp)
theorem rset_any {O : Nat → Prop} {w : World} {p : Pa} {q : Pq} {l : List Int} {pl : Option Addr} {cl : Nat} (h : IsPa (· < w.heap.size) w p q) (hz : SzPa p) (hl : RdI O w pl cl l) (hO : ∀ k, O k → k < w.heap.size) (hll : l.length ≤ 1000) :
    Calls Tryz.prog 22 #[valPa p q, .slice pl l.length cl] w (RowP (zs (thereT p.evs.length l)) w) := by
 obtain ⟨W0, hW0⟩ : ∃ W0, W0 = w.alloc (.cells (cellsPa p q).toArray 27) := ⟨_, rfl⟩
 have hb0 : Below w.heap.size w W0 := by rw [hW0]; exact (Below.refl _ _).alloc (Nat.le_refl _) _
 have V : IsVP W0 w.heap.size p q := by rw [hW0]; exact isVP_new h
 have HC1 : Hid (∀ X, Below W0.heap.size W0 X → X.cell? ⟨w.heap.size, 1, none⟩ = some (.slice q.e p.evs.length q.ce)) := fun X hX => (V.below hX).c1
 have HIN : Hid (∀ X (y : Int), Below W0.heap.size W0 X → Calls Tryz.prog 53 #[.int .i64 y, .slice pl l.length cl] X fun e w' => e = .returned (.bool (decide (y ∈ l))) ∧ X = w') := fun X y hX => rin_any l y pl cl X (hl.same (Same.of_below (belowP hb0 hX) hO)) hll
 have HNX : Hid (∀ k, thereT (k + 1) l = if (k : Int) ∈ l then thereT k l ++ [k] else thereT k l) := fun k => there_next k l
 have HLN : Hid (∀ k, (thereT k l).length ≤ k) := fun k => there_len k l
 have hen := hz.evs
 clear V h hz hl
 unfold valPa
 generalize cellsPa p q = CP at *
 generalize p.evs.length = n at *
 generalize l.length = nl at *
 go_enter Tryz.func22, Tryz.ntmps22
 go_upto_region 1 with fail
 rw [← hW0]
 clear hW0
 go_upto_region 3 with fail
 obtain ⟨B, hB⟩ : ∃ B, W0.heap.size = B := ⟨_, rfl⟩
 have HBB : Hid (W0.heap.size = B) := hB
 have HKB : Hid (∀ X, Keep (fun k => B ≤ k) W0 X → Below W0.heap.size W0 X) := fun X hX => hX.below (Nat.le_refl _) fun k hk e => by have := HBB.out; omega
 clear hB
 go_loopw [5, 6] (fun v i wr => ∃ (k : Nat) (M : List Nat), k ≤ n ∧ i = .int .i64 k ∧ wr.ownsRow B 3 1 v (zs M).length ((zs M).map (Value.int .i64)) ∧ Hid (M = thereT k l) ∧ Keep (fun k => B ≤ k) W0 wr) (fun _ i _ => n - (intOf i).toNat)
 case atStart => exact ⟨0, [], Nat.zero_le _, rfl, World.ownsRow_nil _ _ _ _, rfl, Keep.refl _ _⟩
 case round =>
  obtain ⟨k, M, hk, rfl, hown, HM, hkp⟩ := hrel
  have hBW := HKB.out wr hkp
  have c1 := HC1.out wr hBW
  by_cases hkn : k < n
  · have hin := HIN.out wr k hBW
    have HN := (show Hid _ from HNX.out k)
    have hMl : (zs M).length ≤ 30 := by rw [zs_len, HM.out]; have := HLN.out k; omega
    have hws := hkp.size
    cases hd : decide ((k : Int) ∈ l) with
    | true =>
     have HN2 : Hid (M ++ [k] = thereT (k + 1) l) := by show _ = _; rw [HN.out, if_pos (of_decide_eq_true hd), HM.out]
     rw [hd] at hin
     clear HN HM hd
     go_wp2_with (first
      | (go_at_call 53; refine hin.mono ?_; rintro e w' ⟨rfl, rfl⟩)
      | (at_builtin; refine wpList_push rfl (.tmp 17) (.tmp 19) 28 3 (.int .i64 0) 8 rfl Tryz.underlying28 Tryz.info3 rfl (by decide) int_one B _ (zs M) rfl ?a0 _ (k : Int) rfl ?a1 ?a2 ?a3 ?_))
     case a0 => exact hown.alloc _
     case a1 => exact cell_row (cur := [_]) (heap_alloc_new _ _) 0 _ rfl
     case a2 => omega
     case a3 => have := HBB.out; simp; omega
     intro v' w12 ho12 hg12 _
     have ho13 := own_snoc ho12
     have hk12 := (hkp.alloc (.cells #[.int .i64 (k : Int)] 3)).trans (Keep.of_grown (S := fun j => B ≤ j) hg12 fun j _ e => (hown.lt j e).1) fun _ _ h => h
     clear ho12 hg12
     go_wp2
     go_roundw
     case rel => exact ⟨k + 1, M ++ [k], by omega, by go_num, by rw [show zs (M ++ [k]) = zs M ++ [(k : Int)] by simp [zs]]; exact ho13, HN2, hk12⟩
     case measure => simp [intOf]; try omega
    | false =>
     have HN2 : Hid (M = thereT (k + 1) l) := by show _ = _; rw [HN.out, if_neg (of_decide_eq_false hd), HM.out]
     rw [hd] at hin
     clear HN HM hd
     go_wp2_with (go_at_call 53; refine hin.mono ?_; rintro e w' ⟨rfl, rfl⟩)
     go_roundw
     case rel => exact ⟨k + 1, M, by omega, by go_num, hown, HN2, hkp⟩
     case measure => simp [intOf]; try omega
  · obtain rfl : k = n := by omega
    go_wp2
    go_ret
    rw [← HM.out]
    have := HBB.out
    exact RowP.of_own hown (by have := hb0.size; omega) (belowP hb0 hBW)
theorem ltK_not {a b : ByteArray} (h : a ≠ b) : ltK a b = !ltK b a := by
 cases h1 : ltK b a with
 | true =>
  cases h2 : ltK a b with
  | true => have := ltK_trans h1 h2; rw [ltK_irrefl] at this; cases this
  | false => rfl
 | false =>
  rcases ltK_total h with h' | h'
  · rw [h']; rfl
  · rw [h1] at h'; cases h'
def youngT (p : Pa) (a b : Nat) : Bool :=
 if (evT p a).ts = (evT p b).ts then (if nmT p a = nmT p b then decide (b < a) else ltK (nmT p b) (nmT p a)) else decide ((evT p b).ts < (evT p a).ts)
theorem young_lt (num : Nat → Int) (p : Pa) (a b : Nat) : (decide (num b > num a) || (decide (num b = num a) && youngT p a b)) = decide (num a < num b ∨ num b = num a ∧ ((evT p b).ts < (evT p a).ts ∨ (evT p b).ts = (evT p a).ts ∧ (ltK (nmT p b) (nmT p a) = true ∨ nmT p b = nmT p a ∧ b < a))) := by
 unfold youngT
 rw [Bool.eq_iff_iff]
 simp only [Bool.or_eq_true, Bool.and_eq_true, decide_eq_true_eq]
 by_cases h1 : (evT p a).ts = (evT p b).ts
 · rw [if_pos h1]
   by_cases h2 : nmT p a = nmT p b
   · rw [if_pos h2, decide_eq_true_eq, h1, h2, ltK_irrefl]
     constructor
     · rintro (h | ⟨h, h3⟩)
       · exact .inl h
       · exact .inr ⟨h, .inr ⟨rfl, .inr ⟨rfl, h3⟩⟩⟩
     · rintro (h | ⟨h, h3⟩)
       · exact .inl h
       · refine .inr ⟨h, ?_⟩
         rcases h3 with h3 | ⟨_, h3 | ⟨_, h3⟩⟩
         · omega
         · cases h3
         · exact h3
   · rw [if_neg h2]
     constructor
     · rintro (h | ⟨h, h3⟩)
       · exact .inl h
       · exact .inr ⟨h, .inr ⟨h1.symm, .inl h3⟩⟩
     · rintro (h | ⟨h, h3⟩)
       · exact .inl h
       · refine .inr ⟨h, ?_⟩
         rcases h3 with h3 | ⟨_, h3 | ⟨h4, h3⟩⟩
         · omega
         · exact h3
         · exact absurd h4.symm h2
 · rw [if_neg h1, decide_eq_true_eq]
   constructor
   · rintro (h | ⟨h, h3⟩)
     · exact .inl h
     · exact .inr ⟨h, .inl h3⟩
   · rintro (h | ⟨h, h3⟩)
     · exact .inl h
     · refine .inr ⟨h, ?_⟩
       rcases h3 with h3 | ⟨h4, _⟩
       · exact h3
       · exact absurd h4.symm h1
theorem ryounger_any {w : World} {p : Pa} {q : Pq} (h : IsPa (· < w.heap.size) w p q) (_hz : SzPa p) (hnl : p.names.length = p.evs.length) (a b : Nat) (ha : a < p.evs.length) (hb : b < p.evs.length) :
    Calls Tryz.prog 24 #[valPa p q, .int .i64 (a : Int), .int .i64 (b : Int)] w fun e w' => e = .returned (.bool (youngT p a b)) ∧ Below w.heap.size w w' := by
 obtain ⟨W0, hW0⟩ : ∃ W0, W0 = w.alloc (.cells (cellsPa p q).toArray 27) := ⟨_, rfl⟩
 have hb0 : Below w.heap.size w W0 := by rw [hW0]; exact (Below.refl _ _).alloc (Nat.le_refl _) _
 have V : IsVP W0 w.heap.size p q := by rw [hW0]; exact isVP_new h
 obtain ⟨eb, eo, qa, hqe, _, hca, _⟩ := V.pa.evs.2 a ha
 obtain ⟨eb2, eo2, qb, hqe2, _, hcb, _⟩ := V.pa.evs.2 b hb
 rw [hqe] at hqe2
 cases hqe2
 obtain ⟨mb, mo, hqn, _, hcn⟩ := V.pa.names.2 (by intro h0; rw [h0] at hnl; simp at hnl; omega)
 have xa : W0.cell? ⟨eb, eo + a * 16 + 13, none⟩ = some (.int .i64 (evT p a).ts) := hca 13 _ rfl
 have xb : W0.cell? ⟨eb, eo + b * 16 + 13, none⟩ = some (.int .i64 (evT p b).ts) := hcb 13 _ rfl
 have na' : W0.cell? ⟨mb, mo + a, none⟩ = some (.string (nmT p a)) := hcn a _ (by unfold nmT; rw [getD_in (by omega), List.getElem?_eq_getElem (by omega)])
 have nb' : W0.cell? ⟨mb, mo + b, none⟩ = some (.string (nmT p b)) := hcn b _ (by unfold nmT; rw [getD_in (by omega), List.getElem?_eq_getElem (by omega)])
 have HXX : Hid (∀ X, Below W0.heap.size W0 X → X.cell? ⟨w.heap.size, 1, none⟩ = some (.slice (some ⟨eb, eo, none⟩) p.evs.length q.ce) ∧ X.cell? ⟨w.heap.size, 0, none⟩ = some (.slice (some ⟨mb, mo, none⟩) p.evs.length q.cn) ∧ X.cell? ⟨eb, eo + a * 16 + 13, none⟩ = some (.int .i64 (evT p a).ts) ∧ X.cell? ⟨eb, eo + b * 16 + 13, none⟩ = some (.int .i64 (evT p b).ts) ∧ X.cell? ⟨mb, mo + a, none⟩ = some (.string (nmT p a)) ∧ X.cell? ⟨mb, mo + b, none⟩ = some (.string (nmT p b))) := fun X hX => by
  have h1 := (V.below hX).c1
  have h0 := (V.below hX).c0
  rw [hqe] at h1
  rw [hqn, hnl] at h0
  exact ⟨h1, h0, (hX.cell (p := ⟨eb, eo + a * 16 + 13, none⟩) (cell_ltS xa)).trans xa, (hX.cell (p := ⟨eb, eo + b * 16 + 13, none⟩) (cell_ltS xb)).trans xb, (hX.cell (p := ⟨mb, mo + a, none⟩) (cell_ltS na')).trans na', (hX.cell (p := ⟨mb, mo + b, none⟩) (cell_ltS nb')).trans nb'⟩
 have HY : Hid (youngT p a b = if (evT p a).ts = (evT p b).ts then (if nmT p a = nmT p b then decide (b < a) else ltK (nmT p b) (nmT p a)) else decide ((evT p b).ts < (evT p a).ts)) := rfl
 have hel := V.pa.evs.1
 have hnc := V.pa.names.1
 rw [hnl] at hnc
 clear V h hca hcb hcn xa xb na' nb' hqe hqn
 unfold valPa
 generalize cellsPa p q = CP at *
 generalize youngT p a b = R at *
 generalize p.evs.length = n at *
 generalize (evT p a).ts = ta at *
 generalize (evT p b).ts = tb at *
 generalize nmT p a = na at *
 generalize nmT p b = nb at *
 have hD : Below W0.heap.size W0 W0.drew := (Below.refl _ _).drew
 have hD2 : Below W0.heap.size W0 W0.drew.drew := hD.drew
 have hD3 : Below W0.heap.size W0 W0.drew.drew.drew := hD2.drew
 go_enter Tryz.func24, Tryz.ntmps24
 go_upto_region 1 with fail
 rw [← hW0]
 clear hW0
 by_cases ht : ta = tb
 case neg =>
  have HR : Hid (R = decide (tb < ta)) := by show _ = _; rw [HY.out, if_neg ht]
  have t1 : (ta == tb) = false := by simpa using ht
  clear HY
  refine wp_region_in (by kernel_rfl) (fun w' => Below W0.heap.size W0 w') ?_
  change wpIn _ _ _ _ _ _ _ _ (World.drew _)
  refine wpIn_take (i := 0) (d := (some 7)) (v := .pointer (some ⟨w.heap.size, 1, none⟩)) (a' := ?awy1x0) rfl rfl (by kernel_rfl) (by kernel_rfl) (by kernel_rfl) (fun _ _ _ h => h) (Or.inl ⟨by rfl, ?ywy1x0⟩) ?fwy1x0 ?_
  case ywy1x0 => (intro wq hq; obtain ⟨g1, g2, g3, g4, g5, g6⟩ := HXX.out wq hq; go_simp; first | done | with_reducible rfl)
  case fwy1x0 => (go_frame; rfl)
  refine wpIn_take (i := 1) (d := (some 8)) (v := .slice (some ⟨eb, eo, none⟩) n q.ce) (a' := ?awy2x1) rfl rfl (by kernel_rfl) (by kernel_rfl) (by kernel_rfl) (fun _ _ _ h => h) (Or.inl ⟨by rfl, ?ywy2x1⟩) ?fwy2x1 ?_
  case ywy2x1 => (intro wq hq; obtain ⟨g1, g2, g3, g4, g5, g6⟩ := HXX.out wq hq; go_simp; first | done | with_reducible rfl)
  case fwy2x1 => (go_frame; rfl)
  refine wpIn_take (i := 2) (d := (some 9)) (v := .int .i64 (a : Int)) (a' := ?awy3x2) rfl rfl (by kernel_rfl) (by kernel_rfl) (by kernel_rfl) (fun _ _ _ h => h) (Or.inl ⟨by rfl, ?ywy3x2⟩) ?fwy3x2 ?_
  case ywy3x2 => (intro wq hq; obtain ⟨g1, g2, g3, g4, g5, g6⟩ := HXX.out wq hq; go_simp; first | done | with_reducible rfl)
  case fwy3x2 => (go_frame; rfl)
  refine wpIn_take (i := 3) (d := (some 10)) (v := .pointer (some ⟨eb, eo + a * 16, none⟩)) (a' := ?awy4x3) rfl rfl (by kernel_rfl) (by kernel_rfl) (by kernel_rfl) (fun _ _ _ h => h) (Or.inl ⟨by rfl, ?ywy4x3⟩) ?fwy4x3 ?_
  case ywy4x3 => (intro wq hq; obtain ⟨g1, g2, g3, g4, g5, g6⟩ := HXX.out wq hq; go_simp; first | done | with_reducible rfl)
  case fwy4x3 => (go_frame; rfl)
  refine wpIn_take (i := 4) (d := (some 11)) (v := .pointer (some ⟨eb, eo + a * 16 + 13, none⟩)) (a' := ?awy5x4) rfl rfl (by kernel_rfl) (by kernel_rfl) (by kernel_rfl) (fun _ _ _ h => h) (Or.inl ⟨by rfl, ?ywy5x4⟩) ?fwy5x4 ?_
  case ywy5x4 => (intro wq hq; obtain ⟨g1, g2, g3, g4, g5, g6⟩ := HXX.out wq hq; go_simp; first | done | with_reducible rfl)
  case fwy5x4 => (go_frame; rfl)
  refine wpIn_take (i := 5) (d := (some 12)) (v := .int .i64 ta) (a' := ?awy6x5) rfl rfl (by kernel_rfl) (by kernel_rfl) (by kernel_rfl) (fun _ _ _ h => h) (Or.inl ⟨by rfl, ?ywy6x5⟩) ?fwy6x5 ?_
  case ywy6x5 => (intro wq hq; obtain ⟨g1, g2, g3, g4, g5, g6⟩ := HXX.out wq hq; go_simp; first | done | with_reducible rfl)
  case fwy6x5 => (go_frame; rfl)
  refine wpIn_take (i := 6) (d := (some 13)) (v := .pointer (some ⟨w.heap.size, 1, none⟩)) (a' := ?awy7x6) rfl rfl (by kernel_rfl) (by kernel_rfl) (by kernel_rfl) (fun _ _ _ h => h) (Or.inl ⟨by rfl, ?ywy7x6⟩) ?fwy7x6 ?_
  case ywy7x6 => (intro wq hq; obtain ⟨g1, g2, g3, g4, g5, g6⟩ := HXX.out wq hq; go_simp; first | done | with_reducible rfl)
  case fwy7x6 => (go_frame; rfl)
  refine wpIn_take (i := 7) (d := (some 14)) (v := .slice (some ⟨eb, eo, none⟩) n q.ce) (a' := ?awy8x7) rfl rfl (by kernel_rfl) (by kernel_rfl) (by kernel_rfl) (fun _ _ _ h => h) (Or.inl ⟨by rfl, ?ywy8x7⟩) ?fwy8x7 ?_
  case ywy8x7 => (intro wq hq; obtain ⟨g1, g2, g3, g4, g5, g6⟩ := HXX.out wq hq; go_simp; first | done | with_reducible rfl)
  case fwy8x7 => (go_frame; rfl)
  refine wpIn_take (i := 8) (d := (some 15)) (v := .int .i64 (b : Int)) (a' := ?awy9x8) rfl rfl (by kernel_rfl) (by kernel_rfl) (by kernel_rfl) (fun _ _ _ h => h) (Or.inl ⟨by rfl, ?ywy9x8⟩) ?fwy9x8 ?_
  case ywy9x8 => (intro wq hq; obtain ⟨g1, g2, g3, g4, g5, g6⟩ := HXX.out wq hq; go_simp; first | done | with_reducible rfl)
  case fwy9x8 => (go_frame; rfl)
  refine wpIn_take (i := 9) (d := (some 16)) (v := .pointer (some ⟨eb, eo + b * 16, none⟩)) (a' := ?awy10x9) rfl rfl (by kernel_rfl) (by kernel_rfl) (by kernel_rfl) (fun _ _ _ h => h) (Or.inl ⟨by rfl, ?ywy10x9⟩) ?fwy10x9 ?_
  case ywy10x9 => (intro wq hq; obtain ⟨g1, g2, g3, g4, g5, g6⟩ := HXX.out wq hq; go_simp; first | done | with_reducible rfl)
  case fwy10x9 => (go_frame; rfl)
  refine wpIn_take (i := 10) (d := (some 17)) (v := .pointer (some ⟨eb, eo + b * 16 + 13, none⟩)) (a' := ?awy11x10) rfl rfl (by kernel_rfl) (by kernel_rfl) (by kernel_rfl) (fun _ _ _ h => h) (Or.inl ⟨by rfl, ?ywy11x10⟩) ?fwy11x10 ?_
  case ywy11x10 => (intro wq hq; obtain ⟨g1, g2, g3, g4, g5, g6⟩ := HXX.out wq hq; go_simp; first | done | with_reducible rfl)
  case fwy11x10 => (go_frame; rfl)
  refine wpIn_take (i := 11) (d := (some 18)) (v := .int .i64 tb) (a' := ?awy12x11) rfl rfl (by kernel_rfl) (by kernel_rfl) (by kernel_rfl) (fun _ _ _ h => h) (Or.inl ⟨by rfl, ?ywy12x11⟩) ?fwy12x11 ?_
  case ywy12x11 => (intro wq hq; obtain ⟨g1, g2, g3, g4, g5, g6⟩ := HXX.out wq hq; go_simp; first | done | with_reducible rfl)
  case fwy12x11 => (go_frame; rfl)
  refine wpIn_take (i := 12) (d := (some 19)) (v := .bool true) (a' := ?awy13x12) rfl rfl (by kernel_rfl) (by kernel_rfl) (by kernel_rfl) (fun _ _ _ h => h) (Or.inl ⟨by rfl, ?ywy13x12⟩) ?fwy13x12 ?_
  case ywy13x12 => (intro wq hq; go_simp)
  case fwy13x12 => (go_frame; rfl)
  refine wpIn_done hD (by kernel_rfl) ?_ _
  go_upto_region 2 with fail
  refine wp_region_in (by kernel_rfl) (fun w' => Below W0.heap.size W0 w') ?_
  change wpIn _ _ _ _ _ _ _ _ (World.drew _)
  refine wpIn_take (i := 0) (d := (some 20)) (v := .pointer (some ⟨w.heap.size, 1, none⟩)) (a' := ?awy14x0) rfl rfl (by kernel_rfl) (by kernel_rfl) (by kernel_rfl) (fun _ _ _ h => h) (Or.inl ⟨by rfl, ?ywy14x0⟩) ?fwy14x0 ?_
  case ywy14x0 => (intro wq hq; obtain ⟨g1, g2, g3, g4, g5, g6⟩ := HXX.out wq hq; go_simp; first | done | with_reducible rfl)
  case fwy14x0 => (go_frame; rfl)
  refine wpIn_take (i := 1) (d := (some 21)) (v := .slice (some ⟨eb, eo, none⟩) n q.ce) (a' := ?awy15x1) rfl rfl (by kernel_rfl) (by kernel_rfl) (by kernel_rfl) (fun _ _ _ h => h) (Or.inl ⟨by rfl, ?ywy15x1⟩) ?fwy15x1 ?_
  case ywy15x1 => (intro wq hq; obtain ⟨g1, g2, g3, g4, g5, g6⟩ := HXX.out wq hq; go_simp; first | done | with_reducible rfl)
  case fwy15x1 => (go_frame; rfl)
  refine wpIn_take (i := 2) (d := (some 22)) (v := .int .i64 (a : Int)) (a' := ?awy16x2) rfl rfl (by kernel_rfl) (by kernel_rfl) (by kernel_rfl) (fun _ _ _ h => h) (Or.inl ⟨by rfl, ?ywy16x2⟩) ?fwy16x2 ?_
  case ywy16x2 => (intro wq hq; obtain ⟨g1, g2, g3, g4, g5, g6⟩ := HXX.out wq hq; go_simp; first | done | with_reducible rfl)
  case fwy16x2 => (go_frame; rfl)
  refine wpIn_take (i := 3) (d := (some 23)) (v := .pointer (some ⟨eb, eo + a * 16, none⟩)) (a' := ?awy17x3) rfl rfl (by kernel_rfl) (by kernel_rfl) (by kernel_rfl) (fun _ _ _ h => h) (Or.inl ⟨by rfl, ?ywy17x3⟩) ?fwy17x3 ?_
  case ywy17x3 => (intro wq hq; obtain ⟨g1, g2, g3, g4, g5, g6⟩ := HXX.out wq hq; go_simp; first | done | with_reducible rfl)
  case fwy17x3 => (go_frame; rfl)
  refine wpIn_take (i := 4) (d := (some 24)) (v := .pointer (some ⟨eb, eo + a * 16 + 13, none⟩)) (a' := ?awy18x4) rfl rfl (by kernel_rfl) (by kernel_rfl) (by kernel_rfl) (fun _ _ _ h => h) (Or.inl ⟨by rfl, ?ywy18x4⟩) ?fwy18x4 ?_
  case ywy18x4 => (intro wq hq; obtain ⟨g1, g2, g3, g4, g5, g6⟩ := HXX.out wq hq; go_simp; first | done | with_reducible rfl)
  case fwy18x4 => (go_frame; rfl)
  refine wpIn_take (i := 5) (d := (some 25)) (v := .int .i64 ta) (a' := ?awy19x5) rfl rfl (by kernel_rfl) (by kernel_rfl) (by kernel_rfl) (fun _ _ _ h => h) (Or.inl ⟨by rfl, ?ywy19x5⟩) ?fwy19x5 ?_
  case ywy19x5 => (intro wq hq; obtain ⟨g1, g2, g3, g4, g5, g6⟩ := HXX.out wq hq; go_simp; first | done | with_reducible rfl)
  case fwy19x5 => (go_frame; rfl)
  refine wpIn_take (i := 6) (d := (some 26)) (v := .pointer (some ⟨w.heap.size, 1, none⟩)) (a' := ?awy20x6) rfl rfl (by kernel_rfl) (by kernel_rfl) (by kernel_rfl) (fun _ _ _ h => h) (Or.inl ⟨by rfl, ?ywy20x6⟩) ?fwy20x6 ?_
  case ywy20x6 => (intro wq hq; obtain ⟨g1, g2, g3, g4, g5, g6⟩ := HXX.out wq hq; go_simp; first | done | with_reducible rfl)
  case fwy20x6 => (go_frame; rfl)
  refine wpIn_take (i := 7) (d := (some 27)) (v := .slice (some ⟨eb, eo, none⟩) n q.ce) (a' := ?awy21x7) rfl rfl (by kernel_rfl) (by kernel_rfl) (by kernel_rfl) (fun _ _ _ h => h) (Or.inl ⟨by rfl, ?ywy21x7⟩) ?fwy21x7 ?_
  case ywy21x7 => (intro wq hq; obtain ⟨g1, g2, g3, g4, g5, g6⟩ := HXX.out wq hq; go_simp; first | done | with_reducible rfl)
  case fwy21x7 => (go_frame; rfl)
  refine wpIn_take (i := 8) (d := (some 28)) (v := .int .i64 (b : Int)) (a' := ?awy22x8) rfl rfl (by kernel_rfl) (by kernel_rfl) (by kernel_rfl) (fun _ _ _ h => h) (Or.inl ⟨by rfl, ?ywy22x8⟩) ?fwy22x8 ?_
  case ywy22x8 => (intro wq hq; obtain ⟨g1, g2, g3, g4, g5, g6⟩ := HXX.out wq hq; go_simp; first | done | with_reducible rfl)
  case fwy22x8 => (go_frame; rfl)
  refine wpIn_take (i := 9) (d := (some 29)) (v := .pointer (some ⟨eb, eo + b * 16, none⟩)) (a' := ?awy23x9) rfl rfl (by kernel_rfl) (by kernel_rfl) (by kernel_rfl) (fun _ _ _ h => h) (Or.inl ⟨by rfl, ?ywy23x9⟩) ?fwy23x9 ?_
  case ywy23x9 => (intro wq hq; obtain ⟨g1, g2, g3, g4, g5, g6⟩ := HXX.out wq hq; go_simp; first | done | with_reducible rfl)
  case fwy23x9 => (go_frame; rfl)
  refine wpIn_take (i := 10) (d := (some 30)) (v := .pointer (some ⟨eb, eo + b * 16 + 13, none⟩)) (a' := ?awy24x10) rfl rfl (by kernel_rfl) (by kernel_rfl) (by kernel_rfl) (fun _ _ _ h => h) (Or.inl ⟨by rfl, ?ywy24x10⟩) ?fwy24x10 ?_
  case ywy24x10 => (intro wq hq; obtain ⟨g1, g2, g3, g4, g5, g6⟩ := HXX.out wq hq; go_simp; first | done | with_reducible rfl)
  case fwy24x10 => (go_frame; rfl)
  refine wpIn_take (i := 11) (d := (some 31)) (v := .int .i64 tb) (a' := ?awy25x11) rfl rfl (by kernel_rfl) (by kernel_rfl) (by kernel_rfl) (fun _ _ _ h => h) (Or.inl ⟨by rfl, ?ywy25x11⟩) ?fwy25x11 ?_
  case ywy25x11 => (intro wq hq; obtain ⟨g1, g2, g3, g4, g5, g6⟩ := HXX.out wq hq; go_simp; first | done | with_reducible rfl)
  case fwy25x11 => (go_frame; rfl)
  refine wpIn_take (i := 12) (d := (some 32)) (v := .bool (decide (tb < ta))) (a' := ?awy26x12) rfl rfl (by kernel_rfl) (by kernel_rfl) (by kernel_rfl) (fun _ _ _ h => h) (Or.inl ⟨by rfl, ?ywy26x12⟩) ?fwy26x12 ?_
  case ywy26x12 => (intro wq hq; go_simp; first | done | with_reducible rfl)
  case fwy26x12 => (go_frame; rfl)
  refine wpIn_take (i := 13) (d := (some 6)) (v := .bool (decide (tb < ta))) (a' := ?awy27x13) rfl rfl (by kernel_rfl) (by kernel_rfl) (by kernel_rfl) (fun _ _ _ h => h) (Or.inl ⟨by rfl, ?ywy27x13⟩) ?fwy27x13 ?_
  case ywy27x13 => (intro wq hq; go_simp; first | done | with_reducible rfl)
  case fwy27x13 => (go_frame; rfl)
  refine wpIn_done hD2 (by kernel_rfl) ?_ _
  go_wp2
  go_ret
  exact ⟨ret_bool HR.out.symm, belowP hb0 hD2⟩
 subst ht
 refine wp_region_in (by kernel_rfl) (fun w' => Below W0.heap.size W0 w') ?_
 change wpIn _ _ _ _ _ _ _ _ (World.drew _)
 refine wpIn_take (i := 0) (d := (some 7)) (v := .pointer (some ⟨w.heap.size, 1, none⟩)) (a' := ?awy28x0) rfl rfl (by kernel_rfl) (by kernel_rfl) (by kernel_rfl) (fun _ _ _ h => h) (Or.inl ⟨by rfl, ?ywy28x0⟩) ?fwy28x0 ?_
 case ywy28x0 => (intro wq hq; obtain ⟨g1, g2, g3, g4, g5, g6⟩ := HXX.out wq hq; go_simp; first | done | with_reducible rfl)
 case fwy28x0 => (go_frame; rfl)
 refine wpIn_take (i := 1) (d := (some 8)) (v := .slice (some ⟨eb, eo, none⟩) n q.ce) (a' := ?awy29x1) rfl rfl (by kernel_rfl) (by kernel_rfl) (by kernel_rfl) (fun _ _ _ h => h) (Or.inl ⟨by rfl, ?ywy29x1⟩) ?fwy29x1 ?_
 case ywy29x1 => (intro wq hq; obtain ⟨g1, g2, g3, g4, g5, g6⟩ := HXX.out wq hq; go_simp; first | done | with_reducible rfl)
 case fwy29x1 => (go_frame; rfl)
 refine wpIn_take (i := 2) (d := (some 9)) (v := .int .i64 (a : Int)) (a' := ?awy30x2) rfl rfl (by kernel_rfl) (by kernel_rfl) (by kernel_rfl) (fun _ _ _ h => h) (Or.inl ⟨by rfl, ?ywy30x2⟩) ?fwy30x2 ?_
 case ywy30x2 => (intro wq hq; obtain ⟨g1, g2, g3, g4, g5, g6⟩ := HXX.out wq hq; go_simp; first | done | with_reducible rfl)
 case fwy30x2 => (go_frame; rfl)
 refine wpIn_take (i := 3) (d := (some 10)) (v := .pointer (some ⟨eb, eo + a * 16, none⟩)) (a' := ?awy31x3) rfl rfl (by kernel_rfl) (by kernel_rfl) (by kernel_rfl) (fun _ _ _ h => h) (Or.inl ⟨by rfl, ?ywy31x3⟩) ?fwy31x3 ?_
 case ywy31x3 => (intro wq hq; obtain ⟨g1, g2, g3, g4, g5, g6⟩ := HXX.out wq hq; go_simp; first | done | with_reducible rfl)
 case fwy31x3 => (go_frame; rfl)
 refine wpIn_take (i := 4) (d := (some 11)) (v := .pointer (some ⟨eb, eo + a * 16 + 13, none⟩)) (a' := ?awy32x4) rfl rfl (by kernel_rfl) (by kernel_rfl) (by kernel_rfl) (fun _ _ _ h => h) (Or.inl ⟨by rfl, ?ywy32x4⟩) ?fwy32x4 ?_
 case ywy32x4 => (intro wq hq; obtain ⟨g1, g2, g3, g4, g5, g6⟩ := HXX.out wq hq; go_simp; first | done | with_reducible rfl)
 case fwy32x4 => (go_frame; rfl)
 refine wpIn_take (i := 5) (d := (some 12)) (v := .int .i64 ta) (a' := ?awy33x5) rfl rfl (by kernel_rfl) (by kernel_rfl) (by kernel_rfl) (fun _ _ _ h => h) (Or.inl ⟨by rfl, ?ywy33x5⟩) ?fwy33x5 ?_
 case ywy33x5 => (intro wq hq; obtain ⟨g1, g2, g3, g4, g5, g6⟩ := HXX.out wq hq; go_simp; first | done | with_reducible rfl)
 case fwy33x5 => (go_frame; rfl)
 refine wpIn_take (i := 6) (d := (some 13)) (v := .pointer (some ⟨w.heap.size, 1, none⟩)) (a' := ?awy34x6) rfl rfl (by kernel_rfl) (by kernel_rfl) (by kernel_rfl) (fun _ _ _ h => h) (Or.inl ⟨by rfl, ?ywy34x6⟩) ?fwy34x6 ?_
 case ywy34x6 => (intro wq hq; obtain ⟨g1, g2, g3, g4, g5, g6⟩ := HXX.out wq hq; go_simp; first | done | with_reducible rfl)
 case fwy34x6 => (go_frame; rfl)
 refine wpIn_take (i := 7) (d := (some 14)) (v := .slice (some ⟨eb, eo, none⟩) n q.ce) (a' := ?awy35x7) rfl rfl (by kernel_rfl) (by kernel_rfl) (by kernel_rfl) (fun _ _ _ h => h) (Or.inl ⟨by rfl, ?ywy35x7⟩) ?fwy35x7 ?_
 case ywy35x7 => (intro wq hq; obtain ⟨g1, g2, g3, g4, g5, g6⟩ := HXX.out wq hq; go_simp; first | done | with_reducible rfl)
 case fwy35x7 => (go_frame; rfl)
 refine wpIn_take (i := 8) (d := (some 15)) (v := .int .i64 (b : Int)) (a' := ?awy36x8) rfl rfl (by kernel_rfl) (by kernel_rfl) (by kernel_rfl) (fun _ _ _ h => h) (Or.inl ⟨by rfl, ?ywy36x8⟩) ?fwy36x8 ?_
 case ywy36x8 => (intro wq hq; obtain ⟨g1, g2, g3, g4, g5, g6⟩ := HXX.out wq hq; go_simp; first | done | with_reducible rfl)
 case fwy36x8 => (go_frame; rfl)
 refine wpIn_take (i := 9) (d := (some 16)) (v := .pointer (some ⟨eb, eo + b * 16, none⟩)) (a' := ?awy37x9) rfl rfl (by kernel_rfl) (by kernel_rfl) (by kernel_rfl) (fun _ _ _ h => h) (Or.inl ⟨by rfl, ?ywy37x9⟩) ?fwy37x9 ?_
 case ywy37x9 => (intro wq hq; obtain ⟨g1, g2, g3, g4, g5, g6⟩ := HXX.out wq hq; go_simp; first | done | with_reducible rfl)
 case fwy37x9 => (go_frame; rfl)
 refine wpIn_take (i := 10) (d := (some 17)) (v := .pointer (some ⟨eb, eo + b * 16 + 13, none⟩)) (a' := ?awy38x10) rfl rfl (by kernel_rfl) (by kernel_rfl) (by kernel_rfl) (fun _ _ _ h => h) (Or.inl ⟨by rfl, ?ywy38x10⟩) ?fwy38x10 ?_
 case ywy38x10 => (intro wq hq; obtain ⟨g1, g2, g3, g4, g5, g6⟩ := HXX.out wq hq; go_simp; first | done | with_reducible rfl)
 case fwy38x10 => (go_frame; rfl)
 refine wpIn_take (i := 11) (d := (some 18)) (v := .int .i64 ta) (a' := ?awy39x11) rfl rfl (by kernel_rfl) (by kernel_rfl) (by kernel_rfl) (fun _ _ _ h => h) (Or.inl ⟨by rfl, ?ywy39x11⟩) ?fwy39x11 ?_
 case ywy39x11 => (intro wq hq; obtain ⟨g1, g2, g3, g4, g5, g6⟩ := HXX.out wq hq; go_simp; first | done | with_reducible rfl)
 case fwy39x11 => (go_frame; rfl)
 refine wpIn_take (i := 12) (d := (some 19)) (v := .bool false) (a' := ?awy40x12) rfl rfl (by kernel_rfl) (by kernel_rfl) (by kernel_rfl) (fun _ _ _ h => h) (Or.inl ⟨by rfl, ?ywy40x12⟩) ?fwy40x12 ?_
 case ywy40x12 => (intro wq hq; go_simp)
 case fwy40x12 => (go_frame; rfl)
 refine wpIn_done hD (by kernel_rfl) ?_ _
 by_cases hm : na = nb
 case neg =>
  have HR : Hid (R = ltK nb na) := by show _ = _; rw [HY.out, if_pos rfl, if_neg hm]
  have t1 : (na.toList == nb.toList) = false := by rw [beq_eq_false_iff_ne]; intro h; exact hm (toList_inj h)
  have l1 := lessP_ltK nb na
  have l2 : Op.bytesLess na.toList nb.toList = !ltK nb na := by rw [lessP_ltK na nb]; exact ltK_not hm
  clear HY
  go_upto_region 3 with fail
  refine wp_region_in (by kernel_rfl) (fun w' => Below W0.heap.size W0 w') ?_
  change wpIn _ _ _ _ _ _ _ _ (World.drew _)
  refine wpIn_take (i := 0) (d := (some 33)) (v := .pointer (some ⟨w.heap.size, 0, none⟩)) (a' := ?awy41x0) rfl rfl (by kernel_rfl) (by kernel_rfl) (by kernel_rfl) (fun _ _ _ h => h) (Or.inl ⟨by rfl, ?ywy41x0⟩) ?fwy41x0 ?_
  case ywy41x0 => (intro wq hq; obtain ⟨g1, g2, g3, g4, g5, g6⟩ := HXX.out wq hq; go_simp; first | done | with_reducible rfl)
  case fwy41x0 => (go_frame; rfl)
  refine wpIn_take (i := 1) (d := (some 34)) (v := .slice (some ⟨mb, mo, none⟩) n q.cn) (a' := ?awy42x1) rfl rfl (by kernel_rfl) (by kernel_rfl) (by kernel_rfl) (fun _ _ _ h => h) (Or.inl ⟨by rfl, ?ywy42x1⟩) ?fwy42x1 ?_
  case ywy42x1 => (intro wq hq; obtain ⟨g1, g2, g3, g4, g5, g6⟩ := HXX.out wq hq; go_simp; first | done | with_reducible rfl)
  case fwy42x1 => (go_frame; rfl)
  refine wpIn_take (i := 2) (d := (some 35)) (v := .int .i64 (a : Int)) (a' := ?awy43x2) rfl rfl (by kernel_rfl) (by kernel_rfl) (by kernel_rfl) (fun _ _ _ h => h) (Or.inl ⟨by rfl, ?ywy43x2⟩) ?fwy43x2 ?_
  case ywy43x2 => (intro wq hq; obtain ⟨g1, g2, g3, g4, g5, g6⟩ := HXX.out wq hq; go_simp; first | done | with_reducible rfl)
  case fwy43x2 => (go_frame; rfl)
  refine wpIn_take (i := 3) (d := (some 36)) (v := .pointer (some ⟨mb, mo + a, none⟩)) (a' := ?awy44x3) rfl rfl (by kernel_rfl) (by kernel_rfl) (by kernel_rfl) (fun _ _ _ h => h) (Or.inl ⟨by rfl, ?ywy44x3⟩) ?fwy44x3 ?_
  case ywy44x3 => (intro wq hq; obtain ⟨g1, g2, g3, g4, g5, g6⟩ := HXX.out wq hq; go_simp; first | done | with_reducible rfl)
  case fwy44x3 => (go_frame; rfl)
  refine wpIn_take (i := 4) (d := (some 37)) (v := .string na) (a' := ?awy45x4) rfl rfl (by kernel_rfl) (by kernel_rfl) (by kernel_rfl) (fun _ _ _ h => h) (Or.inl ⟨by rfl, ?ywy45x4⟩) ?fwy45x4 ?_
  case ywy45x4 => (intro wq hq; obtain ⟨g1, g2, g3, g4, g5, g6⟩ := HXX.out wq hq; go_simp; first | done | with_reducible rfl)
  case fwy45x4 => (go_frame; rfl)
  refine wpIn_take (i := 5) (d := (some 38)) (v := .pointer (some ⟨w.heap.size, 0, none⟩)) (a' := ?awy46x5) rfl rfl (by kernel_rfl) (by kernel_rfl) (by kernel_rfl) (fun _ _ _ h => h) (Or.inl ⟨by rfl, ?ywy46x5⟩) ?fwy46x5 ?_
  case ywy46x5 => (intro wq hq; obtain ⟨g1, g2, g3, g4, g5, g6⟩ := HXX.out wq hq; go_simp; first | done | with_reducible rfl)
  case fwy46x5 => (go_frame; rfl)
  refine wpIn_take (i := 6) (d := (some 39)) (v := .slice (some ⟨mb, mo, none⟩) n q.cn) (a' := ?awy47x6) rfl rfl (by kernel_rfl) (by kernel_rfl) (by kernel_rfl) (fun _ _ _ h => h) (Or.inl ⟨by rfl, ?ywy47x6⟩) ?fwy47x6 ?_
  case ywy47x6 => (intro wq hq; obtain ⟨g1, g2, g3, g4, g5, g6⟩ := HXX.out wq hq; go_simp; first | done | with_reducible rfl)
  case fwy47x6 => (go_frame; rfl)
  refine wpIn_take (i := 7) (d := (some 40)) (v := .int .i64 (b : Int)) (a' := ?awy48x7) rfl rfl (by kernel_rfl) (by kernel_rfl) (by kernel_rfl) (fun _ _ _ h => h) (Or.inl ⟨by rfl, ?ywy48x7⟩) ?fwy48x7 ?_
  case ywy48x7 => (intro wq hq; obtain ⟨g1, g2, g3, g4, g5, g6⟩ := HXX.out wq hq; go_simp; first | done | with_reducible rfl)
  case fwy48x7 => (go_frame; rfl)
  refine wpIn_take (i := 8) (d := (some 41)) (v := .pointer (some ⟨mb, mo + b, none⟩)) (a' := ?awy49x8) rfl rfl (by kernel_rfl) (by kernel_rfl) (by kernel_rfl) (fun _ _ _ h => h) (Or.inl ⟨by rfl, ?ywy49x8⟩) ?fwy49x8 ?_
  case ywy49x8 => (intro wq hq; obtain ⟨g1, g2, g3, g4, g5, g6⟩ := HXX.out wq hq; go_simp; first | done | with_reducible rfl)
  case fwy49x8 => (go_frame; rfl)
  refine wpIn_take (i := 9) (d := (some 42)) (v := .string nb) (a' := ?awy50x9) rfl rfl (by kernel_rfl) (by kernel_rfl) (by kernel_rfl) (fun _ _ _ h => h) (Or.inl ⟨by rfl, ?ywy50x9⟩) ?fwy50x9 ?_
  case ywy50x9 => (intro wq hq; obtain ⟨g1, g2, g3, g4, g5, g6⟩ := HXX.out wq hq; go_simp; first | done | with_reducible rfl)
  case fwy50x9 => (go_frame; rfl)
  refine wpIn_take (i := 10) (d := (some 43)) (v := .bool true) (a' := ?awy51x10) rfl rfl (by kernel_rfl) (by kernel_rfl) (by kernel_rfl) (fun _ _ _ h => h) (Or.inl ⟨by rfl, ?ywy51x10⟩) ?fwy51x10 ?_
  case ywy51x10 => (intro wq hq; go_simp)
  case fwy51x10 => (go_frame; rfl)
  refine wpIn_done hD2 (by kernel_rfl) ?_ _
  go_upto_region 4 with fail
  refine wp_region_in (by kernel_rfl) (fun w' => Below W0.heap.size W0 w') ?_
  change wpIn _ _ _ _ _ _ _ _ (World.drew _)
  refine wpIn_take (i := 0) (d := (some 44)) (v := .pointer (some ⟨w.heap.size, 0, none⟩)) (a' := ?awy52x0) rfl rfl (by kernel_rfl) (by kernel_rfl) (by kernel_rfl) (fun _ _ _ h => h) (Or.inl ⟨by rfl, ?ywy52x0⟩) ?fwy52x0 ?_
  case ywy52x0 => (intro wq hq; obtain ⟨g1, g2, g3, g4, g5, g6⟩ := HXX.out wq hq; go_simp; first | done | with_reducible rfl)
  case fwy52x0 => (go_frame; rfl)
  refine wpIn_take (i := 1) (d := (some 45)) (v := .slice (some ⟨mb, mo, none⟩) n q.cn) (a' := ?awy53x1) rfl rfl (by kernel_rfl) (by kernel_rfl) (by kernel_rfl) (fun _ _ _ h => h) (Or.inl ⟨by rfl, ?ywy53x1⟩) ?fwy53x1 ?_
  case ywy53x1 => (intro wq hq; obtain ⟨g1, g2, g3, g4, g5, g6⟩ := HXX.out wq hq; go_simp; first | done | with_reducible rfl)
  case fwy53x1 => (go_frame; rfl)
  refine wpIn_take (i := 2) (d := (some 46)) (v := .int .i64 (a : Int)) (a' := ?awy54x2) rfl rfl (by kernel_rfl) (by kernel_rfl) (by kernel_rfl) (fun _ _ _ h => h) (Or.inl ⟨by rfl, ?ywy54x2⟩) ?fwy54x2 ?_
  case ywy54x2 => (intro wq hq; obtain ⟨g1, g2, g3, g4, g5, g6⟩ := HXX.out wq hq; go_simp; first | done | with_reducible rfl)
  case fwy54x2 => (go_frame; rfl)
  refine wpIn_take (i := 3) (d := (some 47)) (v := .pointer (some ⟨mb, mo + a, none⟩)) (a' := ?awy55x3) rfl rfl (by kernel_rfl) (by kernel_rfl) (by kernel_rfl) (fun _ _ _ h => h) (Or.inl ⟨by rfl, ?ywy55x3⟩) ?fwy55x3 ?_
  case ywy55x3 => (intro wq hq; obtain ⟨g1, g2, g3, g4, g5, g6⟩ := HXX.out wq hq; go_simp; first | done | with_reducible rfl)
  case fwy55x3 => (go_frame; rfl)
  refine wpIn_take (i := 4) (d := (some 48)) (v := .string na) (a' := ?awy56x4) rfl rfl (by kernel_rfl) (by kernel_rfl) (by kernel_rfl) (fun _ _ _ h => h) (Or.inl ⟨by rfl, ?ywy56x4⟩) ?fwy56x4 ?_
  case ywy56x4 => (intro wq hq; obtain ⟨g1, g2, g3, g4, g5, g6⟩ := HXX.out wq hq; go_simp; first | done | with_reducible rfl)
  case fwy56x4 => (go_frame; rfl)
  refine wpIn_take (i := 5) (d := (some 49)) (v := .pointer (some ⟨w.heap.size, 0, none⟩)) (a' := ?awy57x5) rfl rfl (by kernel_rfl) (by kernel_rfl) (by kernel_rfl) (fun _ _ _ h => h) (Or.inl ⟨by rfl, ?ywy57x5⟩) ?fwy57x5 ?_
  case ywy57x5 => (intro wq hq; obtain ⟨g1, g2, g3, g4, g5, g6⟩ := HXX.out wq hq; go_simp; first | done | with_reducible rfl)
  case fwy57x5 => (go_frame; rfl)
  refine wpIn_take (i := 6) (d := (some 50)) (v := .slice (some ⟨mb, mo, none⟩) n q.cn) (a' := ?awy58x6) rfl rfl (by kernel_rfl) (by kernel_rfl) (by kernel_rfl) (fun _ _ _ h => h) (Or.inl ⟨by rfl, ?ywy58x6⟩) ?fwy58x6 ?_
  case ywy58x6 => (intro wq hq; obtain ⟨g1, g2, g3, g4, g5, g6⟩ := HXX.out wq hq; go_simp; first | done | with_reducible rfl)
  case fwy58x6 => (go_frame; rfl)
  refine wpIn_take (i := 7) (d := (some 51)) (v := .int .i64 (b : Int)) (a' := ?awy59x7) rfl rfl (by kernel_rfl) (by kernel_rfl) (by kernel_rfl) (fun _ _ _ h => h) (Or.inl ⟨by rfl, ?ywy59x7⟩) ?fwy59x7 ?_
  case ywy59x7 => (intro wq hq; obtain ⟨g1, g2, g3, g4, g5, g6⟩ := HXX.out wq hq; go_simp; first | done | with_reducible rfl)
  case fwy59x7 => (go_frame; rfl)
  refine wpIn_take (i := 8) (d := (some 52)) (v := .pointer (some ⟨mb, mo + b, none⟩)) (a' := ?awy60x8) rfl rfl (by kernel_rfl) (by kernel_rfl) (by kernel_rfl) (fun _ _ _ h => h) (Or.inl ⟨by rfl, ?ywy60x8⟩) ?fwy60x8 ?_
  case ywy60x8 => (intro wq hq; obtain ⟨g1, g2, g3, g4, g5, g6⟩ := HXX.out wq hq; go_simp; first | done | with_reducible rfl)
  case fwy60x8 => (go_frame; rfl)
  refine wpIn_take (i := 9) (d := (some 53)) (v := .string nb) (a' := ?awy61x9) rfl rfl (by kernel_rfl) (by kernel_rfl) (by kernel_rfl) (fun _ _ _ h => h) (Or.inl ⟨by rfl, ?ywy61x9⟩) ?fwy61x9 ?_
  case ywy61x9 => (intro wq hq; obtain ⟨g1, g2, g3, g4, g5, g6⟩ := HXX.out wq hq; go_simp; first | done | with_reducible rfl)
  case fwy61x9 => (go_frame; rfl)
  refine wpIn_take (i := 10) (d := (some 54)) (v := .bool (ltK nb na)) (a' := ?awy62x10) rfl rfl (by kernel_rfl) (by kernel_rfl) (by kernel_rfl) (fun _ _ _ h => h) (Or.inl ⟨by rfl, ?ywy62x10⟩) ?fwy62x10 ?_
  case ywy62x10 => (intro wq hq; obtain ⟨g1, g2, g3, g4, g5, g6⟩ := HXX.out wq hq; go_simp; first | done | exact l2 | with_reducible rfl)
  case fwy62x10 => (go_frame; rfl)
  refine wpIn_take (i := 11) (d := (some 6)) (v := .bool (ltK nb na)) (a' := ?awy63x11) rfl rfl (by kernel_rfl) (by kernel_rfl) (by kernel_rfl) (fun _ _ _ h => h) (Or.inl ⟨by rfl, ?ywy63x11⟩) ?fwy63x11 ?_
  case ywy63x11 => (intro wq hq; go_simp; first | done | with_reducible rfl)
  case fwy63x11 => (go_frame; rfl)
  refine wpIn_done hD3 (by kernel_rfl) ?_ _
  go_wp2
  go_ret
  exact ⟨ret_bool HR.out.symm, belowP hb0 hD3⟩
 subst hm
 have HR : Hid (R = decide (b < a)) := by show _ = _; rw [HY.out, if_pos rfl, if_pos rfl]
 clear HY
 go_upto_region 3 with fail
 refine wp_region_in (by kernel_rfl) (fun w' => Below W0.heap.size W0 w') ?_
 change wpIn _ _ _ _ _ _ _ _ (World.drew _)
 refine wpIn_take (i := 0) (d := (some 33)) (v := .pointer (some ⟨w.heap.size, 0, none⟩)) (a' := ?awy64x0) rfl rfl (by kernel_rfl) (by kernel_rfl) (by kernel_rfl) (fun _ _ _ h => h) (Or.inl ⟨by rfl, ?ywy64x0⟩) ?fwy64x0 ?_
 case ywy64x0 => (intro wq hq; obtain ⟨g1, g2, g3, g4, g5, g6⟩ := HXX.out wq hq; go_simp; first | done | with_reducible rfl)
 case fwy64x0 => (go_frame; rfl)
 refine wpIn_take (i := 1) (d := (some 34)) (v := .slice (some ⟨mb, mo, none⟩) n q.cn) (a' := ?awy65x1) rfl rfl (by kernel_rfl) (by kernel_rfl) (by kernel_rfl) (fun _ _ _ h => h) (Or.inl ⟨by rfl, ?ywy65x1⟩) ?fwy65x1 ?_
 case ywy65x1 => (intro wq hq; obtain ⟨g1, g2, g3, g4, g5, g6⟩ := HXX.out wq hq; go_simp; first | done | with_reducible rfl)
 case fwy65x1 => (go_frame; rfl)
 refine wpIn_take (i := 2) (d := (some 35)) (v := .int .i64 (a : Int)) (a' := ?awy66x2) rfl rfl (by kernel_rfl) (by kernel_rfl) (by kernel_rfl) (fun _ _ _ h => h) (Or.inl ⟨by rfl, ?ywy66x2⟩) ?fwy66x2 ?_
 case ywy66x2 => (intro wq hq; obtain ⟨g1, g2, g3, g4, g5, g6⟩ := HXX.out wq hq; go_simp; first | done | with_reducible rfl)
 case fwy66x2 => (go_frame; rfl)
 refine wpIn_take (i := 3) (d := (some 36)) (v := .pointer (some ⟨mb, mo + a, none⟩)) (a' := ?awy67x3) rfl rfl (by kernel_rfl) (by kernel_rfl) (by kernel_rfl) (fun _ _ _ h => h) (Or.inl ⟨by rfl, ?ywy67x3⟩) ?fwy67x3 ?_
 case ywy67x3 => (intro wq hq; obtain ⟨g1, g2, g3, g4, g5, g6⟩ := HXX.out wq hq; go_simp; first | done | with_reducible rfl)
 case fwy67x3 => (go_frame; rfl)
 refine wpIn_take (i := 4) (d := (some 37)) (v := .string na) (a' := ?awy68x4) rfl rfl (by kernel_rfl) (by kernel_rfl) (by kernel_rfl) (fun _ _ _ h => h) (Or.inl ⟨by rfl, ?ywy68x4⟩) ?fwy68x4 ?_
 case ywy68x4 => (intro wq hq; obtain ⟨g1, g2, g3, g4, g5, g6⟩ := HXX.out wq hq; go_simp; first | done | with_reducible rfl)
 case fwy68x4 => (go_frame; rfl)
 refine wpIn_take (i := 5) (d := (some 38)) (v := .pointer (some ⟨w.heap.size, 0, none⟩)) (a' := ?awy69x5) rfl rfl (by kernel_rfl) (by kernel_rfl) (by kernel_rfl) (fun _ _ _ h => h) (Or.inl ⟨by rfl, ?ywy69x5⟩) ?fwy69x5 ?_
 case ywy69x5 => (intro wq hq; obtain ⟨g1, g2, g3, g4, g5, g6⟩ := HXX.out wq hq; go_simp; first | done | with_reducible rfl)
 case fwy69x5 => (go_frame; rfl)
 refine wpIn_take (i := 6) (d := (some 39)) (v := .slice (some ⟨mb, mo, none⟩) n q.cn) (a' := ?awy70x6) rfl rfl (by kernel_rfl) (by kernel_rfl) (by kernel_rfl) (fun _ _ _ h => h) (Or.inl ⟨by rfl, ?ywy70x6⟩) ?fwy70x6 ?_
 case ywy70x6 => (intro wq hq; obtain ⟨g1, g2, g3, g4, g5, g6⟩ := HXX.out wq hq; go_simp; first | done | with_reducible rfl)
 case fwy70x6 => (go_frame; rfl)
 refine wpIn_take (i := 7) (d := (some 40)) (v := .int .i64 (b : Int)) (a' := ?awy71x7) rfl rfl (by kernel_rfl) (by kernel_rfl) (by kernel_rfl) (fun _ _ _ h => h) (Or.inl ⟨by rfl, ?ywy71x7⟩) ?fwy71x7 ?_
 case ywy71x7 => (intro wq hq; obtain ⟨g1, g2, g3, g4, g5, g6⟩ := HXX.out wq hq; go_simp; first | done | with_reducible rfl)
 case fwy71x7 => (go_frame; rfl)
 refine wpIn_take (i := 8) (d := (some 41)) (v := .pointer (some ⟨mb, mo + b, none⟩)) (a' := ?awy72x8) rfl rfl (by kernel_rfl) (by kernel_rfl) (by kernel_rfl) (fun _ _ _ h => h) (Or.inl ⟨by rfl, ?ywy72x8⟩) ?fwy72x8 ?_
 case ywy72x8 => (intro wq hq; obtain ⟨g1, g2, g3, g4, g5, g6⟩ := HXX.out wq hq; go_simp; first | done | with_reducible rfl)
 case fwy72x8 => (go_frame; rfl)
 refine wpIn_take (i := 9) (d := (some 42)) (v := .string na) (a' := ?awy73x9) rfl rfl (by kernel_rfl) (by kernel_rfl) (by kernel_rfl) (fun _ _ _ h => h) (Or.inl ⟨by rfl, ?ywy73x9⟩) ?fwy73x9 ?_
 case ywy73x9 => (intro wq hq; obtain ⟨g1, g2, g3, g4, g5, g6⟩ := HXX.out wq hq; go_simp; first | done | with_reducible rfl)
 case fwy73x9 => (go_frame; rfl)
 refine wpIn_take (i := 10) (d := (some 43)) (v := .bool false) (a' := ?awy74x10) rfl rfl (by kernel_rfl) (by kernel_rfl) (by kernel_rfl) (fun _ _ _ h => h) (Or.inl ⟨by rfl, ?ywy74x10⟩) ?fwy74x10 ?_
 case ywy74x10 => (intro wq hq; go_simp)
 case fwy74x10 => (go_frame; rfl)
 refine wpIn_done hD2 (by kernel_rfl) ?_ _
 go_wp2
 go_ret
 exact ⟨ret_bool (by rw [HR.out]), belowP hb0 hD2⟩
structure Sel (num : Nat → Int) (p : Pa) (S done lf : List Nat) : Prop where
 perm : (done ++ lf).Perm S
 sorted : done.Pairwise (LtT num p)
 ahead : ∀ d ∈ done, ∀ x ∈ lf, LtT num p d x
theorem Sel.start (num : Nat → Int) (p : Pa) (S : List Nat) : Sel num p S [] S := ⟨List.Perm.refl _, List.Pairwise.nil, fun d hd => absurd hd (by simp)⟩
theorem Sel.done {num : Nat → Int} {p : Pa} {S d : List Nat} (h : Sel num p S d []) : Rkd num p S d := ⟨by simpa using h.perm, h.sorted⟩
theorem Sel.next {num : Nat → Int} {p : Pa} {S d lf : List Nat} (h : Sel num p S d lf) (hnd : S.Nodup) {b : Nat} (hb : b < lf.length) (hm : ∀ j, j < lf.length → j ≠ b → LtT num p (lf.getD b 0) (lf.getD j 0)) : Sel num p S (d ++ [lf.getD b 0]) (lf.take b ++ lf.drop (b + 1)) := by
 have hbe : lf.getD b 0 = lf[b] := getD_in hb
 have hpe : (lf[b] :: (lf.take b ++ lf.drop (b + 1))).Perm lf := by
  have e : lf.take b ++ lf[b] :: lf.drop (b + 1) = lf := by rw [← List.drop_eq_getElem_cons hb, List.take_append_drop]
  have := (List.perm_middle (a := lf[b]) (l₁ := lf.take b) (l₂ := lf.drop (b + 1))).symm
  rwa [e] at this
 have hndf : lf.Nodup := (List.nodup_append.1 (h.perm.nodup_iff.2 hnd)).2.1
 have hndp : (lf[b] :: (lf.take b ++ lf.drop (b + 1))).Nodup := hpe.nodup_iff.2 hndf
 refine ⟨?_, ?_, ?_⟩
 · refine List.Perm.trans ?_ h.perm
   rw [List.append_assoc, hbe]
   exact List.Perm.append_left d hpe
 · rw [List.pairwise_append]
   refine ⟨h.sorted, List.pairwise_singleton _ _, fun x hx y hy => ?_⟩
   rw [List.mem_singleton] at hy
   subst hy
   exact h.ahead x hx _ (by rw [hbe]; exact List.getElem_mem hb)
 · intro x hx y hy
   have hyl : y ∈ lf := hpe.mem_iff.1 (List.mem_cons_of_mem _ hy)
   rcases List.mem_append.1 hx with hx | hx
   · exact h.ahead x hx y hyl
   · rw [List.mem_singleton] at hx
     subst hx
     obtain ⟨j, hj, rfl⟩ := List.getElem_of_mem hyl
     have hne : j ≠ b := by
      rintro rfl
      exact (List.nodup_cons.1 hndp).1 hy
     have := hm j hj hne
     rwa [getD_in hj] at this
def Bst (num : Nat → Int) (p : Pa) (lf : List Nat) (k b : Nat) : Prop := b < k ∧ ∀ j, j < k → j ≠ b → LtT num p (lf.getD b 0) (lf.getD j 0)
theorem Bst.one (num : Nat → Int) (p : Pa) (lf : List Nat) : Bst num p lf 1 0 := ⟨by omega, fun j h1 h2 => by omega⟩
theorem Bst.turn {num : Nat → Int} {p : Pa} {lf : List Nat} {k b : Nat} (h : Bst num p lf k b) (ht : LtT num p (lf.getD k 0) (lf.getD b 0)) : Bst num p lf (k + 1) k := ⟨by omega, fun j h1 h2 => by
 by_cases e : j = b
 · rw [e]; exact ht
 · exact ltT_trans ht (h.2 j (by omega) e)⟩
theorem Bst.stay {num : Nat → Int} {p : Pa} {lf : List Nat} {k b : Nat} (h : Bst num p lf k b) (hnd : lf.Nodup) (hk : k < lf.length) (ht : ¬ LtT num p (lf.getD k 0) (lf.getD b 0)) : Bst num p lf (k + 1) b := ⟨by have := h.1; omega, fun j h1 h2 => by
 by_cases e : j = k
 · subst e
   have hb := h.1
   have hne : lf.getD j 0 ≠ lf.getD b 0 := by
    rw [getD_in hk, getD_in (show b < lf.length by omega)]
    intro e
    have := (List.getElem_inj hnd).1 e
    omega
   exact (ltT_total num p hne).resolve_left ht
 · exact h.2 j (by omega) h2⟩
theorem Sel.left_nodup {num : Nat → Int} {p : Pa} {S d lf : List Nat} (h : Sel num p S d lf) (hnd : S.Nodup) : lf.Nodup := (List.nodup_append.1 (h.perm.nodup_iff.2 hnd)).2.1
theorem Sel.mem {num : Nat → Int} {p : Pa} {S d lf : List Nat} (h : Sel num p S d lf) {x : Nat} (hx : x ∈ lf) : x ∈ S := h.perm.mem_iff.1 (List.mem_append.2 (.inr hx))
theorem Sel.len {num : Nat → Int} {p : Pa} {S d lf : List Nat} (h : Sel num p S d lf) : d.length + lf.length = S.length := by rw [← List.length_append]; exact h.perm.length_eq
theorem young_Lt (num : Nat → Int) (p : Pa) (a b : Nat) : (decide (num b > num a) || (decide (num b = num a) && youngT p a b)) = true ↔ LtT num p b a := by
 rw [young_lt, decide_eq_true_iff]
 exact Iff.rfl
theorem near_cons (F : Int → Option Int) (k0 : Int) (x : Nat) (r : List Nat) : nearT F k0 (x :: r) = match F (x : Int) with | some c => c | none => nearT F k0 r := rfl
theorem gone_cons (F : Int → Option Int) (x : Nat) (r : List Nat) : goneT F (x :: r) = match F (x : Int) with | some _ => [] | none => x :: goneT F r := rfl
theorem gone_near {p : Pa} (hr : backT p.auth p.evs.length = true) (F : Int → Option Int) (k0 : Int) : ∀ (m i : Nat), i ≤ m → ∀ x ∈ goneT F (lineT p i), nearT F k0 (lineT p x) = nearT F k0 (lineT p i) := by
 intro m
 induction m with
 | zero =>
  intro i hi x hx
  rw [lineT_eq hr i, gone_cons] at hx
  cases hF : F (i : Int) with
  | some c => rw [hF] at hx; cases hx
  | none =>
   rw [hF] at hx
   rcases List.mem_cons.1 hx with rfl | hx
   · rfl
   · cases hj : leansT p i tPower with
     | none => rw [hj] at hx; cases hx
     | some j => exact absurd (leans_lt hr hj) (by omega)
 | succ m ih =>
  intro i hi x hx
  rw [lineT_eq hr i, gone_cons] at hx
  cases hF : F (i : Int) with
  | some c => rw [hF] at hx; cases hx
  | none =>
   rw [hF] at hx
   rcases List.mem_cons.1 hx with rfl | hx
   · rfl
   · cases hj : leansT p i tPower with
     | none => rw [hj] at hx; cases hx
     | some j =>
      rw [hj] at hx
      have hlt := leans_lt hr hj
      rw [ih j (by omega) x hx, lineT_eq hr i, near_cons, hF, hj]
def afterT (F : Int → Option Int) (k0 : Int) (l : List Nat) : Int → Option Int := fun x => if x ∈ zs (goneT F l) then some (nearT F k0 l) else F x
theorem stable {p : Pa} (hr : backT p.auth p.evs.length = true) (F : Int → Option Int) (k0 : Int) (i : Nat) : ∀ (m j : Nat), j ≤ m → nearT (afterT F k0 (lineT p i)) k0 (lineT p j) = nearT F k0 (lineT p j) := by
 intro m
 induction m with
 | zero =>
  intro j hj
  by_cases hg : j ∈ goneT F (lineT p i)
  · rw [gone_near hr F k0 i i (Nat.le_refl _) j hg, lineT_eq hr j, near_cons, show afterT F k0 (lineT p i) (j : Int) = some (nearT F k0 (lineT p i)) from if_pos ((zs_mem _ _).2 hg)]
  · rw [lineT_eq hr j, near_cons, near_cons, show afterT F k0 (lineT p i) (j : Int) = F (j : Int) from if_neg fun h => hg ((zs_mem _ _).1 h)]
    cases hl : leansT p j tPower with
    | none => rfl
    | some k => exact absurd (leans_lt hr hl) (by omega)
 | succ m ih =>
  intro j hj
  by_cases hg : j ∈ goneT F (lineT p i)
  · rw [gone_near hr F k0 i i (Nat.le_refl _) j hg, lineT_eq hr j, near_cons, show afterT F k0 (lineT p i) (j : Int) = some (nearT F k0 (lineT p i)) from if_pos ((zs_mem _ _).2 hg)]
  · rw [lineT_eq hr j, near_cons, near_cons, show afterT F k0 (lineT p i) (j : Int) = F (j : Int) from if_neg fun h => hg ((zs_mem _ _).1 h)]
    cases hl : leansT p j tPower with
    | none => rfl
    | some k => rw [ih k (by have := leans_lt hr hl; omega)]
def nrT (p : Pa) (l : List Int) (x : Nat) : Int := nearT (posI l) (l.length : Int) (lineT p x)
structure Msr (p : Pa) (l : List Int) (F : Int → Option Int) : Prop where
 told : ∀ x, nearT F (l.length : Int) (lineT p x) = nrT p l x
 wf : ∀ x c, F x = some c → wf64 c
theorem Msr.start {p : Pa} {l : List Int} (hl : l.length ≤ 1000) : Msr p l (posI l) := ⟨fun _ => rfl, pos_wf hl⟩
theorem Msr.next {p : Pa} {l : List Int} {F F' : Int → Option Int} (h : Msr p l F) (hr : backT p.auth p.evs.length = true) (hl : l.length ≤ 1000) (i : Nat) (hF : ∀ x, F' x = if x ∈ zs (goneT F (lineT p i)) then some (nearT F (l.length : Int) (lineT p i)) else F x) : Msr p l F' := by
 have e : F' = afterT F (l.length : Int) (lineT p i) := funext hF
 refine ⟨fun x => by rw [e, stable hr F _ i x x (Nat.le_refl _)]; exact h.told x, fun x c hx => ?_⟩
 rw [hF] at hx
 split at hx
 · cases hx; exact near_wf h.wf (wf_nat (by omega)) _
 · exact h.wf x c hx
theorem nrT_wf {p : Pa} {l : List Int} (hl : l.length ≤ 1000) (x : Nat) : wf64 (nrT p l x) := near_wf (pos_wf hl) (wf_nat (by omega)) _
end Go.Proofs.YtimhpglfolbomabGreat.Od

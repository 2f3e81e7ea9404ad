/-
  The document's Line: by a contract.
  The document's Near: by a contract.
  Which line each place has, and how near all stand to any line: the law, walked.
  A value of JSON that came in, as the walks read it.
  Whether no two of a row are the same, by a set: a contract.
  A map or list that is being made, a key and a value after another: what lies in memory.
  A key and a value more, by a contract: what told's own function does.
  The small parts of an event's shape and JSON, by contracts: within, digest, text, number.
  Lists of texts, and maps of signatures, as JSON: by contracts.
  A map of names to values of JSON, as the reader of events has it.
  The reader of events: what it has left, and how it takes a value: by contracts.
-/
import Derived.Test.YtimhpglfolbomaaGreatRN16
import Derived.Test.YtimhpglfolbomaaGreatChecked
import Derived.ProofKit
import Derived.SizedLaws
import Derived.SliceStrings
import Derived.Laws.OwnMore
set_option maxRecDepth 100000
set_option maxHeartbeats 16000000
namespace Go.Proofs.YtimhpglfolbomaaGreat.Od
open Go.RowKit Go.Maps
def restT (p : Pa) : Option Nat → List Nat
 | some j => lineT p j
 | none => []
theorem rest_next {p : Pa} (hr : backT p.auth p.evs.length = true) (j : Nat) : restT p (some j) = j :: restT p (leansT p j tPower) := by
 show lineT p j = _
 rw [lineT_eq hr]
 cases leansT p j tPower <;> rfl
theorem rline_any {w : World} {p : Pa} {q : Pq} (h : IsPa (· < w.heap.size) w p q) (hz : SzPa p) (i : Int) :
    Calls Tryz.prog 25 #[valPa p q, .int .i64 i] w (RowP (zs (lineV p i)) w) := by
 obtain ⟨W0, hW0⟩ : ∃ W0, W0 = w.alloc (.cells (cellsPa p q).toArray 27) := ⟨_, rfl⟩
 have hb0 : Below w.heap.size w W0 := by rw [hW0]; exact (Below.refl _ _).alloc (Nat.le_refl _) _
 have V : IsVP W0 w.heap.size p q := by rw [hW0]; exact isVP_new h
 have HLD : Hid (∀ X, Below W0.heap.size W0 X → (Instr.loadAt 27 (.pointer (some ⟨w.heap.size, 0, none⟩))).run Tryz.prog X = .ok (.agg (cellsPa p q).toArray) X) := fun X hX => (V.below hX).load
 have hRi := rright_any V.pa hz
 have HCL : Hid (∀ X, Below W0.heap.size W0 X → X.cell? ⟨w.heap.size, 1, none⟩ = some (.slice q.e p.evs.length q.ce)) := fun X hX => (V.below hX).c1
 have hen := hz.evs
 have hB0 : Below W0.heap.size W0 W0 := Below.refl _ _
 cases hr : rightT p with
 | false =>
  have HR : Hid (lineV p i = []) := by show _ = _; unfold lineV; rw [hr]; rfl
  rw [hr] at hRi
  clear V h hz hr
  unfold valPa at hRi ⊢
  generalize cellsPa p q = CP at *
  go_enter Tryz.func25, Tryz.ntmps25
  go_upto_region 1 with fail
  rw [← hW0]
  clear hW0
  go_wp2_with (first
   | (refine wpList_loadK rfl 27 _ rfl w.heap.size 0 rfl CP (HLD.out _ hB0) ?_)
   | (go_at_call 11; refine hRi.mono ?_; rintro e w1 ⟨rfl, hb1⟩))
  go_ret
  rw [HR.out]
  exact ⟨_, rfl, World.ownsRow_nil _ _ _ _, belowP hb0 hb1⟩
 | true =>
 rw [hr] at hRi
 by_cases hi0 : i < 0
 · have HR : Hid (lineV p i = []) := by show _ = _; unfold lineV wayT; rw [if_neg (fun hh : 0 ≤ i ∧ i < (p.evs.length : Int) => by omega)]; split <;> rfl
   have d0 : decide (i < 0) = true := decide_eq_true hi0
   clear V h hz hr
   unfold valPa at hRi ⊢
   generalize cellsPa p q = CP at *
   go_enter Tryz.func25, Tryz.ntmps25
   go_upto_region 1 with fail
   rw [← hW0]
   clear hW0
   go_wp2_with (first
    | (refine wpList_loadK rfl 27 _ rfl w.heap.size 0 rfl CP (HLD.out _ hB0) ?_)
    | (go_at_call 11; refine hRi.mono ?_; rintro e w1 ⟨rfl, hb1⟩))
   go_ret
   rw [HR.out]
   exact ⟨_, rfl, World.ownsRow_nil _ _ _ _, belowP hb0 hb1⟩
 have d0 : decide (i < 0) = false := decide_eq_false hi0
 by_cases hi1 : (p.evs.length : Int) ≤ i
 · have HR : Hid (lineV p i = []) := by show _ = _; unfold lineV wayT; rw [if_neg (fun hh : 0 ≤ i ∧ i < (p.evs.length : Int) => by omega)]; split <;> rfl
   clear V h hz hr
   unfold valPa at hRi ⊢
   generalize lineV p i = R at *
   generalize cellsPa p q = CP at *
   generalize p.evs.length = n1 at *
   have d1 : decide ((n1 : Int) ≤ i) = true := decide_eq_true hi1
   go_enter Tryz.func25, Tryz.ntmps25
   go_upto_region 1 with fail
   rw [← hW0]
   clear hW0
   go_wp2_with (first
    | (refine wpList_loadK rfl 27 _ rfl w.heap.size 0 rfl CP (HLD.out _ hB0) ?_)
    | (go_at_call 11; refine hRi.mono ?_; rintro e w1 ⟨rfl, hb1⟩; have c1 := HCL.out _ hb1))
   go_ret
   rw [HR.out]
   exact ⟨_, rfl, World.ownsRow_nil _ _ _ _, belowP hb0 hb1⟩
 obtain ⟨x, rfl⟩ : ∃ x : Nat, i = (x : Int) := ⟨i.toNat, by omega⟩
 have hi : x < p.evs.length := by omega
 have hba := (right_parts hr).2.1
 have HRV : Hid (lineV p (x : Int) = restT p (some x)) := by
  show _ = _
  unfold lineV wayT
  rw [hr, if_pos (show 0 ≤ (x : Int) ∧ (x : Int) < (p.evs.length : Int) by omega)]
  simp [restT]
 have HLL : Hid ((restT p (some x)).length ≤ 30) := by have := lineT_len hba x; show (lineT p x).length ≤ 30; omega
 have HNX : Hid (∀ j, restT p (some j) = j :: restT p (leansT p j tPower)) := fun j => rest_next hba j
 have HLT : Hid (∀ j k, leansT p j tPower = some k → k < j) := fun j k h => leans_lt hba h
 have HLN : Hid (∀ X j, Below W0.heap.size W0 X → j < p.evs.length → Calls Tryz.prog 40 #[.agg (cellsPa p q).toArray, .int .i64 (j : Int), .string tPower] X fun e w' => e = .returned (.int .i64 (rleanV (leansT p j tPower))) ∧ Below X.heap.size X w') := fun X j hX hj => rleans_any (V.below hX).pa hz hba j hj tPower
 clear V h hz hr hba
 unfold valPa at hRi ⊢
 generalize lineV p (x : Int) = R at *
 generalize cellsPa p q = CP at *
 generalize p.evs.length = n1 at *
 have d1 : decide ((n1 : Int) ≤ (x : Int)) = false := decide_eq_false hi1
 have d2 : decide (n1 ≤ x) = false := decide_eq_false (by omega)
 go_enter Tryz.func25, Tryz.ntmps25
 go_upto_region 1 with fail
 rw [← hW0]
 clear hW0
 go_upto_region 4 with (first
  | (refine wpList_loadK rfl 27 _ rfl w.heap.size 0 rfl CP (HLD.out _ hB0) ?_)
  | (go_at_call 11; refine hRi.mono ?_; rintro e w1 ⟨rfl, hb1⟩; have c1 := HCL.out _ hb1))
 clear c1 HCL hRi
 obtain ⟨B, hB⟩ : ∃ B, w1.heap.size = B := ⟨_, rfl⟩
 have HBB : Hid (w1.heap.size = B) := hB
 have HKB : Hid (∀ X, Keep (fun k => B ≤ k) w1 X → Below W0.heap.size W0 X) := fun X hX => hb1.trans (hX.below hb1.size fun k hk e => by have := hb1.size; have := HBB.out; omega)
 clear hB
 go_loopw [1, 5] (fun i v wr => ∃ (o : Option Nat) (M : List Nat), i = .int .i64 (rleanV o) ∧ (∀ j, o = some j → j < n1) ∧ wr.ownsRow B 3 1 v (zs M).length ((zs M).map (Value.int .i64)) ∧ Hid (restT p (some x) = M ++ restT p o) ∧ Keep (fun k => B ≤ k) w1 wr) (fun i _ _ => (intOf i + 1).toNat)
 case atStart => exact ⟨some x, [], rfl, fun j hj => by cases hj; exact hi, World.ownsRow_nil _ _ _ _, rfl, Keep.refl _ _⟩
 case round =>
  obtain ⟨o, M, rfl, hoj, hown, HM, hkp⟩ := hrel
  have hBW := HKB.out wr hkp
  cases o with
  | none =>
   have HE : Hid (R = M) := by show _ = _; rw [HRV.out, HM.out]; simp [restT]
   rw [show rleanV none = -1 from rfl]
   clear HM HNX HLT HLN
   go_wp2
   go_ret
   rw [HE.out]
   have := HBB.out
   exact RowP.of_own hown (by have := hb1.size; have := hb0.size; omega) (belowP hb0 hBW)
  | some j =>
   have hj := hoj j rfl
   rw [show rleanV (some j) = (j : Int) from rfl]
   have HM2 : Hid (restT p (some x) = (M ++ [j]) ++ restT p (leansT p j tPower)) := by show _ = _; rw [HM.out, HNX.out j]; simp
   have hMl : (zs M).length ≤ 30 := by
    have h1 := HLL.out
    rw [HM2.out] at h1
    rw [zs_len]
    simp at h1
    omega
   have HO : Hid (∀ k, leansT p j tPower = some k → k < j) := HLT.out j
   have HLJ : Hid (∀ X, Below W0.heap.size W0 X → Calls Tryz.prog 40 #[.agg CP.toArray, .int .i64 (j : Int), .string tPower] X fun e w' => e = .returned (.int .i64 (rleanV (leansT p j tPower))) ∧ Below X.heap.size X w') := fun X hX => HLN.out X j hX hj
   generalize leansT p j tPower = o2 at *
   have hws := hkp.size
   clear HM hoj
   go_upto_region 6 with (first
    | (at_builtin; refine wpList_push rfl (.tmp 22) (.tmp 24) 28 3 (.int .i64 0) 8 rfl Tryz.underlying28 Tryz.info3 rfl (by decide) int_one B _ (zs M) rfl ?a0 _ (j : Int) rfl ?a1 ?a2 ?a3 ?_))
   case a0 => exact hown.alloc _
   case a1 => exact cell_row (cur := [_]) (heap_alloc_new _ _) 0 _ rfl
   case a2 => omega
   case a3 => have := HBB.out; simp; omega
   intro v' w12 ho12 hg12 _
   have ho13 := own_snoc ho12
   have hk12 := (hkp.alloc (.cells #[.int .i64 (j : Int)] 3)).trans (Keep.of_grown (S := fun j => B ≤ j) hg12 fun j _ e => (hown.lt j e).1) fun _ _ h => h
   have hB12 := HKB.out _ hk12
   have ho14 : Hid (w12.ownsRow B 3 1 v' (zs (M ++ [j])).length ((zs (M ++ [j])).map (Value.int .i64))) := by rw [show zs (M ++ [j]) = zs M ++ [(j : Int)] by simp [zs]]; exact ho13
   clear ho12 hg12 ho13 hown
   go_wp2_with (first
    | (refine wpList_loadK rfl 27 _ rfl w.heap.size 0 rfl CP (HLD.out _ hB12) ?_)
    | (go_at_call 40; refine (HLJ.out _ hB12).mono ?_; rintro e w13 ⟨rfl, hb13⟩))
   have ho15 := own_keep (S := fun _ => False) ho14.out ⟨hb13.os, hb13.tape, hb13.output, hb13.size, fun k hk _ => hb13.block k hk⟩ fun _ _ h => h
   have hk13 : Keep (fun k => B ≤ k) w1 w13 := hk12.trans (Keep.of_below (S := fun _ => False) hb13) fun _ _ h => h.elim
   go_roundw
   case rel => exact ⟨o2, M ++ [j], rfl, fun k hk => by have := HO.out k hk; omega, ho15, HM2, hk13⟩
   case measure =>
    have := HO.out
    cases o2 with
    | none => simp [intOf, rleanV]; try omega
    | some k => have := this k rfl; simp [intOf, rleanV]; try omega
theorem near_line (p : Pa) (l : List Int) (i : Int) : nearV p l i = nearT (posI l) (l.length : Int) (lineV p i) := by
 unfold nearV lineV
 split <;> rfl
theorem near_drop {F : Int → Option Int} {k0 : Int} : ∀ (L : List Nat) (k : Nat), (∀ j, j < k → j < L.length → F ((L.getD j 0 : Nat) : Int) = none) → nearT F k0 L = nearT F k0 (L.drop k)
 | [], k, _ => by rw [List.drop_nil]
 | x :: r, 0, _ => rfl
 | x :: r, k + 1, h => by
  have h0 : F (x : Int) = none := h 0 (by omega) (by simp)
  show (match F (x : Int) with | some c => c | none => nearT F k0 r) = nearT F k0 (r.drop k)
  rw [h0]
  exact near_drop r k fun j hj hl => h (j + 1) (by omega) (by simpa using hl)
theorem near_found {l : List Int} {L : List Nat} {k0 : Int} {k n : Nat} (hk : k < L.length) (hn : n < l.length) (h1 : ∀ j, j < k → ((L.getD j 0 : Nat) : Int) ∉ l) (h2 : ∀ j, j < n → l.getD j 0 ≠ ((L.getD k 0 : Nat) : Int)) (h3 : l.getD n 0 = ((L.getD k 0 : Nat) : Int)) : nearT (posI l) k0 L = (n : Int) := by
 rw [near_drop L k fun j hj _ => by unfold posI; rw [if_neg (h1 j hj)]]
 rw [List.drop_eq_getElem_cons hk]
 have e : L[k] = L.getD k 0 := (getD_in hk).symm
 have hm : ((L.getD k 0 : Nat) : Int) ∈ l := by rw [← h3, getD_in hn]; exact List.getElem_mem hn
 rw [e]
 generalize L.getD k 0 = x at *
 show (match posI l (x : Int) with | some c => c | none => nearT (posI l) k0 (L.drop (k + 1))) = (n : Int)
 unfold posI
 rw [if_pos hm]
 show ((l.idxOf (x : Int) : Nat) : Int) = (n : Int)
 have h4 : l.idxOf (x : Int) = n := by
  have hil := List.idxOf_lt_length_iff.2 hm
  have hg : l[l.idxOf (x : Int)] = (x : Int) := List.getElem_idxOf hil
  rcases Nat.lt_trichotomy (l.idxOf (x : Int)) n with h | h | h
  · exact absurd (by rw [getD_in hil]; exact hg) (h2 _ h)
  · exact h
  · exfalso
    have := List.not_of_lt_findIdx (p := fun y => y == (x : Int)) (xs := l) (i := n) h
    rw [getD_in hn] at h3
    simp [h3] at this
 omega
theorem near_none {l : List Int} {L : List Nat} {k0 : Int} (h1 : ∀ j, j < L.length → ((L.getD j 0 : Nat) : Int) ∉ l) : nearT (posI l) k0 L = k0 := by
 refine (near_all fun x hx => ?_).1
 obtain ⟨j, hj, rfl⟩ := List.getElem_of_mem hx
 have := h1 j hj
 rw [getD_in hj] at this
 unfold posI
 rw [if_neg this]
theorem rnear_any {O : Nat → Prop} {w : World} {p : Pa} {q : Pq} {l : List Int} {pl : Option Addr} {cl : Nat} (h : IsPa (· < w.heap.size) w p q) (hz : SzPa p) (hl : RdI O w pl cl l) (hO : ∀ k, O k → k < w.heap.size) (hll : l.length ≤ 1000) (i : Int) :
    Calls Tryz.prog 27 #[valPa p q, .slice pl l.length cl, .int .i64 i] w fun e w' => e = .returned (.int .i64 (nearV p l i)) ∧ Below w.heap.size w w' := by
 obtain ⟨W0, hW0⟩ : ∃ W0, W0 = w.alloc (.cells (cellsPa p q).toArray 27) := ⟨_, rfl⟩
 have hb0 : Below w.heap.size w W0 := by rw [hW0]; exact (Below.refl _ _).alloc (Nat.le_refl _) _
 have V : IsVP W0 w.heap.size p q := by rw [hW0]; exact isVP_new h
 have HLD : Hid ((Instr.loadAt 27 (.pointer (some ⟨w.heap.size, 0, none⟩))).run Tryz.prog W0 = .ok (.agg (cellsPa p q).toArray) W0) := V.load
 have hLine := (rline_any V.pa hz i).mono fun _ _ h => RowP.rd h
 have HNV : Hid (nearV p l i = nearT (posI l) (l.length : Int) (lineV p i)) := near_line p l i
 have HLR : Hid (∀ X, Below W0.heap.size W0 X → RdI O X pl cl l) := fun X hX => hl.same (Same.of_below (belowP hb0 hX) hO)
 have HLN : Hid ((lineV p i).length ≤ 30) := by
  show (lineV p i).length ≤ 30
  unfold lineV wayT
  split
  · rename_i hr
    split
    · have := lineT_len (right_parts hr).2.1 i.toNat
      have := hz.evs
      omega
    · simp
  · simp
 clear V h hz hl
 have HFO : Hid (∀ k n, k < (lineV p i).length → n < l.length → (∀ j, j < k → (((lineV p i).getD j 0 : Nat) : Int) ∉ l) → (∀ j, j < n → l.getD j 0 ≠ (((lineV p i).getD k 0 : Nat) : Int)) → l.getD n 0 = (((lineV p i).getD k 0 : Nat) : Int) → nearV p l i = (n : Int)) := fun k n a b c d e => by rw [HNV.out]; exact near_found a b c d e
 have HNO : Hid ((∀ j, j < (lineV p i).length → (((lineV p i).getD j 0 : Nat) : Int) ∉ l) → nearV p l i = (l.length : Int)) := fun a => by rw [HNV.out]; exact near_none a
 clear HNV
 unfold valPa at hLine ⊢
 generalize nearV p l i = R at *
 generalize lineV p i = L at *
 generalize cellsPa p q = CP at *
 obtain ⟨m, hm⟩ : ∃ m, L.length = m := ⟨_, rfl⟩
 have HM : Hid (L.length = m) := hm
 obtain ⟨nl, hnl⟩ : ∃ nl, l.length = nl := ⟨_, rfl⟩
 have HL : Hid (l.length = nl) := hnl
 rw [hm] at HFO HNO HLN
 rw [hnl] at HFO HNO hll ⊢
 rw [zs_len, hm] at hLine
 have HLN2 := HLN.out
 clear hm hnl
 go_enter Tryz.func27, Tryz.ntmps27
 go_upto_region 1 with fail
 rw [← hW0]
 clear hW0
 go_upto_region 3 with (first
  | (refine wpList_loadK rfl 27 _ rfl w.heap.size 0 rfl CP HLD.out ?_)
  | (go_at_call 25; refine hLine.mono ?_; rintro e w1 ⟨v1, c1, rfl, hr1, hb1⟩; clear hLine))
 have HR1 : Hid (∀ X, Below w1.heap.size w1 X → RdI (fun k => W0.heap.size ≤ k ∧ k < w1.heap.size) X v1 c1 (zs L)) := fun X hX => hr1.same (Same.of_below hX fun k hk => hk.2)
 have hcl := (HLR.out W0 (Below.refl _ _)).1
 have hc1 := hr1.1
 rw [HL.out] at hcl
 rw [zs_len, HM.out] at hc1
 clear hr1 HLD
 go_loopw [8] (fun v wr => ∃ k : Nat, k ≤ m ∧ v = .int .i64 k ∧ Below w1.heap.size w1 wr ∧ Hid (∀ j, j < k → ((L.getD j 0 : Nat) : Int) ∉ l)) (fun v _ => m - (intOf v).toNat)
 case atStart => exact ⟨0, Nat.zero_le _, rfl, Below.refl _ _, fun j hj => absurd hj (by omega)⟩
 case round =>
  obtain ⟨k, hk, rfl, hb, HS⟩ := hrel
  by_cases hkm : k < m
  · have hkL : k < L.length := by rw [HM.out]; exact hkm
    have HFk : Hid (∀ n, n < nl → (∀ j, j < n → l.getD j 0 ≠ ((L.getD k 0 : Nat) : Int)) → l.getD n 0 = ((L.getD k 0 : Nat) : Int) → R = (n : Int)) := fun n hn a b => HFO.out k n hkm hn HS.out a b
    have HSk : Hid ((∀ j, j < nl → l.getD j 0 ≠ ((L.getD k 0 : Nat) : Int)) → ∀ j, j < k + 1 → ((L.getD j 0 : Nat) : Int) ∉ l) := fun h j hj => by
     rcases Nat.lt_or_ge j k with h' | h'
     · exact HS.out j h'
     · rw [show j = k by omega]
       intro hn
       obtain ⟨t, ht, e⟩ := List.getElem_of_mem hn
       exact h t (by rw [← HL.out]; exact ht) (by rw [getD_in ht]; exact e)
    have HCK : Hid (∀ X, Below w1.heap.size w1 X → ∃ ad, v1 = some ad ∧ X.cell? (ad.add k) = some (.int .i64 ((L.getD k 0 : Nat) : Int))) := fun X hX => by
     obtain ⟨ad, h1, _, h3⟩ := (HR1.out X hX).at k 0 (by rw [zs_len]; exact hkL)
     rw [zs_getD] at h3
     exact ⟨ad, h1, h3⟩
    generalize L.getD k 0 = x at *
    clear HFO HNO HS
    obtain ⟨ad, hv1, _⟩ := HCK.out wr hb
    subst hv1
    go_upto_region 6 with fail
    go_loopw [9] (fun v wx => ∃ t : Nat, t ≤ nl ∧ v = .int .i64 t ∧ Below wr.heap.size wr wx ∧ Hid (∀ j, j < t → l.getD j 0 ≠ (x : Int))) (fun v _ => nl - (intOf v).toNat)
    case atStart => exact ⟨0, Nat.zero_le _, rfl, Below.refl _ _, fun j hj => absurd hj (by omega)⟩
    case round =>
     obtain ⟨t, ht, rfl, hbx, HT⟩ := hrel
     have hbw := belowP hb hbx
     by_cases htn : t < nl
     · obtain ⟨ad2, hpl, _, hct⟩ := (HLR.out _ (belowP hb1 hbw)).at t 0 (by rw [HL.out]; exact htn)
       obtain ⟨ad3, hv3, hck⟩ := HCK.out _ hbw
       cases hv3
       have HFt : Hid (l.getD t 0 = (x : Int) → R = (t : Int)) := fun e => HFk.out t htn HT.out e
       have HTt : Hid (l.getD t 0 ≠ (x : Int) → ∀ j, j < t + 1 → l.getD j 0 ≠ (x : Int)) := fun h j hj => by
        rcases Nat.lt_or_ge j t with h' | h'
        · exact HT.out j h'
        · rw [show j = t by omega]; exact h
       have hdr : ∀ (X : World) (n : Nat), Below X.heap.size X (X.drewN n) := fun X n => belowN X n
       generalize l.getD t 0 = y at *
       subst hpl
       clear HT
       by_cases e : y = (x : Int)
       · subst e
         have HE : Hid (R = (t : Int)) := HFt.out rfl
         clear HFt HTt
         go_wp2_with fail
         go_quiet (fail)
         go_wp2_with fail
         go_ret
         exact ⟨ret_int HE.out.symm, belowP hb0 (belowP hb1 (belowP hbw (hdr _ _)))⟩
       · have e' : (y == (x : Int)) = false := by simpa using e
         have HE := (show Hid _ from HTt.out e)
         clear HFt HTt
         go_wp2_with fail
         go_quiet (fail)
         go_wp2_with fail
         go_roundw
         case rel => exact ⟨t + 1, by omega, by go_num, belowP hbx (hdr _ _), HE⟩
         case measure => simp [intOf]; try omega
     · obtain rfl : t = nl := by omega
       have HX := (show Hid _ from HSk.out HT.out)
       clear HT HSk HFk
       go_wp2_with fail
       go_roundw
       case rel => exact ⟨k + 1, by omega, by go_num, hbw, HX⟩
       case measure => simp [intOf]; try omega
  · obtain rfl : k = m := by omega
    have HE : Hid (R = (nl : Int)) := HNO.out HS.out
    clear HFO HNO HS
    go_wp2_with fail
    go_ret
    exact ⟨ret_int HE.out.symm, belowP hb0 (belowP hb1 hb)⟩
theorem lineT_fall {p : Pa} (hr : backT p.auth p.evs.length = true) : ∀ i, (lineT p i).Pairwise (· > ·) ∧ ∀ x ∈ lineT p i, x ≤ i
 | i => by
  rw [lineT_eq hr]
  cases hj : leansT p i tPower with
  | none => simp
  | some j =>
   have h1 := leans_lt hr hj
   obtain ⟨h2, h3⟩ := lineT_fall hr j
   refine ⟨List.pairwise_cons.2 ⟨fun x hx => by have := h3 x hx; omega, h2⟩, fun x hx => ?_⟩
   rcases List.mem_cons.1 hx with rfl | hx
   · exact Nat.le_refl _
   · have := h3 x hx; omega
theorem lineV_fall (p : Pa) (i : Int) (j : Nat) (h : j + 1 < (lineV p i).length) : (lineV p i).getD (j + 1) 0 < (lineV p i).getD j 0 := by
 have hp : (lineV p i).Pairwise (· > ·) := by
  unfold lineV wayT
  split
  · rename_i hr
    split
    · exact (lineT_fall (right_parts hr).2.1 _).1
    · exact List.Pairwise.nil
  · exact List.Pairwise.nil
 rw [getD_in h, getD_in (by omega)]
 exact List.pairwise_iff_getElem.1 hp j (j + 1) (by omega) h (by omega)
theorem wrap_smallK {j : Nat} (h : j ≤ 1000) : IntKind.i64.wrap (j : Int) = (j : Int) := by rw [IntKind.wrap_i64]; omega
theorem zs_ne {L : List Nat} {j : Nat} (h : j < L.length) : zs L ≠ [] := by
 intro h0
 have h9 := zs_len L
 rw [h0] at h9
 simp at h9
 omega
theorem lineV_len {p : Pa} (hz : SzPa p) (i : Int) : (lineV p i).length ≤ 30 := by
 unfold lineV wayT
 split
 · rename_i hr
   split
   · have := lineT_len (right_parts hr).2.1 i.toNat
     have := hz.evs
     omega
   · simp
 · simp
theorem linesLaw_any {O : Nat → Prop} {w : World} {p : Pa} {q : Pq} {l : List Int} {pl : Option Addr} {cl : Nat} (h : IsPa (· < w.heap.size) w p q) (hB : BigPa p) (hl : RdI O w pl cl l) (hO : ∀ k, O k → k < w.heap.size) (hln : l.length ≤ 9223372036854775807) (hw : ∀ y ∈ l, wf64 y) :
    Calls Tryz.prog 8 #[valPa p q, .slice pl l.length cl] w fun x w' => x = .returned (.bool true) ∧ Below w.heap.size w w' := by
 obtain ⟨W0, hW0⟩ : ∃ W0, W0 = w.alloc (.cells (cellsPa p q).toArray 27) := ⟨_, rfl⟩
 have hb0 : Below w.heap.size w W0 := by rw [hW0]; exact (Below.refl _ _).alloc (Nat.le_refl _) _
 have V : IsVP W0 w.heap.size p q := by rw [hW0]; exact isVP_new h
 have HLD : Hid (∀ X, Below W0.heap.size W0 X → (Instr.loadAt 27 (.pointer (some ⟨w.heap.size, 0, none⟩))).run Tryz.prog X = .ok (.agg (cellsPa p q).toArray) X) := fun X hX => (V.below hX).load
 have hFew := few12_any V.pa hB
 have HLA : Hid (FewPa p → ∀ X i, Below W0.heap.size W0 X → Calls Tryz.prog 24 #[.agg (cellsPa p q).toArray, .int .i64 i] X fun e w' => ∃ v c, e = .returned (.slice v (zs (lineV p i)).length c) ∧ RdI (fun k => X.heap.size ≤ k ∧ k < w'.heap.size) w' v c (zs (lineV p i)) ∧ Below X.heap.size X w') := fun h1 X i hX => (line_any (V.below hX).pa h1.sz i).mono fun _ _ h => h.rd
 have HLB : Hid (FewPa p → ∀ X i, Below W0.heap.size W0 X → Calls Tryz.prog 25 #[.agg (cellsPa p q).toArray, .int .i64 i] X fun e w' => ∃ v c, e = .returned (.slice v (zs (lineV p i)).length c) ∧ RdI (fun k => X.heap.size ≤ k ∧ k < w'.heap.size) w' v c (zs (lineV p i)) ∧ Below X.heap.size X w') := fun h1 X i hX => (rline_any (V.below hX).pa h1.sz i).mono fun _ _ h => h.rd
 have HNA : Hid (FewPa p → l.length ≤ 50 → ∀ X i, Below W0.heap.size W0 X → Calls Tryz.prog 26 #[.agg (cellsPa p q).toArray, .slice pl l.length cl, .int .i64 i] X fun e w' => e = .returned (.int .i64 (nearV p l i)) ∧ Below X.heap.size X w') := fun h1 h2 X i hX => nearP_any (O := O) (V.below hX).pa h1.sz (hl.same (Same.of_below (belowP hb0 hX) hO)) (fun k hk => Nat.lt_of_lt_of_le (hO k hk) (belowP hb0 hX).size) (by omega) hw i
 have HNB : Hid (FewPa p → l.length ≤ 50 → ∀ X i, Below W0.heap.size W0 X → Calls Tryz.prog 27 #[.agg (cellsPa p q).toArray, .slice pl l.length cl, .int .i64 i] X fun e w' => e = .returned (.int .i64 (nearV p l i)) ∧ Below X.heap.size X w') := fun h1 h2 X i hX => rnear_any (O := O) (V.below hX).pa h1.sz (hl.same (Same.of_below (belowP hb0 hX) hO)) (fun k hk => Nat.lt_of_lt_of_le (hO k hk) (belowP hb0 hX).size) (by omega) i
 have HFALL : Hid (∀ i j, j + 1 < (lineV p i).length → (lineV p i).getD (j + 1) 0 < (lineV p i).getD j 0) := fun i j => lineV_fall p i j
 have HLEN : Hid (FewPa p → ∀ i, (lineV p i).length ≤ 30) := fun h1 i => lineV_len h1.sz i
 have HC1 : Hid (∀ X, Below W0.heap.size W0 X → X.cell? ⟨w.heap.size, 1, none⟩ = some (.slice q.e p.evs.length q.ce)) := fun X hX => (V.below hX).c1
 have HEN : Hid (FewPa p → p.evs.length ≤ 25) := fun h1 => h1.evs
 have hB0 : Below W0.heap.size W0 W0 := Below.refl _ _
 clear h V hB hl
 unfold valPa at hFew ⊢
 generalize cellsPa p q = C at *
 generalize p.evs.length = n at *
 obtain ⟨nl, hnl⟩ : ∃ nl, l.length = nl := ⟨_, rfl⟩
 rw [hnl] at HNA HNB hln ⊢
 clear hnl hw
 by_cases h50 : nl ≤ 50
 case neg =>
  have h50' : 50 < nl := by omega
  have d1 : decide ((50 : Int) < (nl : Int)) = true := decide_eq_true (by omega)
  have d2 : decide (50 < nl) = true := decide_eq_true h50'
  go_enter Tryz.func8, Tryz.ntmps8
  go_upto_region 1 with fail
  rw [← hW0]
  clear hW0
  go_wp2_with (first
   | (refine wpList_loadK rfl 27 _ rfl w.heap.size 0 rfl C (HLD.out _ hB0) ?_)
   | (go_at_call 9; refine hFew.mono ?_; rintro x W ⟨⟨b1, rfl, hf1⟩, hB1⟩; cases b1))
  all_goals (go_ret; exact ⟨rfl, belowP hb0 hB1⟩)
 have d1 : decide ((50 : Int) < (nl : Int)) = false := decide_eq_false (by omega)
 have d2 : decide (50 < nl) = false := decide_eq_false (by omega)
 go_enter Tryz.func8, Tryz.ntmps8
 go_upto_region 1 with fail
 rw [← hW0]
 clear hW0
 go_upto_region 4 with (first
  | (refine wpList_loadK rfl 27 _ rfl w.heap.size 0 rfl C (HLD.out _ hB0) ?_)
  | (go_at_call 9; refine hFew.mono ?_; rintro x W ⟨⟨b1, rfl, hf1⟩, hB1⟩; cases b1; have hN1 := hB1; clear hB1))
 · go_wp2
   go_ret
   exact ⟨rfl, belowP hb0 hN1⟩
 · have hfe := hf1 trivial
   have hn := HEN.out hfe
   have HP1 : Hid (∀ X i, Below W.heap.size W X → Calls Tryz.prog 24 #[.agg C.toArray, .int .i64 i] X fun e w' => ∃ v c, e = .returned (.slice v (zs (lineV p i)).length c) ∧ RdI (fun k => X.heap.size ≤ k ∧ k < w'.heap.size) w' v c (zs (lineV p i)) ∧ Below X.heap.size X w') := fun X i hX => HLA.out hfe X i (belowP hB1 hX)
   have HP2 : Hid (∀ X i, Below W.heap.size W X → Calls Tryz.prog 25 #[.agg C.toArray, .int .i64 i] X fun e w' => ∃ v c, e = .returned (.slice v (zs (lineV p i)).length c) ∧ RdI (fun k => X.heap.size ≤ k ∧ k < w'.heap.size) w' v c (zs (lineV p i)) ∧ Below X.heap.size X w') := fun X i hX => HLB.out hfe X i (belowP hB1 hX)
   have HP3 : Hid (∀ X i, Below W.heap.size W X → Calls Tryz.prog 26 #[.agg C.toArray, .slice pl nl cl, .int .i64 i] X fun e w' => e = .returned (.int .i64 (nearV p l i)) ∧ Below X.heap.size X w') := fun X i hX => HNA.out hfe h50 X i (belowP hB1 hX)
   have HP4 : Hid (∀ X i, Below W.heap.size W X → Calls Tryz.prog 27 #[.agg C.toArray, .slice pl nl cl, .int .i64 i] X fun e w' => e = .returned (.int .i64 (nearV p l i)) ∧ Below X.heap.size X w') := fun X i hX => HNB.out hfe h50 X i (belowP hB1 hX)
   have HLE : Hid (∀ i, (lineV p i).length ≤ 30) := HLEN.out hfe
   have HLW : Hid (∀ X, Below W.heap.size W X → (Instr.loadAt 27 (.pointer (some ⟨w.heap.size, 0, none⟩))).run Tryz.prog X = .ok (.agg C.toArray) X) := fun X hX => HLD.out X (belowP hB1 hX)
   have HC : Hid (∀ X, Below W.heap.size W X → X.cell? ⟨w.heap.size, 1, none⟩ = some (.slice q.e n q.ce)) := fun X hX => HC1.out X (belowP hB1 hX)
   clear HLA HLB HNA HNB HLD hFew hf1 hfe HEN HC1 HLEN
   go_loopw [5] (fun i wr => ∃ z : Int, -1 ≤ z ∧ z ≤ (n : Int) + 1 ∧ i = .int .i64 z ∧ Below W.heap.size W wr) (fun i _ => ((n : Int) + 1 - intOf i).toNat)
   case atStart => exact ⟨-1, by omega, by omega, rfl, Below.refl _ _⟩
   case round =>
    obtain ⟨z, hz1, hz2, rfl, hb⟩ := hrel
    have c1 := HC.out wr hb
    by_cases hlt : z ≤ (n : Int)
    · have d1 : decide (z ≤ (n : Int)) = true := decide_eq_true hlt
      go_upto_region 6 with fail
      clear c1
      have HQ1 : Hid (∀ X, Below wr.heap.size wr X → Calls Tryz.prog 24 #[.agg C.toArray, .int .i64 z] X fun e w' => ∃ v c, e = .returned (.slice v (zs (lineV p z)).length c) ∧ RdI (fun k => X.heap.size ≤ k ∧ k < w'.heap.size) w' v c (zs (lineV p z)) ∧ Below X.heap.size X w') := fun X hX => HP1.out X z (belowP hb hX)
      have HQ2 : Hid (∀ X, Below wr.heap.size wr X → Calls Tryz.prog 25 #[.agg C.toArray, .int .i64 z] X fun e w' => ∃ v c, e = .returned (.slice v (zs (lineV p z)).length c) ∧ RdI (fun k => X.heap.size ≤ k ∧ k < w'.heap.size) w' v c (zs (lineV p z)) ∧ Below X.heap.size X w') := fun X hX => HP2.out X z (belowP hb hX)
      have HQ3 : Hid (∀ X, Below wr.heap.size wr X → Calls Tryz.prog 26 #[.agg C.toArray, .slice pl nl cl, .int .i64 z] X fun e w' => e = .returned (.int .i64 (nearV p l z)) ∧ Below X.heap.size X w') := fun X hX => HP3.out X z (belowP hb hX)
      have HQ4 : Hid (∀ X, Below wr.heap.size wr X → Calls Tryz.prog 27 #[.agg C.toArray, .slice pl nl cl, .int .i64 z] X fun e w' => e = .returned (.int .i64 (nearV p l z)) ∧ Below X.heap.size X w') := fun X hX => HP4.out X z (belowP hb hX)
      have HL1 : Hid (∀ X, Below wr.heap.size wr X → (Instr.loadAt 27 (.pointer (some ⟨w.heap.size, 0, none⟩))).run Tryz.prog X = .ok (.agg C.toArray) X) := fun X hX => HLW.out X (belowP hb hX)
      have HF := (show Hid _ from HFALL.out z)
      have hle := HLE.out z
      have HZL : Hid ((zs (lineV p z)).length = (lineV p z).length) := zs_len _
      generalize nearV p l z = nv at HQ3 HQ4
      generalize lineV p z = L at *
      refine wp_region_in (by kernel_rfl) (fun w' => Below wr.heap.size wr w') ?_
      change wpIn _ _ _ _ _ _ _ _ (World.drew _)
      have hD : Below wr.heap.size wr wr.drew := (Below.refl _ _).drew
      refine wpIn_take (i := 0) (d := (some 23)) (v := .agg C.toArray) (a' := ?awa0) rfl rfl (by kernel_rfl) (by kernel_rfl) (by kernel_rfl) (fun _ _ _ h => h) (Or.inl ⟨by rfl, ?ywa0⟩) ?fwa0 ?_
      case ywa0 => exact fun wq hq => exec_loadR rfl rfl (HL1.out wq hq)
      case fwa0 => (go_frame; rfl)
      refine wpIn_take (i := 1) (d := (some 24)) (v := .int .i64 z) (a' := ?awa1) rfl rfl (by kernel_rfl) (by kernel_rfl) (by kernel_rfl) (fun _ _ _ h => h) (Or.inl ⟨by rfl, ?ywa1⟩) ?fwa1 ?_
      case ywa1 => (intro wq hq; go_simp; first | done | with_reducible rfl)
      case fwa1 => (go_frame; rfl)
      refine wpIn_take (i := 3) (d := (some 26)) (v := .agg C.toArray) (a' := ?awa3) rfl rfl (by kernel_rfl) (by kernel_rfl) (by kernel_rfl) (fun _ _ _ h => h) (Or.inl ⟨by rfl, ?ywa3⟩) ?fwa3 ?_
      case ywa3 => exact fun wq hq => exec_loadR rfl rfl (HL1.out wq hq)
      case fwa3 => (go_frame; rfl)
      refine wpIn_take (i := 4) (d := (some 27)) (v := .int .i64 z) (a' := ?awa4) rfl rfl (by kernel_rfl) (by kernel_rfl) (by kernel_rfl) (fun _ _ _ h => h) (Or.inl ⟨by rfl, ?ywa4⟩) ?fwa4 ?_
      case ywa4 => (intro wq hq; go_simp; first | done | with_reducible rfl)
      case fwa4 => (go_frame; rfl)
      refine wpIn_do (i := 2) hD (by kernel_rfl) rfl (by rfl) ?_
      intro K2 hK2
      go_simp
      go_wp2_with (go_at_call 24; refine (HQ1.out _ hD).mono ?_; rintro x w2 ⟨v2, k2, rfl, hr2, hbw2⟩)
      have hD2 : Below wr.heap.size wr w2 := belowP hD hbw2
      have HR2 : Hid (∀ X, Below w2.heap.size w2 X → RdI (· < X.heap.size) X v2 k2 (zs L)) := fun X hX => hr2.carry (fun k hk => hX.block k hk.2) fun k hk => Nat.lt_of_lt_of_le hk.2 hX.size
      clear hr2
      refine wpIn_do (i := 5) hD2 (by kernel_rfl) rfl (by rfl) ?_
      intro K5 hK5
      go_simp
      go_wp2_with (go_at_call 25; refine (HQ2.out _ hD2).mono ?_; rintro x w3 ⟨v3, k3, rfl, hr3, hbw3⟩)
      have hD3 : Below wr.heap.size wr w3 := belowP hD2 hbw3
      have HSM : Hid (Calls Tryz.prog 12 #[.slice v2 (zs L).length k2, .slice v3 (zs L).length k3] w3 fun e w' => e = .returned (.bool true) ∧ Below w3.heap.size w3 w') := (same12_any (zs L) (zs L) v2 v3 k2 k3 w3 (HR2.out w3 hbw3) hr3 (by have := HZL.out; omega) (by have := HZL.out; omega)).mono fun e w' hh => ⟨by rw [hh.1, decide_eq_true rfl], hh.2.below (Nat.le_refl _) fun _ _ h => h⟩
      clear hr3 HR2
      refine wpIn_do (i := 6) hD3 (by kernel_rfl) rfl (by rfl) ?_
      intro K6 hK6
      go_simp
      go_wp2_with (go_at_call 12; refine (HSM.out).mono ?_; rintro x w4 ⟨rfl, hbw4⟩)
      have hD4 : Below wr.heap.size wr w4 := belowP hD3 hbw4
      refine wpIn_take (i := 7) (d := (some 30)) (v := .bool false) (a' := ?awa7) rfl rfl (by kernel_rfl) (by kernel_rfl) (by kernel_rfl) (fun _ _ _ h => h) (Or.inl ⟨by rfl, ?ywa7⟩) ?fwa7 ?_
      case ywa7 => (intro wq hq; go_simp; first | done | with_reducible rfl)
      case fwa7 => (go_frame; rfl)
      refine wpIn_take (i := 8) (d := (some 31)) (v := .bool false) (a' := ?awa8) rfl rfl (by kernel_rfl) (by kernel_rfl) (by kernel_rfl) (fun _ _ _ h => h) (Or.inl ⟨by rfl, ?ywa8⟩) ?fwa8 ?_
      case ywa8 => (intro wq hq; go_simp; first | done | with_reducible rfl)
      case fwa8 => (go_frame; rfl)
      refine wpIn_take (i := 9) (d := (some 32)) (v := .agg C.toArray) (a' := ?awa9) rfl rfl (by kernel_rfl) (by kernel_rfl) (by kernel_rfl) (fun _ _ _ h => h) (Or.inl ⟨by rfl, ?ywa9⟩) ?fwa9 ?_
      case ywa9 => exact fun wq hq => exec_loadR rfl rfl (HL1.out wq hq)
      case fwa9 => (go_frame; rfl)
      refine wpIn_take (i := 10) (d := (some 33)) (v := .slice pl nl cl) (a' := ?awa10) rfl rfl (by kernel_rfl) (by kernel_rfl) (by kernel_rfl) (fun _ _ _ h => h) (Or.inl ⟨by rfl, ?ywa10⟩) ?fwa10 ?_
      case ywa10 => (intro wq hq; go_simp; first | done | with_reducible rfl)
      case fwa10 => (go_frame; rfl)
      refine wpIn_take (i := 11) (d := (some 34)) (v := .int .i64 z) (a' := ?awa11) rfl rfl (by kernel_rfl) (by kernel_rfl) (by kernel_rfl) (fun _ _ _ h => h) (Or.inl ⟨by rfl, ?ywa11⟩) ?fwa11 ?_
      case ywa11 => (intro wq hq; go_simp; first | done | with_reducible rfl)
      case fwa11 => (go_frame; rfl)
      refine wpIn_take (i := 13) (d := (some 36)) (v := .agg C.toArray) (a' := ?awa13) rfl rfl (by kernel_rfl) (by kernel_rfl) (by kernel_rfl) (fun _ _ _ h => h) (Or.inl ⟨by rfl, ?ywa13⟩) ?fwa13 ?_
      case ywa13 => exact fun wq hq => exec_loadR rfl rfl (HL1.out wq hq)
      case fwa13 => (go_frame; rfl)
      refine wpIn_take (i := 14) (d := (some 37)) (v := .slice pl nl cl) (a' := ?awa14) rfl rfl (by kernel_rfl) (by kernel_rfl) (by kernel_rfl) (fun _ _ _ h => h) (Or.inl ⟨by rfl, ?ywa14⟩) ?fwa14 ?_
      case ywa14 => (intro wq hq; go_simp; first | done | with_reducible rfl)
      case fwa14 => (go_frame; rfl)
      refine wpIn_take (i := 15) (d := (some 38)) (v := .int .i64 z) (a' := ?awa15) rfl rfl (by kernel_rfl) (by kernel_rfl) (by kernel_rfl) (fun _ _ _ h => h) (Or.inl ⟨by rfl, ?ywa15⟩) ?fwa15 ?_
      case ywa15 => (intro wq hq; go_simp; first | done | with_reducible rfl)
      case fwa15 => (go_frame; rfl)
      refine wpIn_do (i := 12) hD4 (by kernel_rfl) rfl (by rfl) ?_
      intro K12 hK12
      go_simp
      go_wp2_with (go_at_call 26; refine (HQ3.out _ hD4).mono ?_; rintro x w5 ⟨rfl, hbw5⟩)
      have hD5 : Below wr.heap.size wr w5 := belowP hD4 hbw5
      refine wpIn_do (i := 16) hD5 (by kernel_rfl) rfl (by rfl) ?_
      intro K16 hK16
      go_simp
      go_wp2_with (go_at_call 27; refine (HQ4.out _ hD5).mono ?_; rintro x w6 ⟨rfl, hbw6⟩)
      have hD6 : Below wr.heap.size wr w6 := belowP hD5 hbw6
      refine wpIn_take (i := 17) (d := (some 40)) (v := .bool false) (a' := ?awa17) rfl rfl (by kernel_rfl) (by kernel_rfl) (by kernel_rfl) (fun _ _ _ h => h) (Or.inl ⟨by rfl, ?ywa17⟩) ?fwa17 ?_
      case ywa17 => (intro wq hq; go_simp)
      case fwa17 => (go_frame; rfl)
      refine wpIn_take (i := 18) (d := (some 41)) (v := .bool false) (a' := ?awa18) rfl rfl (by kernel_rfl) (by kernel_rfl) (by kernel_rfl) (fun _ _ _ h => h) (Or.inl ⟨by rfl, ?ywa18⟩) ?fwa18 ?_
      case ywa18 => (intro wq hq; go_simp; first | done | with_reducible rfl)
      case fwa18 => (go_frame; rfl)
      refine wpIn_done hD6 (by kernel_rfl) ?_ _
      have hLi := HQ1.out w6 hD6
      have hld := HL1.out w6 hD6
      clear HQ1 HQ2 HQ3 HQ4 HL1 HSM
      go_upto_region 10 with (first
       | (refine wpList_loadK rfl 27 _ rfl w.heap.size 0 rfl C hld ?_)
       | (go_at_call 24; refine hLi.mono ?_; rintro x w7 ⟨v7, k7, rfl, hr7, hbw7⟩; clear hLi hld))
      have hB7 : Below wr.heap.size wr w7 := belowP hD6 hbw7
      have hc7 := hr7.1
      rw [HZL.out] at hc7 ⊢
      have HR7 : Hid (∀ X, Below w7.heap.size w7 X → ∀ j, j < L.length → ∃ b o, v7 = some ⟨b, o, none⟩ ∧ X.cell? ⟨b, o + j, none⟩ = some (.int .i64 ((L.getD j 0 : Nat) : Int))) := fun X hX j hj => by
       obtain ⟨b, o, h1, h2, h3⟩ := (hr7.same (Same.of_below hX fun k hk => hk.2)).2 (zs_ne hj)
       refine ⟨b, o, h1, h3 j _ ?_⟩
       rw [show (zs L)[j]? = (L[j]?).map (fun k : Nat => (k : Int)) from by simp [zs], List.getElem?_eq_getElem hj, getD_in hj]
       rfl
      clear hr7 hc7 HZL
      obtain ⟨m, hm⟩ : ∃ m, L.length = m := ⟨_, rfl⟩
      have HM : Hid (L.length = m) := hm
      rw [hm] at HR7 HF hle ⊢
      clear hm
      go_loopw [7] (fun v wx => ∃ j : Nat, j ≤ m ∧ v = .int .i64 ((j : Int) + 1) ∧ Below w7.heap.size w7 wx) (fun v _ => m - (intOf v).toNat + 1)
      case atStart => exact ⟨0, Nat.zero_le _, rfl, Below.refl _ _⟩
      case round =>
       obtain ⟨j, hj, rfl, hbx⟩ := hrel
       by_cases hjm : j + 1 < m
       · have d3 : decide ((j : Int) + 1 < (m : Int)) = true := decide_eq_true (by omega)
         obtain ⟨vb, vo, hv7, hcj⟩ := HR7.out _ hbx j (by omega)
         obtain ⟨vb2, vo2, hv72, hcj1⟩ := HR7.out _ hbx (j + 1) hjm
         rw [hv7] at hv72
         cases hv72
         have hfl := HF.out j hjm
         have HXX : Hid (∀ X, Below wr.heap.size wr X → X.cell? ⟨vb, vo + j, none⟩ = some (.int .i64 ((L.getD j 0 : Nat) : Int)) ∧ X.cell? ⟨vb, vo + (j + 1), none⟩ = some (.int .i64 ((L.getD (j + 1) 0 : Nat) : Int))) := fun X hX => ⟨(hX.cell (p := ⟨vb, vo + j, none⟩) (cell_ltS hcj)).trans hcj, (hX.cell (p := ⟨vb, vo + (j + 1), none⟩) (cell_ltS hcj1)).trans hcj1⟩
         subst hv7
         clear hcj hcj1
         generalize L.getD (j + 1) 0 = y at *
         generalize L.getD j 0 = x0 at *
         have d4 : decide ((x0 : Int) ≤ (y : Int)) = false := decide_eq_false (by omega)
         have d5 : decide (x0 ≤ y) = false := decide_eq_false (by omega)
         have d6 : decide ((y : Int) < 0) = false := decide_eq_false (by omega)
         go_upto_region 12 with fail
         refine wp_region_in (by kernel_rfl) (fun w' => Below wr.heap.size wr w') ?_
         change wpIn _ _ _ _ _ _ _ _ (World.drew _)
         have hE : Below wr.heap.size wr wr.drew := (Below.refl _ _).drew
         refine wpIn_take (i := 0) (d := (some 51)) (v := .slice (some ⟨vb, vo, none⟩) m k7) (a' := ?awb0) rfl rfl (by kernel_rfl) (by kernel_rfl) (by kernel_rfl) (fun _ _ _ h => h) (Or.inl ⟨by rfl, ?ywb0⟩) ?fwb0 ?_
         case ywb0 => (intro wq hq; obtain ⟨g1, g2⟩ := HXX.out wq hq; go_simp; first | done | with_reducible rfl)
         case fwb0 => (go_frame; rfl)
         refine wpIn_take (i := 1) (d := (some 52)) (v := .int .i64 ((j : Int) + 1)) (a' := ?awb1) rfl rfl (by kernel_rfl) (by kernel_rfl) (by kernel_rfl) (fun _ _ _ h => h) (Or.inl ⟨by rfl, ?ywb1⟩) ?fwb1 ?_
         case ywb1 => (intro wq hq; obtain ⟨g1, g2⟩ := HXX.out wq hq; go_simp; first | done | with_reducible rfl)
         case fwb1 => (go_frame; rfl)
         refine wpIn_take (i := 2) (d := (some 53)) (v := .pointer (some ⟨vb, vo + (j + 1), none⟩)) (a' := ?awb2) rfl rfl (by kernel_rfl) (by kernel_rfl) (by kernel_rfl) (fun _ _ _ h => h) (Or.inl ⟨by rfl, ?ywb2⟩) ?fwb2 ?_
         case ywb2 => (intro wq hq; go_simp; intro hbad; exfalso; have := hbad (by omega); omega)
         case fwb2 => (go_frame; rfl)
         refine wpIn_take (i := 3) (d := (some 54)) (v := .int .i64 (y : Int)) (a' := ?awb3) rfl rfl (by kernel_rfl) (by kernel_rfl) (by kernel_rfl) (fun _ _ _ h => h) (Or.inl ⟨by rfl, ?ywb3⟩) ?fwb3 ?_
         case ywb3 => (intro wq hq; obtain ⟨g1, g2⟩ := HXX.out wq hq; go_simp; first | done | with_reducible rfl)
         case fwb3 => (go_frame; rfl)
         refine wpIn_take (i := 4) (d := (some 55)) (v := .slice (some ⟨vb, vo, none⟩) m k7) (a' := ?awb4) rfl rfl (by kernel_rfl) (by kernel_rfl) (by kernel_rfl) (fun _ _ _ h => h) (Or.inl ⟨by rfl, ?ywb4⟩) ?fwb4 ?_
         case ywb4 => (intro wq hq; obtain ⟨g1, g2⟩ := HXX.out wq hq; go_simp; first | done | with_reducible rfl)
         case fwb4 => (go_frame; rfl)
         refine wpIn_take (i := 5) (d := (some 56)) (v := .int .i64 ((j : Int) + 1)) (a' := ?awb5) rfl rfl (by kernel_rfl) (by kernel_rfl) (by kernel_rfl) (fun _ _ _ h => h) (Or.inl ⟨by rfl, ?ywb5⟩) ?fwb5 ?_
         case ywb5 => (intro wq hq; obtain ⟨g1, g2⟩ := HXX.out wq hq; go_simp; first | done | with_reducible rfl)
         case fwb5 => (go_frame; rfl)
         refine wpIn_take (i := 6) (d := (some 57)) (v := .int .i64 (j : Int)) (a' := ?awb6) rfl rfl (by kernel_rfl) (by kernel_rfl) (by kernel_rfl) (fun _ _ _ h => h) (Or.inl ⟨by rfl, ?ywb6⟩) ?fwb6 ?_
         case ywb6 => (intro wq hq; go_simp; rw [wrap_smallK (by omega)])
         case fwb6 => (go_frame; rfl)
         refine wpIn_take (i := 7) (d := (some 58)) (v := .pointer (some ⟨vb, vo + j, none⟩)) (a' := ?awb7) rfl rfl (by kernel_rfl) (by kernel_rfl) (by kernel_rfl) (fun _ _ _ h => h) (Or.inl ⟨by rfl, ?ywb7⟩) ?fwb7 ?_
         case ywb7 => (intro wq hq; go_simp; intro hbad; exfalso; omega)
         case fwb7 => (go_frame; rfl)
         refine wpIn_take (i := 8) (d := (some 59)) (v := .int .i64 (x0 : Int)) (a' := ?awb8) rfl rfl (by kernel_rfl) (by kernel_rfl) (by kernel_rfl) (fun _ _ _ h => h) (Or.inl ⟨by rfl, ?ywb8⟩) ?fwb8 ?_
         case ywb8 => (intro wq hq; obtain ⟨g1, g2⟩ := HXX.out wq hq; go_simp; first | done | with_reducible rfl)
         case fwb8 => (go_frame; rfl)
         refine wpIn_take (i := 9) (d := (some 60)) (v := .bool false) (a' := ?awb9) rfl rfl (by kernel_rfl) (by kernel_rfl) (by kernel_rfl) (fun _ _ _ h => h) (Or.inl ⟨by rfl, ?ywb9⟩) ?fwb9 ?_
         case ywb9 => (intro wq hq; obtain ⟨g1, g2⟩ := HXX.out wq hq; go_simp; first | done | with_reducible rfl)
         case fwb9 => (go_frame; rfl)
         refine wpIn_take (i := 10) (d := (some 61)) (v := .bool false) (a' := ?awb10) rfl rfl (by kernel_rfl) (by kernel_rfl) (by kernel_rfl) (fun _ _ _ h => h) (Or.inl ⟨by rfl, ?ywb10⟩) ?fwb10 ?_
         case ywb10 => (intro wq hq; obtain ⟨g1, g2⟩ := HXX.out wq hq; go_simp; first | done | with_reducible rfl)
         case fwb10 => (go_frame; rfl)
         refine wpIn_take (i := 11) (d := (some 62)) (v := .slice (some ⟨vb, vo, none⟩) m k7) (a' := ?awb11) rfl rfl (by kernel_rfl) (by kernel_rfl) (by kernel_rfl) (fun _ _ _ h => h) (Or.inl ⟨by rfl, ?ywb11⟩) ?fwb11 ?_
         case ywb11 => (intro wq hq; obtain ⟨g1, g2⟩ := HXX.out wq hq; go_simp; first | done | with_reducible rfl)
         case fwb11 => (go_frame; rfl)
         refine wpIn_take (i := 12) (d := (some 63)) (v := .int .i64 ((j : Int) + 1)) (a' := ?awb12) rfl rfl (by kernel_rfl) (by kernel_rfl) (by kernel_rfl) (fun _ _ _ h => h) (Or.inl ⟨by rfl, ?ywb12⟩) ?fwb12 ?_
         case ywb12 => (intro wq hq; obtain ⟨g1, g2⟩ := HXX.out wq hq; go_simp; first | done | with_reducible rfl)
         case fwb12 => (go_frame; rfl)
         refine wpIn_take (i := 13) (d := (some 64)) (v := .pointer (some ⟨vb, vo + (j + 1), none⟩)) (a' := ?awb13) rfl rfl (by kernel_rfl) (by kernel_rfl) (by kernel_rfl) (fun _ _ _ h => h) (Or.inl ⟨by rfl, ?ywb13⟩) ?fwb13 ?_
         case ywb13 => (intro wq hq; go_simp; intro hbad; exfalso; have := hbad (by omega); omega)
         case fwb13 => (go_frame; rfl)
         refine wpIn_take (i := 14) (d := (some 65)) (v := .int .i64 (y : Int)) (a' := ?awb14) rfl rfl (by kernel_rfl) (by kernel_rfl) (by kernel_rfl) (fun _ _ _ h => h) (Or.inl ⟨by rfl, ?ywb14⟩) ?fwb14 ?_
         case ywb14 => (intro wq hq; obtain ⟨g1, g2⟩ := HXX.out wq hq; go_simp; first | done | with_reducible rfl)
         case fwb14 => (go_frame; rfl)
         refine wpIn_take (i := 15) (d := (some 66)) (v := .bool false) (a' := ?awb15) rfl rfl (by kernel_rfl) (by kernel_rfl) (by kernel_rfl) (fun _ _ _ h => h) (Or.inl ⟨by rfl, ?ywb15⟩) ?fwb15 ?_
         case ywb15 => (intro wq hq; obtain ⟨g1, g2⟩ := HXX.out wq hq; go_simp; first | done | with_reducible rfl)
         case fwb15 => (go_frame; rfl)
         refine wpIn_take (i := 16) (d := (some 67)) (v := .bool false) (a' := ?awb16) rfl rfl (by kernel_rfl) (by kernel_rfl) (by kernel_rfl) (fun _ _ _ h => h) (Or.inl ⟨by rfl, ?ywb16⟩) ?fwb16 ?_
         case ywb16 => (intro wq hq; obtain ⟨g1, g2⟩ := HXX.out wq hq; go_simp; first | done | with_reducible rfl)
         case fwb16 => (go_frame; rfl)
         refine wpIn_done hE (by kernel_rfl) ?_ _
         go_wp2
         go_roundw
         case rel => exact ⟨j + 1, by omega, by first | rfl | go_num, belowP hbx hE⟩
         case measure => simp [intOf]; try omega
       · have d3 : decide ((j : Int) + 1 < (m : Int)) = false := decide_eq_false (by omega)
         go_wp2_with fail
         go_roundw
         case rel => exact ⟨z + 1, by omega, by omega, by go_num, belowP hb (belowP hB7 hbx)⟩
         case measure => simp [intOf]; try omega
    · have d1 : decide (z ≤ (n : Int)) = false := decide_eq_false hlt
      clear HP1 HP2 HP3 HP4 HLW HC
      go_wp2_with (go_at_call 15; refine (awake12_any _).mono ?_; rintro x w4 ⟨rfl, hbw4⟩)
      go_ret
      exact ⟨rfl, belowP hb0 (belowP hB1 (belowP hb hbw4))⟩
end Go.Proofs.YtimhpglfolbomaaGreat.Od
namespace Go.Proofs.YtimhpglfolbomaaGreat
open Go.ChangeShapes Go.WideShapes Go.ChangeAt Go.RowKit
theorem cellsJ : Tryz.prog.cellsOf 36 = 5 := by kernel_rfl
theorem cellsS : Tryz.prog.cellsOf 9 = 1 := by kernel_rfl
theorem cellsI3 : Tryz.prog.cellsOf 3 = 1 := by kernel_rfl
theorem cellsI2 : Tryz.prog.cellsOf 2 = 1 := by kernel_rfl
theorem cellsKs : Tryz.prog.cellsOf 22 = 1 := by kernel_rfl
theorem cellsLs : Tryz.prog.cellsOf 34 = 1 := by kernel_rfl
theorem cell_lt {w : World} {a : Addr} {v : Value} (h : w.cell? a = some v) : a.block < w.heap.size := by
 rcases Nat.lt_or_ge a.block w.heap.size with h' | h'
 · exact h'
 · simp [World.cell?, Array.getElem?_eq_none h'] at h
theorem cell_none {w : World} {b o : Nat} {sp : Option Nat} {v : Value} (h : w.cell? ⟨b, o, sp⟩ = some v) : sp = none := by
 cases sp with
 | none => rfl
 | some x =>
  unfold World.cell? at h
  split at h <;> simp at h
theorem isJs_of {O : Nat → Prop} {w : World} {b o : Nat} (hO : O b) : ∀ (l : List J) (n : Nat), (∀ i, i < l.length → ∃ cs, (∀ m v, cs[m]? = some v → w.cell? ⟨b, o + (n + i) * 5 + m, none⟩ = some v) ∧ isJ O w (l.getD i J.zero) cs) → isJs O w (some ⟨b, o, none⟩) n l
 | [], _, _ => by unfold isJs; trivial
 | j :: r, n, h => by
  unfold isJs
  obtain ⟨cs, h1, h2⟩ := h 0 (by simp)
  refine ⟨⟨b, o, cs, rfl, hO, fun m v hv => ?_, h2⟩, isJs_of hO r (n + 1) fun i hi => ?_⟩
  · have := h1 m v hv
    simpa using this
  · obtain ⟨cs, h1, h2⟩ := h (i + 1) (by simp; omega)
    refine ⟨cs, fun m v hv => ?_, h2⟩
    have := h1 m v hv
    rwa [show n + (i + 1) = n + 1 + i by omega] at this
theorem pick_list {α : Type} {z : α} {P : Nat → α → Prop} : ∀ n, (∀ i, i < n → ∃ x, P i x) → ∃ l : List α, l.length = n ∧ ∀ i, i < n → P i (l.getD i z)
 | 0, _ => ⟨[], rfl, fun i hi => absurd hi (by omega)⟩
 | n + 1, h => by
  obtain ⟨l, hl, hp⟩ := pick_list (z := z) n fun i hi => h i (by omega)
  obtain ⟨x, hx⟩ := h n (by omega)
  refine ⟨l ++ [x], by simp [hl], fun i hi => ?_⟩
  by_cases hin : i < n
  · have : (l ++ [x]).getD i z = l.getD i z := by
      rw [List.getD_eq_getElem?_getD, List.getD_eq_getElem?_getD, List.getElem?_append_left (by omega)]
    rw [this]
    exact hp i hin
  · obtain rfl : i = n := by omega
    have : (l ++ [x]).getD i z = x := by
     rw [List.getD_eq_getElem?_getD, List.getElem?_append_right (by omega), hl]
     simp
    rw [this]
    exact hx
theorem viewJ {H : Type} {enc : TypeId × Value → H} {W : World} : ∀ (fuel : Nat) (cs : List Value) (x : DataW H × List MemPlace), DataW.trod enc Tryz.prog W 0 (fun _ => true) true fuel 36 cs = some x → ∃ j, isJ (fun b => b < W.heap.size) W j cs
 | 0, cs, x, h => by
  obtain ⟨_, n, hf, _⟩ := DataW.trod_struct Tryz.underlying36 h
  omega
 | fuel + 1, cs, x, h => by
  obtain ⟨xs, n, hf, _, hl, hlen, hfs⟩ := DataW.trod_struct Tryz.underlying36 h
  obtain rfl : fuel = n := by omega
  rw [cellsJ] at hl
  match cs, hl with
  | [c0, c1, c2, c3, c4], _ =>
   match xs, hlen with
   | [y0, y1, y2, y3, y4], _ =>
    have g0 : DataW.trod enc Tryz.prog W 0 (fun _ => true) true fuel 3 (([c0, c1, c2, c3, c4].drop 0).take (Tryz.prog.cellsOf 3)) = some y0 := hfs 0 _ rfl
    rw [cellsI3] at g0
    have f0 : DataW.trod enc Tryz.prog W 0 (fun _ => true) true fuel 3 [c0] = some y0 := g0
    have g1 : DataW.trod enc Tryz.prog W 0 (fun _ => true) true fuel 2 (([c0, c1, c2, c3, c4].drop 1).take (Tryz.prog.cellsOf 2)) = some y1 := hfs 1 _ rfl
    rw [cellsI2] at g1
    have f1 : DataW.trod enc Tryz.prog W 0 (fun _ => true) true fuel 2 [c1] = some y1 := g1
    have g2 : DataW.trod enc Tryz.prog W 0 (fun _ => true) true fuel 9 (([c0, c1, c2, c3, c4].drop 2).take (Tryz.prog.cellsOf 9)) = some y2 := hfs 2 _ rfl
    rw [cellsS] at g2
    have f2 : DataW.trod enc Tryz.prog W 0 (fun _ => true) true fuel 9 [c2] = some y2 := g2
    have g3 : DataW.trod enc Tryz.prog W 0 (fun _ => true) true fuel 22 (([c0, c1, c2, c3, c4].drop 3).take (Tryz.prog.cellsOf 22)) = some y3 := hfs 3 _ rfl
    rw [cellsKs] at g3
    have f3 : DataW.trod enc Tryz.prog W 0 (fun _ => true) true fuel 22 [c3] = some y3 := g3
    have g4 : DataW.trod enc Tryz.prog W 0 (fun _ => true) true fuel 34 (([c0, c1, c2, c3, c4].drop 4).take (Tryz.prog.cellsOf 34)) = some y4 := hfs 4 _ rfl
    rw [cellsLs] at g4
    have f4 : DataW.trod enc Tryz.prog W 0 (fun _ => true) true fuel 34 [c4] = some y4 := g4
    obtain ⟨k, e0, _, _⟩ := DataW.trod_int Tryz.underlying3 f0
    obtain ⟨i, e1, _, _⟩ := DataW.trod_int Tryz.underlying2 f1
    obtain ⟨t, e2, _, _⟩ := DataW.trod_string Tryz.underlying9 f2
    simp only [List.cons.injEq, and_true] at e0 e1 e2
    subst e0 e1 e2
    have hkeys : ∃ pk nk ck ks, c3 = .slice pk nk ck ∧ nk = ks.length ∧ RdK (fun b => b < W.heap.size) W pk ck ks := by
     rcases open_strings Tryz.underlying22 Tryz.underlying9 cellsS f3 with ⟨e3, _⟩ | ⟨a, len, cap, ss, e3, _, hlc, _, hss, _, hcell, _⟩
     · simp only [List.cons.injEq, and_true] at e3
       exact ⟨none, 0, 0, [], e3, rfl, RdK.nil _ _⟩
     · simp only [List.cons.injEq, and_true] at e3
       simp only [if_true] at hss
       refine ⟨some a, len, cap, ss.take len, e3, by simp; omega, by simp; omega, fun j hj => ⟨a, rfl, ?_, ?_⟩⟩
       · have hj' : j < len := by simp at hj; omega
         have := cell_lt (hcell j (by omega))
         rwa [add_block] at this
       · have hj' : j < len := by simp at hj; omega
         rw [hcell j (by omega)]
         congr 2
         rw [List.getD_eq_getElem?_getD, List.getD_eq_getElem?_getD, List.getElem?_take, if_pos hj', List.getElem?_eq_getElem (by omega)]
         rfl
    have hlist : ∃ pl nl cl l, c4 = .slice pl nl cl ∧ nl = l.length ∧ l.length ≤ cl ∧ isJs (fun b => b < W.heap.size) W pl 0 l := by
     rcases DataW.trod_slice Tryz.underlying34 f4 with ⟨e4, _⟩ | ⟨a, len, cap, elems, rest, n', hn', e4, _, _, hlc, _, hel, hget, _, _⟩
     · simp only [List.cons.injEq, and_true] at e4
       exact ⟨none, 0, 0, [], e4, rfl, Nat.le_refl _, by unfold isJs; trivial⟩
     · simp only [List.cons.injEq, and_true] at e4
       rw [cellsJ] at hget
       cases len with
       | zero => exact ⟨some a, 0, cap, [], e4, rfl, Nat.zero_le _, by unfold isJs; trivial⟩
       | succ len =>
        obtain ⟨b, o, sp⟩ := a
        have hone : ∀ i, i < len + 1 → ∃ cs, W.cells? 0 ((⟨b, o, sp⟩ : Addr).add (i * 5)) 5 = some cs ∧ ∃ y, DataW.trod enc Tryz.prog W 0 (fun _ => true) true n' 36 cs = some y := fun i hi => by
         have h1 := hget i hi
         rw [List.getElem?_eq_getElem (by omega), Option.bind_eq_some_iff] at h1
         obtain ⟨cs, h2, h3⟩ := h1
         exact ⟨cs, h2, _, h3⟩
        have hsp : sp = none := by
         obtain ⟨cs, h2, _⟩ := hone 0 (by omega)
         have h3 := (World.cells?_some h2).2.2 0 (by omega)
         have h4 : (((⟨b, o, sp⟩ : Addr).add (0 * 5)).add 0) = ⟨b, o, sp⟩ := by
          unfold Addr.add
          simp
         rw [h4] at h3
         have hlen5 := (World.cells?_some h2).2.1
         rw [List.getElem?_eq_getElem (by omega)] at h3
         exact cell_none h3
        subst hsp
        have hadd : ∀ m, (⟨b, o, none⟩ : Addr).add m = ⟨b, o + m, none⟩ := fun m => by unfold Addr.add; split <;> simp_all
        have hadd2 : ∀ m m', ((⟨b, o + m, none⟩ : Addr)).add m' = ⟨b, o + m + m', none⟩ := fun m m' => by unfold Addr.add; split <;> simp_all
        have hb : b < W.heap.size := by
         obtain ⟨cs, h2, _⟩ := hone 0 (by omega)
         have := World.cells?_block h2 (by decide)
         rwa [hadd] at this
        obtain ⟨l, hl1, hl2⟩ := pick_list (z := J.zero) (P := fun i j => ∃ cs, (∀ m v, cs[m]? = some v → W.cell? ⟨b, o + (0 + i) * 5 + m, none⟩ = some v) ∧ isJ (fun b => b < W.heap.size) W j cs) (len + 1) fun i hi => by
         obtain ⟨cs, h2, y, h3⟩ := hone i hi
         obtain ⟨j, hj⟩ := viewJ n' cs y h3
         refine ⟨j, cs, fun m v hv => ?_, hj⟩
         have h5 := (World.cells?_some h2).2.2
         have hlen5 := (World.cells?_some h2).2.1
         have hm : m < 5 := by
          have := (List.getElem?_eq_some_iff.1 hv).1
          omega
         have h6 := h5 m hm
         rw [hadd, hadd2, hv] at h6
         rw [show o + (0 + i) * 5 + m = o + i * 5 + m by omega]
         exact h6
        exact ⟨some ⟨b, o, none⟩, len + 1, cap, l, e4, hl1.symm, by omega, isJs_of (O := fun b => b < W.heap.size) hb l 0 fun i hi => hl2 i (by omega)⟩
    obtain ⟨pk, nk, ck, ks, rfl, rfl, hk⟩ := hkeys
    obtain ⟨pl, nl, cl, l, rfl, rfl, hlc, hll⟩ := hlist
    exact ⟨.mk k i t ks l, by unfold isJ; exact ⟨pk, ck, pl, cl, rfl, hk, hlc, hll⟩⟩
end Go.Proofs.YtimhpglfolbomaaGreat

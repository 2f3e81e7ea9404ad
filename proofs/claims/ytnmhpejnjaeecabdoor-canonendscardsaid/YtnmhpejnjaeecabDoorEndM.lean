/-
  Values at the ends of what may be: twelve lists within one another, and a text of all bytes that may be.
  Bytes that a call made, none of whose cells is frozen (a mark may lie behind them): what is appended to them.
  A row of bytes of the call's own: set, read, and one byte more where it is full.
  The law of ends, by a contract.
-/
import Derived.Test.YtnmhpejnjaeecabDoorM9
import Derived.Test.YtnmhpejnjaeecabDoorM5
import Derived.Test.YtnmhpejnjaeecabDoorShM
import Derived.Lib.ConvBytes
import Derived.Lib.FrozenHead
namespace Go.Proofs.YtnmhpejnjaeecabDoor
open Go.RowKit

def nestJ : Nat → J
  | 0 => .mk 4 0 nix [] []
  | n + 1 => .mk 4 0 nix [] [nestJ n]
def open12 : List Int := [91, 91, 91, 91, 91, 91, 91, 91, 91, 91, 91, 91]
def shut12 : List Int := [93, 93, 93, 93, 93, 93, 93, 93, 93, 93, 93, 93]
theorem dec_12 : decode (open12 ++ shut12) = .ok (nestJ 11) 24 := by kernel_rfl
theorem dec_13 : decode (open12 ++ (49 :: shut12)) = .bad 12 12 := by kernel_rfl
theorem good_12 : goodJ 12 (nestJ 11) = true := by kernel_rfl
theorem sz_12 : szJ 12 (nestJ 11) = true := by kernel_rfl
/-- A text of so many letters a. -/
def manyA (n : Nat) : List Int := List.replicate n 97
theorem manyA_bd (n : Nat) : ∀ x ∈ manyA n, 0 ≤ x ∧ x ≤ 255 := fun x hx => by rw [List.eq_of_mem_replicate hx]; decide
theorem manyA_len (n : Nat) : (manyA n).length = n := List.length_replicate
def jA (n : Nat) : J := .mk 3 0 (strOfNums (manyA n)) [] []
theorem jA_ints (n : Nat) : ints (strOfNums (manyA n)) = manyA n := ints_str _ (manyA_bd n)
theorem jA_good (n : Nat) : goodJ 12 (jA n) = true := by
  have hl : letters (strOfNums (manyA n)) = true := by
    unfold letters
    rw [jA_ints, pure_stray (Pure.ascii fun x hx => by rw [List.eq_of_mem_replicate hx]; decide)]
    rfl
  unfold jA
  rw [goodJ, if_neg (by decide), if_neg (by decide), if_neg (by decide), if_pos rfl, hl]
  simp [bare]
theorem jA_ord (n : Nat) : ord (jA n) = jA n := by
  unfold jA
  rw [ord, if_neg (by decide), ordL]
theorem flat_A : ∀ n : Nat, (manyA n).flatMap escByte = manyA n
  | 0 => rfl
  | n + 1 => by
    show (97 :: manyA n).flatMap escByte = 97 :: manyA n
    rw [List.flatMap_cons, flat_A n]
    rfl
/-- The bytes of that text. -/
def bytesA (n : Nat) : List Int := 34 :: (manyA n ++ [34])
theorem jA_enc (n : Nat) : enc' (ord (jA n)) = bytesA n := by
  rw [jA_ord]
  unfold jA
  rw [enc', if_neg (by decide), if_neg (by decide), if_neg (by decide), if_pos rfl, jA_ints]
  unfold quote bytesA
  rw [flat_A]
theorem bytesA_len (n : Nat) : (bytesA n).length = n + 2 := by
  unfold bytesA
  rw [List.length_cons, List.length_append, manyA_len]
  rfl
theorem bytesA_bd (n : Nat) : ∀ x ∈ bytesA n, 0 ≤ x ∧ x ≤ 255 := fun x hx => by
  unfold bytesA at hx
  rcases List.mem_cons.1 hx with rfl | hx
  · decide
  · rcases List.mem_append.1 hx with hx | hx
    · exact manyA_bd n x hx
    · rw [List.mem_singleton.1 hx]; decide
theorem jA_sz (n : Nat) (h : n ≤ 100000) : szJ 12 (jA n) = true := by
  unfold jA szJ
  rw [decide_eq_true (show (strOfNums (manyA n)).size ≤ 1000000000 by rw [str_size, manyA_len]; omega)]
  rfl
theorem dec_A (n : Nat) (h : n + 2 ≤ 16384) : decode (bytesA n) = .ok (jA n) (n + 2) := by
  have := decode_enc (jA_good n) (by rw [jA_enc, bytesA_len]; exact h)
  rw [jA_enc, jA_ord, bytesA_len] at this
  exact this
theorem dec_long {t : List Int} (h : 16384 < t.length) : decode t = .bad 13 16384 := by
  unfold decode
  rw [if_pos h]
theorem strA_more (n : Nat) : strOfNums (manyA n) ++ ⟨#[97]⟩ = strOfNums (manyA (n + 1)) := by
  have e : (⟨#[97]⟩ : ByteArray) = strOfNums [97] := rfl
  rw [e, str_append]
  congr 1
  show manyA n ++ [97] = List.replicate (n + 1) 97
  rw [List.replicate_succ']
  rfl
/-- The row of bytes while it is filled. -/
def fillA (n k : Nat) : List Int := manyA k ++ List.replicate (n - k) 0
theorem fillA_len (n k : Nat) (h : k ≤ n) : (fillA n k).length = n := by
  unfold fillA
  rw [List.length_append, manyA_len, List.length_replicate]
  omega
theorem fillA_set (n k : Nat) (h : k < n) : (fillA n k).set k 97 = fillA n (k + 1) := by
  unfold fillA
  rw [List.set_append_right _ _ (by rw [manyA_len]; exact Nat.le_refl _), manyA_len, Nat.sub_self]
  obtain ⟨m, hm⟩ : ∃ m, n - k = m + 1 := ⟨n - k - 1, by omega⟩
  rw [hm, List.replicate_succ, List.set_cons_zero, show n - (k + 1) = m by omega]
  show manyA k ++ 97 :: List.replicate m 0 = List.replicate (k + 1) 97 ++ List.replicate m 0
  rw [List.replicate_succ']
  simp [manyA]
theorem fillA_full (n : Nat) : fillA n n = manyA n := by
  unfold fillA
  rw [Nat.sub_self]
  simp
theorem ends_set (n : Nat) : ((manyA (n + 2)).set 0 34).set (n + 1) 34 = bytesA n := by
  unfold bytesA
  show ((97 :: manyA (n + 1)).set 0 34).set (n + 1) 34 = _
  rw [List.set_cons_zero, List.set_cons_succ]
  congr 1
  have e : manyA (n + 1) = manyA n ++ [97] := by
    show List.replicate (n + 1) 97 = _
    rw [List.replicate_succ']
    rfl
  rw [e, List.set_append_right _ _ (by rw [manyA_len]; exact Nat.le_refl _), manyA_len, Nat.sub_self]
  rfl
end Go.Proofs.YtnmhpejnjaeecabDoor
namespace Go.Proofs.YtnmhpejnjaeecabDoor
open Go Go.RowKit

/-- v is a row of the bytes L that was made from block base on. -/
def Fresh (w : World) (base : Nat) (v : Value) (L : List Int) : Prop :=
  ∃ g cap cur fz, v = .slice (some ⟨g, 0, none⟩) L.length cap ∧ base ≤ g ∧ w.heap[g]? = some (.cells cur 5 fz) ∧ (fz.2 = 0 ∨ cur.size ≤ fz.1) ∧ L.length ≤ cap ∧ cap ≤ maxLen ∧ cur.size = cap ∧ cur.toList.take L.length = L.map (Value.int .u8)
theorem free_store (P : Program) (g o : Nat) (t : TypeId) (fz : Nat × Nat) : ∀ (vs : List Value) (i : Nat) (cur : Array Value) (w : World), w.heap[g]? = some (.cells cur t fz) → (fz.2 = 0 ∨ cur.size ≤ fz.1) → o + i + vs.length ≤ cur.size → (∀ v ∈ vs, v.oneCell' = true) →
    (storeCells ⟨g, o, none⟩ vs i).run P w = .ok () (w.setRow g (cur.toList.take (o + i) ++ vs ++ cur.toList.drop (o + i + vs.length)).toArray)
  | [], i, cur, w, hg, _, _, _ => by
    simp only [storeCells, List.append_nil, List.length_nil, Nat.add_zero, List.take_append_drop, Array.toArray_toList]
    rw [setRow_self w g cur t fz hg]
    rfl
  | v :: rest, i, cur, w, hg, hfz, hl, h1 => by
    have hl' : o + i + (rest.length + 1) ≤ cur.size := by simpa using hl
    have hadd : (⟨g, o, none⟩ : Addr).add i = ⟨g, o + i, none⟩ := by unfold Addr.add; split <;> simp_all
    have hlt : o + i < cur.size := by omega
    have hcell : w.cell? ⟨g, o + i, none⟩ = some cur[o + i] := by simp [World.cell?, hg, hlt]
    have hfro : w.frozen? ⟨g, o + i, none⟩ = false := by
      obtain ⟨lo, hi'⟩ := fz
      simp only [World.frozen?, hg, Bool.and_eq_false_iff, decide_eq_false_iff_not]
      simp only at hfz
      omega
    have hst : (store ((⟨g, o, none⟩ : Addr).add i) v).run P w = .ok () (w.setRow g (cur.setIfInBounds (o + i) v)) := by
      rw [hadd, run_store P w _ v _ (h1 v (by simp)), hcell]
      simp [hfro, setCell_eq_setRow w g (o + i) cur t fz v hg]
    have ih := free_store P g o t fz rest (i + 1) (cur.setIfInBounds (o + i) v) (w.setRow g (cur.setIfInBounds (o + i) v)) (setRow_heap w g cur _ t _ hg) (by simpa using hfz) (by simp; omega) (fun x hx => h1 x (by simp [hx]))
    simp only [storeCells, Sem.run_bind, hst, Result.andThen_ok, ih, setRow_setRow]
    congr 3
    have e := list_seg_step cur.toList (o + i) v rest (by simp; omega)
    simpa [Array.toList_setIfInBounds, Nat.add_assoc] using e
section
variable {w : World} {base : Nat} {v : Value} {L : List Int}
theorem u8_one (R : List Int) : ∀ u ∈ R.map (Value.int .u8), u.oneCell' = true := fun u hu => by
  obtain ⟨x, _, rfl⟩ := List.mem_map.1 hu
  rfl
theorem Fresh.cells (h : Fresh w base v L) : ∃ g cap, v = .slice (some ⟨g, 0, none⟩) L.length cap ∧ ∀ j u, (L.map (Value.int .u8))[j]? = some u → w.cell? ((⟨g, 0, none⟩ : Addr).add j) = some u := by
  obtain ⟨g, cap, cur, fz, rfl, _, hg, _, _, _, _, ht⟩ := h
  refine ⟨g, cap, rfl, fun j u hu => ?_⟩
  have hadd : (⟨g, 0, none⟩ : Addr).add j = ⟨g, j, none⟩ := by unfold Addr.add; split <;> simp_all
  rw [← ht, List.getElem?_take] at hu
  split at hu
  · rw [hadd, cell_of_row w g j cur 5 fz hg]
    simpa using hu
  · cases hu
/-- It is read. -/
theorem Fresh.rd (h : Fresh w base v L) (hL : ∀ x ∈ L, 0 ≤ x ∧ x ≤ 255) : ∃ q c, v = .slice q L.length c ∧ Rd w.heap.size w q c L := by
  obtain ⟨g, cap, cur, fz, rfl, hb, hg, hfz, hlc, hcm, hcs, ht⟩ := h
  have hc := (Fresh.cells (w := w) (base := base) (L := L) ⟨g, cap, cur, fz, rfl, hb, hg, hfz, hlc, hcm, hcs, ht⟩)
  obtain ⟨g', cap', e, hc⟩ := hc
  cases e
  refine ⟨_, _, rfl, hlc, hL, fun j hj => ⟨_, rfl, (Array.getElem?_eq_some_iff.1 hg).1, ?_⟩⟩
  exact hc j _ (by rw [List.getElem?_map, List.getElem?_eq_getElem hj, List.getD_eq_getElem?_getD, List.getElem?_eq_getElem hj]; rfl)
/-- In room, or in a new row. -/
theorem Fresh.grow {R : List Int} {ops : Array Oper} {rest : List Oper} {o : Oper} {a : Act} {Q : Exit → Act → World → Prop} {args : Array Operand} {ats : Array TypeId} {y : Value} (h : Fresh w base v L) (hbase : base ≤ w.heap.size) (hlen : L.length + R.length ≤ 1000000)
    (hgd : o.guard = none) (ho : o.op = .call { callee := .builtin .append, args := args, argTypes := ats }) (hargs : args.toList.map a.eval = [v, y])
    (hroom : ∀ g cap cur fz, v = .slice (some ⟨g, 0, none⟩) L.length cap → w.heap[g]? = some (.cells cur 5 fz) → (fz.2 = 0 ∨ cur.size ≤ fz.1) → cur.size = cap → L.length + R.length ≤ cap →
      (Builtin.append_ ats o.type #[v, y]).run Tryd.prog w = .ok (.slice (some ⟨g, 0, none⟩) (L.length + R.length) cap) (w.setRow g (cur.toList.take L.length ++ R.map (Value.int .u8) ++ cur.toList.drop (L.length + R.length)).toArray))
    (hnew : ∀ g cap, v = .slice (some ⟨g, 0, none⟩) L.length cap → cap < L.length + R.length → (∀ j u, (L.map (Value.int .u8))[j]? = some u → w.cell? ((⟨g, 0, none⟩ : Addr).add j) = some u) →
      (Builtin.append_ ats o.type #[v, y]).run Tryd.prog w = .ok (.slice (some ⟨w.heap.size, 0, none⟩) (L.length + R.length) (grownCap w (L.length + R.length) cap 5)) (w.drew.alloc (.cells ((L.map (Value.int .u8)).toArray ++ (R.map (Value.int .u8)).toArray ++ Builtin.zeroCells (Value.int .u8 0).cells (grownCap w (L.length + R.length) cap 5 - (L.length + R.length))) 5)))
    (hk : ∀ v' w', Fresh w' base v' (L ++ R) → Below base w w' → wpList Tryd.prog ops Q rest (a.put o.dst v') w') : wpList Tryd.prog ops Q (o :: rest) a w := by
  refine wpList_plain hgd fun K hK => ?_
  obtain ⟨g, cap, cur, fz, hv, hb, hg, hfz, hlc, hcm, hcs, ht⟩ := h
  have hgs := (Array.getElem?_eq_some_iff.1 hg).1
  by_cases hr : L.length + R.length ≤ cap
  · have hrun := hroom g cap cur fz hv hg hfz hcs hr
    unfold Oper.wp execOp
    simp only [ho, resolve, invoke, builtin, Sem.run_bind, Sem.run_pure, Result.andThen_ok]
    rw [show args.map a.eval = #[v, y] from by rw [← Array.toList_inj]; simpa using hargs, hrun]
    refine hK _ _ (hk _ _ ⟨g, cap, _, fz, by rw [List.length_append], hb, setRow_heap w g cur _ 5 _ hg, ?_, by rw [List.length_append]; exact hr, hcm, ?_, ?_⟩ ⟨rfl, rfl, rfl, by simp, fun k hk' => setRow_other w g k _ (by omega)⟩)
    · rcases hfz with h | h
      · exact .inl h
      · right
        simp only [List.size_toArray, List.length_append, List.length_take, List.length_drop, Array.length_toList, List.length_map]
        omega
    · simp only [List.size_toArray, List.length_append, List.length_take, List.length_drop, Array.length_toList, List.length_map]
      omega
    · rw [ht, ← List.map_append]
      have : (L ++ R).length = ((L ++ R).map (Value.int .u8)).length := by simp
      rw [this]
      exact List.take_left
  · obtain ⟨g', cap', e, hc⟩ := Fresh.cells (w := w) (base := base) (L := L) ⟨g, cap, cur, fz, hv, hb, hg, hfz, hlc, hcm, hcs, ht⟩
    have hge := grownCap_ge w (L.length + R.length) cap 5
    have hcm2 : grownCap w (L.length + R.length) cap 5 ≤ maxLen := grownCap_le_maxLen w (L.length + R.length) cap 5 (by unfold maxLen; omega)
    have hrun := hnew g cap hv (by omega) (by rw [hv] at e; cases e; exact hc)
    unfold Oper.wp execOp
    simp only [ho, resolve, invoke, builtin, Sem.run_bind, Sem.run_pure, Result.andThen_ok]
    rw [show args.map a.eval = #[v, y] from by rw [← Array.toList_inj]; simpa using hargs, hrun]
    refine hK _ _ (hk _ _ ⟨w.heap.size, _, _, (0, 0), by rw [List.length_append], hbase, heap_alloc_new w.drew _, .inl rfl, by rw [List.length_append]; exact hge, hcm2, ?_, ?_⟩ ⟨rfl, rfl, rfl, by simp, fun k hk' => Below.heap_alloc w.drew _ k (by show k < w.heap.size; omega)⟩)
    · have hz1 : (Value.int IntKind.u8 0).cells.size = 1 := rfl
      simp only [Array.size_append, List.size_toArray, size_zeroCells, hz1, List.length_map]
      omega
    · simp only [Array.toList_append, List.append_assoc]
      rw [← List.append_assoc, ← List.map_append]
      have : (L ++ R).length = ((L ++ R).map (Value.int .u8)).length := by simp
      rw [this]
      exact List.take_left
/-- A text is appended. -/
theorem Fresh.text {ops : Array Oper} {rest : List Oper} {o : Oper} {a : Act} {Q : Exit → Act → World → Prop} (h : Fresh w base v L) (hbase : base ≤ w.heap.size) (s : ByteArray) (hlen : L.length + s.size ≤ 1000000)
    (hgd : o.guard = none) (sl x : Operand) (ho : o.op = .call { callee := .builtin .append, args := #[sl, x], argTypes := #[29, 9] }) (hs : a.eval sl = v) (hx : a.eval x = .string s)
    (hk : ∀ v' w', Fresh w' base v' (L ++ ints s) → Below base w w' → wpList Tryd.prog ops Q rest (a.put o.dst v') w') : wpList Tryd.prog ops Q (o :: rest) a w := by
  obtain ⟨i0, hi, hz0, hz1, hz2⟩ := info_parts Tryd.info5
  refine h.grow (R := ints s) (y := .string s) hbase (by rw [ints_length]; exact hlen) hgd ho (by simp [hs, hx]) ?_ ?_ hk
  · intro g cap cur fz hv hg hfz hcs hr
    rw [ints_length] at hr ⊢
    subst hv
    have hf := Lib.run_firstCells_string (P := Tryd.prog) w 1 s
    have hst := free_store Tryd.prog g L.length 5 fz (Lib.strCells s) 0 cur w hg hfz (by rw [Lib.strCells_length]; omega) (Lib.strCells_oneCell s)
    simp only [Nat.add_zero, Lib.strCells_length] at hst
    rw [← strCells_ints]
    simp [Builtin.append_, run_underlying Tryd.underlying29, run_underlying Tryd.underlying9, sizeOf, typeInfo, hi, hz1, Builtin.lenOf, hr, hf, Addr.add_lit, hst]
  · intro g cap hv hr hc
    rw [ints_length] at hr ⊢
    subst hv
    rw [← strCells_ints]
    exact Lib.run_append_grow_string (P := Tryd.prog) w 29 9 o.type 5 i0 (.int .u8 0) Tryd.underlying29 Tryd.underlying9 hi hz0 ⟨g, 0, none⟩ L.length cap (L.map (Value.int .u8)) (by rw [hz1]; simp) hc s (by omega) (by omega) (by rw [hz2]; exact growslice_fits (by omega) (by omega))
/-- Bytes that are read are appended. -/
theorem Fresh.bytes {ops : Array Oper} {rest : List Oper} {o : Oper} {a : Act} {Q : Exit → Act → World → Prop} (h : Fresh w base v L) (hbase : base ≤ w.heap.size) {B : Nat} {q : Option Addr} {cq : Nat} {R : List Int} (hrd : Rd B w q cq R) (hnone : q = none → cq = 0) (hlen : L.length + R.length ≤ 1000000)
    (hgd : o.guard = none) (sl x : Operand) (ho : o.op = .call { callee := .builtin .append, args := #[sl, x], argTypes := #[29, 29] }) (hs : a.eval sl = v) (hx : a.eval x = .slice q R.length cq)
    (hk : ∀ v' w', Fresh w' base v' (L ++ R) → Below base w w' → wpList Tryd.prog ops Q rest (a.put o.dst v') w') : wpList Tryd.prog ops Q (o :: rest) a w := by
  obtain ⟨i0, hi, hz0, hz1, hz2⟩ := info_parts Tryd.info5
  cases q with
  | none =>
    obtain rfl := hnone rfl
    obtain rfl : R = [] := by
      cases R with
      | nil => rfl
      | cons y r => obtain ⟨a, ha, _⟩ := hrd.2.2 0 (by simp); cases ha
    refine wpList_plain hgd fun K hK => ?_
    have hh := h
    obtain ⟨g, cap, cur, fz, hv, hb, hg, hfz, hlc, hcm, hcs, ht⟩ := h
    have hrun : (Builtin.append_ #[29, 29] o.type #[v, .slice none 0 0]).run Tryd.prog w = .ok v w := by
      rw [hv]
      simp [Builtin.append_, run_underlying Tryd.underlying29, sizeOf, typeInfo, hi, Builtin.lenOf, hlc, Builtin.firstCells, storeCells]
    unfold Oper.wp
    simp [execOp, ho, resolve, invoke, builtin, hs, hx, hrun, Result.andThen]
    exact hK _ _ (hk v w (by rw [List.append_nil]; exact hh) (Below.refl _ _))
  | some ad =>
    have hall : ∀ j u, (R.map (Value.int .u8))[j]? = some u → w.cell? (ad.add j) = some u := fun j u hu => by
      rw [List.getElem?_map] at hu
      cases hj : R[j]? with
      | none => rw [hj] at hu; cases hu
      | some x =>
        rw [hj] at hu
        cases hu
        have hlt := (List.getElem?_eq_some_iff.1 hj).1
        obtain ⟨a', ha, _, hc⟩ := hrd.2.2 j hlt
        cases ha
        rw [hc, List.getD_eq_getElem?_getD, hj]
        rfl
    refine h.grow (R := R) (y := .slice (some ad) R.length cq) hbase hlen hgd ho (by simp [hs, hx]) ?_ ?_ hk
    · intro g cap cur fz hv hg hfz hcs hr
      subst hv
      have hf := run_firstCells_some (P := Tryd.prog) w i0.size R.length ad R.length cq (R.map (Value.int .u8)) (by rw [hz1]; simp) hall
      have hst := free_store Tryd.prog g L.length 5 fz (R.map (Value.int .u8)) 0 cur w hg hfz (by simp; omega) (u8_one R)
      simp only [Nat.add_zero, List.length_map] at hst
      rw [hz1] at hf
      simp [Builtin.append_, run_underlying Tryd.underlying29, sizeOf, typeInfo, hi, hz1, Builtin.lenOf, hr, hf, Addr.add_lit, hst]
    · intro g cap hv hr hc
      subst hv
      exact run_append_grow (P := Tryd.prog) w 29 o.type 5 i0 (.int .u8 0) Tryd.underlying29 hi hz0 ⟨g, 0, none⟩ L.length cap (L.map (Value.int .u8)) (by rw [hz1]; simp) hc ad R.length cq (R.map (Value.int .u8)) (by rw [hz1]; simp) hall (by omega) (by omega) (by rw [hz2]; exact growslice_fits (by omega) (by omega))
end
/-- A text's bytes, in a row of their own. -/
theorem free_text (w : World) (s : ByteArray) (hs : s.size ≤ 1000000) : ∃ v w', (convert 9 29 (.string s)).run Tryd.prog w = .ok v w' ∧ Fresh w' w.heap.size v (ints s) ∧ Below w.heap.size w w' := by
  refine ⟨_, _, Lib.run_convert_string_bytes (P := Tryd.prog) w 9 29 5 s Tryd.underlying9 Tryd.underlying29 Tryd.underlying5, ?_, ?_⟩
  · have hge := grownCap_ge w s.size 0 5
    have hcz : (Lib.bytesCells w 5 s).size = grownCap w s.size 0 5 := by
      unfold Lib.bytesCells
      simp
      have : s.data.size = s.size := rfl
      omega
    refine ⟨w.heap.size, _, _, _, by rw [ints_length], Nat.le_refl _, Lib.bytesWorld_at_new w 5 s, .inr (Nat.le_refl _), by rw [ints_length]; exact hge, grownCap_le_maxLen w s.size 0 5 (by unfold maxLen; omega), hcz, ?_⟩
    rw [ints_length]
    unfold Lib.bytesCells
    simp only [Array.toList_append, Array.toList_map]
    have e : s.size = (s.data.toList.map fun b => Value.int .u8 (b.toNat : Int)).length := by simp
    rw [e, List.take_left, ints, List.map_map]
    rfl
  · exact ⟨rfl, rfl, rfl, by rw [Lib.bytesWorld_size]; omega, fun k hk => Lib.bytesWorld_at_old w 5 s k hk⟩
end Go.Proofs.YtnmhpejnjaeecabDoor
namespace Go.Proofs.YtnmhpejnjaeecabDoor
open Go.RowKit

/-- The block g holds the bytes L and nothing else. -/
def RowB (w : World) (g : Nat) (L : List Int) : Prop := w.heap[g]? = some (.cells (L.map (Value.int .u8)).toArray 5 (0, 0))
section
variable {w : World} {g : Nat} {L : List Int}
theorem RowB.lt (h : RowB w g L) : g < w.heap.size := (Array.getElem?_eq_some_iff.1 h).1
theorem RowB.cell (h : RowB w g L) {k : Nat} (hk : k < L.length) : ∃ x, w.cell? ⟨g, k, none⟩ = some (.int .u8 x) :=
  ⟨L[k], cell_row h k _ (by rw [List.getElem?_map, List.getElem?_eq_getElem hk]; rfl)⟩
theorem RowB.free (h : RowB w g L) (k : Nat) : w.frozen? ⟨g, k, none⟩ = false := frozen_of_row w g k _ _ h
theorem RowB.set (h : RowB w g L) (k : Nat) (x : Int) : RowB (w.setCell ⟨g, k, none⟩ (.int .u8 x)) g (L.set k x) := by
  unfold RowB
  rw [Go.heap_setCell_same w g k _ _ _ h]
  congr 2
  rw [← Array.toList_inj]
  simp
theorem RowB.carry {w' : World} (h : RowB w g L) (hb : Below w.heap.size w w') : RowB w' g L := (hb.block g h.lt).trans h
theorem RowB.rd (h : RowB w g L) (hL : ∀ x ∈ L, 0 ≤ x ∧ x ≤ 255) : Rd w.heap.size w (some ⟨g, 0, none⟩) L.length L :=
  ⟨Nat.le_refl _, hL, fun j hj => ⟨_, rfl, h.lt, by
    have hadd : (⟨g, 0, none⟩ : Addr).add j = ⟨g, j, none⟩ := by unfold Addr.add; split <;> simp_all
    rw [hadd]
    exact cell_row h j _ (by rw [List.getElem?_map, List.getElem?_eq_getElem hj, List.getD_eq_getElem?_getD, List.getElem?_eq_getElem hj]; rfl)⟩⟩
/-- One byte more, where the row is full: a new row. -/
theorem RowB.spill {ops : Array Oper} {rest : List Oper} {o : Oper} {a : Act} {Q : Exit → Act → World → Prop} (h : RowB w g L) (hL : ∀ x ∈ L, 0 ≤ x ∧ x ≤ 255) (hlen : L.length ≤ 100000) (hgd : o.guard = none) (sl x : Operand)
    (ho : o.op = .call { callee := .builtin .append, args := #[sl, x], argTypes := #[29, 29] }) (n : Nat) (hn : L.length = n) (hs : a.eval sl = .slice (some ⟨g, 0, none⟩) n n) (ad : Addr) (y : Int) (hy : 0 ≤ y ∧ y ≤ 255) (hx : a.eval x = .slice (some ad) 1 1) (hc : w.cell? ad = some (.int .u8 y))
    (hk : ∀ q c w', Rd w'.heap.size w' q c (L ++ [y]) → Below w.heap.size w w' → wpList Tryd.prog ops Q rest (a.put o.dst (.slice q (n + 1) c)) w') : wpList Tryd.prog ops Q (o :: rest) a w := by
  subst hn
  obtain ⟨i0, hi, hz0, hz1, hz2⟩ := info_parts Tryd.info5
  have hall : ∀ j u, ([y].map (Value.int .u8))[j]? = some u → w.cell? (ad.add j) = some u := fun j u hu => by
    match j, hu with
    | 0, hu => simp at hu; subst hu; simpa [Addr.add] using hc
  have hadd : ∀ j, (⟨g, 0, none⟩ : Addr).add j = ⟨g, j, none⟩ := fun j => by unfold Addr.add; split <;> simp_all
  have hcs : ∀ j u, (L.map (Value.int .u8))[j]? = some u → w.cell? ((⟨g, 0, none⟩ : Addr).add j) = some u := fun j u hu => by
    rw [hadd]; exact cell_row h j u hu
  have hrun := run_append_grow (P := Tryd.prog) w 29 o.type 5 i0 (.int .u8 0) Tryd.underlying29 hi hz0 ⟨g, 0, none⟩ L.length L.length (L.map (Value.int .u8)) (by rw [hz1]; simp) hcs ad [y].length 1 ([y].map (Value.int .u8)) (by rw [hz1]; simp) hall (by first | (simp; done) | (simp; omega)) (by first | (simp; done) | (simp; omega)) (by rw [hz2]; exact growslice_fits (by first | (simp; done) | (simp; omega)) (by first | (simp; done) | (simp; omega)))
  refine wpList_plain hgd fun K hK => ?_
  unfold Oper.wp execOp
  simp only [ho, resolve, invoke, builtin, Sem.run_bind, Sem.run_pure, Result.andThen_ok]
  rw [show (#[sl, x]).map a.eval = #[.slice (some ⟨g, 0, none⟩) L.length L.length, .slice (some ad) [y].length 1] from by simp [hs, hx], hrun]
  have hge := grownCap_ge w (L.length + [y].length) L.length 5
  refine hK _ _ (hk _ _ _ ⟨by rw [List.length_append]; exact hge, fun x hx => ?_, fun j hj => ⟨_, rfl, ?_, ?_⟩⟩ ⟨rfl, rfl, rfl, by simp, fun k hk' => Below.heap_alloc w.drew _ k hk'⟩)
  · rcases List.mem_append.1 hx with hx | hx
    · exact hL x hx
    · rw [List.mem_singleton.1 hx]; exact hy
  · show w.heap.size < _
    simp
  · have hadd' : (⟨w.heap.size, 0, none⟩ : Addr).add j = ⟨w.heap.size, j, none⟩ := by unfold Addr.add; split <;> simp_all
    have hnew := heap_alloc_new w.drew (.cells ((L.map (Value.int .u8)).toArray ++ ([y].map (Value.int .u8)).toArray ++ Builtin.zeroCells (Value.int .u8 0).cells (grownCap w (L.length + [y].length) L.length 5 - (L.length + [y].length))) 5)
    rw [hadd']
    refine (cell_of_row _ w.heap.size j _ 5 _ hnew).trans ?_
    rw [Array.getElem?_append_left (by simp; simpa using hj), show (L.map (Value.int .u8)).toArray ++ ([y].map (Value.int .u8)).toArray = ((L ++ [y]).map (Value.int .u8)).toArray by simp]
    simp only [List.getElem?_toArray, List.getElem?_map]
    rw [List.getElem?_eq_getElem hj, List.getD_eq_getElem?_getD, List.getElem?_eq_getElem hj]
    rfl
end
/-- The text of a value is another. -/
theorem isJ_text {O : Nat → Prop} {w : World} {k i : Int} {t t' u : ByteArray} {ks : List ByteArray} {l : List J} {a b : Int} {x y : Value} (h : isJ O w (.mk k i t ks l) [.int .i64 a, .int .i64 b, .string u, x, y]) : isJ O w (.mk k i t' ks l) [.int .i64 a, .int .i64 b, .string t', x, y] := by
  unfold isJ at h ⊢
  obtain ⟨pk, ck, pl, cl, e, h1, h2, h3⟩ := h
  simp only [List.cons.injEq, Value.int.injEq, Value.string.injEq, true_and, and_true] at e
  obtain ⟨rfl, rfl, rfl, rfl, rfl⟩ := e
  exact ⟨pk, ck, pl, cl, rfl, h1, h2, h3⟩
theorem isJ_t {O : Nat → Prop} {w : World} {k i : Int} {t u : ByteArray} {ks : List ByteArray} {l : List J} {a b : Int} {x y : Value} (h : isJ O w (.mk k i t ks l) [.int .i64 a, .int .i64 b, .string u, x, y]) : u = t := by
  unfold isJ at h
  obtain ⟨pk, ck, pl, cl, e, h1, h2, h3⟩ := h
  simp only [List.cons.injEq, Value.int.injEq, Value.string.injEq, true_and, and_true] at e
  exact e.2.2.1
theorem jA_fit (n : Nat) (h : n ≤ 100000) : fitJ 12 (ord (jA n)) = true := fit_ord (jA_good n) (jA_sz n h)
end Go.Proofs.YtnmhpejnjaeecabDoor
namespace Go.Proofs.YtnmhpejnjaeecabDoor
open Go.RowKit

theorem rep_more (n : Nat) (c : UInt8) : strOfNums (List.replicate n (c.toNat : Int)) ++ ⟨#[c]⟩ = strOfNums (List.replicate (n + 1) (c.toNat : Int)) := by
  have e : (⟨#[c]⟩ : ByteArray) = strOfNums [(c.toNat : Int)] := by simp [strOfNums]
  rw [e, str_append, List.replicate_succ']
theorem rep_size (n : Nat) (c : Int) : (strOfNums (List.replicate n c)).size = n := by rw [str_size, List.length_replicate]
theorem tab_e {w w2 : World} (hT : Tab w.heap.size w) (hb : Below w.heap.size w w2) : Tab w2.heap.size w2 := fun w' h' => hT w' (below_in hb h')
theorem isJ_e {w w2 : World} {j : J} {cs : List Value} (h : isJ (fun b => b < w.heap.size) w j cs) (hb : Below w.heap.size w w2) : isJ (fun b => b < w2.heap.size) w2 j cs :=
  h.carry fun b hb' => ⟨Nat.lt_of_lt_of_le hb' hb.size, hb.block b hb'⟩
theorem isJ_n {w w2 : World} {j : J} {cs : List Value} (h : isJ (New w w2) w2 j cs) : isJ (fun b => b < w2.heap.size) w2 j cs :=
  h.carry fun _ hb' => ⟨hb'.2, rfl⟩
/-- A text's bytes, and what they say. -/
theorem dec_text (w : World) (s : ByteArray) (hs : s.size ≤ 1000) : ∃ q n c w0, (convert 9 29 (.string s)).run Tryd.prog w = .ok (.slice q n c) w0 ∧ Below w.heap.size w w0 ∧ Calls Tryd.prog 4 #[.slice q n c] w0 fun x w' => decTold w0 w' (decode (ints s)) x := by
  obtain ⟨v, w0, hc, hf, hb⟩ := free_text w s (by omega)
  obtain ⟨q, c, rfl, hrd⟩ := hf.rd (ints_bytes s)
  exact ⟨q, _, c, w0, hc, hb, decode_any hrd (by rw [ints_length]; omega)⟩
theorem made_bytes (n : Nat) : madeCells (Value.int .u8 0).cells (n * 1) = ((List.replicate n (0 : Int)).map (Value.int .u8)).toArray := by
  rw [← Array.toList_inj]
  apply List.ext_getElem
  · simp [madeCells]
  · intro i h1 h2
    simp [madeCells, Value.cells]
    rw [Nat.mod_one]
    rfl
theorem wpList_bytes {W : World} {ops : Array Oper} {rest : List Oper} {o : Oper} {a : Act} {Q : Exit → Act → World → Prop} (hgd : o.guard = none) (x y : Operand) (ho : o.op = .makeSlice 29 x y) (n : Nat) (hn : n ≤ 1000000) (hx : a.eval x = .int .i64 (n : Int)) (hy : a.eval y = .int .i64 (n : Int))
    (h : wpList Tryd.prog ops Q rest (a.put o.dst (.slice (some ⟨W.heap.size, 0, none⟩) n n)) (W.alloc (.cells ((fillA n 0).map (Value.int .u8)).toArray 5))) : wpList Tryd.prog ops Q (o :: rest) a W := by
  refine wpList_plain hgd fun K hK => ?_
  have hrun : (Instr.makeSlice 29 (.int .i64 (n : Int)) (.int .i64 (n : Int))).run Tryd.prog W = .ok (.slice (some ⟨W.heap.size, 0, none⟩) n n) (W.alloc (.cells ((fillA n 0).map (Value.int .u8)).toArray 5)) := by
    obtain ⟨i0, hi, hz0, hz1, hz2⟩ := info_parts Tryd.info5
    have := run_makeSlice (P := Tryd.prog) W 29 5 i0 (.int .u8 0) Tryd.underlying29 hi hz0 .i64 .i64 n n (by omega) (Int.le_refl _) (by rw [hz1]; simp; omega) (by rw [hz2]; omega) (by omega)
    rw [hz1] at this
    simp only [Int.toNat_natCast] at this
    rw [made_bytes] at this
    have e : fillA n 0 = List.replicate n (0 : Int) := by unfold fillA manyA; simp
    rw [e]
    exact this
  unfold Oper.wp
  simp only [execOp, ho]
  simp only [Sem.run_bind, Sem.run_pure, hx, hy, hrun, Result.andThen_ok]
  exact hK _ _ h
set_option maxRecDepth 100000 in
set_option maxHeartbeats 16000000 in
theorem ends_any {w : World} (hT : Tab w.heap.size w) : Calls Tryd.prog 3 #[] w fun x w' => x = .returned (.bool true) ∧ Below w.heap.size w w' := by
  obtain ⟨N, hN⟩ : ∃ N : Nat, N = 16384 := ⟨_, rfl⟩
  have HN : Hid (N = 16384) := hN
  have hNi : (16384 : Int) = (N : Int) := by omega
  clear hN
  go_enter Tryd.func3, Tryd.ntmps3
  go_wp2
  go_loopw [1, 2, 3] (fun a b v wr => ∃ n : Nat, v = .int .i64 n ∧ n ≤ 12 ∧ a = .string (strOfNums (List.replicate n 91)) ∧ b = .string (strOfNums (List.replicate n 93)) ∧ wr = w) (fun _ _ v _ => 12 - (intOf v).toNat)
  case atStart => exact ⟨0, rfl, Nat.zero_le _, rfl, rfl, rfl⟩
  case round =>
    obtain ⟨n, rfl, hn, rfl, rfl, rfl⟩ := hrel
    have z1 := rep_size n 91
    have z2 := rep_size n 93
    have m1 := rep_more n 91
    have m2 := rep_more n 93
    obtain ⟨S, hS⟩ : ∃ S, strOfNums (List.replicate n 91) = S := ⟨_, rfl⟩
    obtain ⟨T, hTT⟩ : ∃ T, strOfNums (List.replicate n 93) = T := ⟨_, rfl⟩
    have HS : Hid (strOfNums (List.replicate n 91) = S) := hS
    have HTT : Hid (strOfNums (List.replicate n 93) = T) := hTT
    rw [hS] at z1 ⊢
    rw [hTT] at z2 ⊢
    have hS1 : S.size ≤ 12 := by omega
    have hT1 : T.size ≤ 12 := by omega
    have HM1 : Hid (S ++ ⟨#[91]⟩ = strOfNums (List.replicate (n + 1) 91)) := by rw [← hS]; exact m1
    have HM2 : Hid (T ++ ⟨#[93]⟩ = strOfNums (List.replicate (n + 1) 93)) := by rw [← hTT]; exact m2
    have HZ1 : Hid (S.size = n) := z1
    have HZ2 : Hid (T.size = n) := z2
    clear hS hTT m1 m2 z1 z2
    by_cases hlt : n < 12
    · have hlti : (n : Int) < 12 := by omega
      go_wp2
      go_roundw
      case rel => exact ⟨n + 1, by go_num, hlt, by rw [HM1.out], by rw [HM2.out], trivial⟩
      case measure => simp [intOf]; omega
    · obtain rfl : n = 12 := by omega
      have HI1 : Hid (ints (S ++ T) = open12 ++ shut12) := by
        show _ = _
        rw [← HS.out, ← HTT.out, str_append, ints_str _ (by decide)]
        rfl
      have HI2 : Hid (ints ((S ++ ⟨#[49]⟩) ++ T) = open12 ++ (49 :: shut12)) := by
        show _ = _
        have e : (⟨#[49]⟩ : ByteArray) = strOfNums [49] := rfl
        rw [← HS.out, ← HTT.out, e, str_append, str_append, ints_str _ (by decide)]
        rfl
      obtain ⟨q0, n0, c0, w0, hc0, hb0, hD1⟩ := dec_text wr (S ++ T) (by rw [ByteArray.size_append]; omega)
      rw [HI1.out, dec_12] at hD1
      go_wp2_with (first
        | (go_at_call 4; refine hD1.mono ?_; rintro x w1 ⟨⟨k1, i1, t1, pk1, nk1, ck1, pl1, nl1, cl1, rfl, hj1⟩, hb1⟩
           clear hD1 hc0
           have hB1 : Below wr.heap.size wr (w1.alloc (.cells #[.int .i64 k1, .int .i64 i1, .string t1, .slice pk1 nk1 ck1, .slice pl1 nl1 cl1] 25)) := (below_in hb0 hb1).alloc (below_in hb0 hb1).size _
           obtain ⟨q2, n2, c2, w2, hc2, hb2, hD2⟩ := dec_text (w1.alloc (.cells #[.int .i64 k1, .int .i64 i1, .string t1, .slice pk1 nk1 ck1, .slice pl1 nl1 cl1] 25)) ((S ++ ⟨#[49]⟩) ++ T) (by rw [ByteArray.size_append, ByteArray.size_append]; show S.size + 1 + T.size ≤ 1000; omega)
           rw [HI2.out, dec_13] at hD2
           have hD2x : Calls Tryd.prog 4 #[.slice q2 n2 c2] w2 fun x w' => x = .returned (.tuple #[.agg #[.int .i64 0, .int .i64 0, .string ⟨#[]⟩, .slice none 0 0, .slice none 0 0], .int .i64 12, .int .i64 12]) ∧ Below w2.heap.size w2 w' := hD2.mono fun x w' h => h
           clear hD2)
        | (go_at_call 4; refine hD2x.mono ?_; rintro x w3 ⟨rfl, hb3⟩
           clear hD2x hc2
           have h13 := below_in hb2 hb3
           have hB3 : Below wr.heap.size wr (w3.alloc (.cells #[.int .i64 0, .int .i64 0, .string ⟨#[]⟩, .slice none 0 0, .slice none 0 0] 25)) := (below_in hB1 h13).alloc (below_in hB1 h13).size _)
        | (at_make; refine wpList_bytes rfl (.const (.int .i64 16384)) (.const (.int .i64 16384)) rfl N (by have := HN.out; omega) (by rw [← hNi]; rfl) (by rw [← hNi]; rfl) ?_
           obtain ⟨wM, hwM⟩ : ∃ wM, wM = w3.alloc (.cells #[.int .i64 0, .int .i64 0, .string ⟨#[]⟩, .slice none 0 0, .slice none 0 0] 25) := ⟨_, rfl⟩
           have h3M : Below w3.heap.size w3 wM := by rw [hwM]; exact (Below.refl _ _).alloc (Nat.le_refl _) _
           rw [← hwM] at hB3 ⊢
           clear hwM))
      have HJ1 : Hid (isJ (fun b => b < wM.heap.size) wM (nestJ 11) [.int .i64 k1, .int .i64 i1, .string t1, .slice pk1 nk1 ck1, .slice pl1 nl1 cl1]) := isJ_e (isJ_e (isJ_n hj1) ((Below.refl _ _).alloc (Nat.le_refl _) _)) (below_in h13 h3M)
      have HX1 : Hid (wM.heap[w1.heap.size]? = some (.cells #[.int .i64 k1, .int .i64 i1, .string t1, .slice pk1 nk1 ck1, .slice pl1 nl1 cl1] 25 (0, 0))) := ((below_in h13 h3M).block w1.heap.size (by simp)).trans (heap_alloc_new _ _)
      have hrow0 : RowB (wM.alloc (.cells ((fillA N 0).map (Value.int .u8)).toArray 5)) wM.heap.size (fillA N 0) := heap_alloc_new _ _
      have hbl0 : Below wM.heap.size wM (wM.alloc (.cells ((fillA N 0).map (Value.int .u8)).toArray 5)) := (Below.refl _ _).alloc (Nat.le_refl _) _
      clear hj1 hb0 hb1 hb2 hb3 h13 h3M hB1 HM1 HM2 HZ1 HZ2 HS HTT HI1 HI2
      obtain ⟨wS, hwS⟩ : ∃ wS, wS = wr := ⟨_, rfl⟩
      subst hwS
      go_loopw [52] (fun v w4 => ∃ m : Nat, v = .int .i64 m ∧ m ≤ N ∧ RowB w4 wM.heap.size (fillA N m) ∧ Below wM.heap.size wM w4) (fun v _ => N - (intOf v).toNat)
      case atStart => exact ⟨0, rfl, Nat.zero_le _, hrow0, hbl0⟩
      case round =>
        clear hrow0 hbl0
        obtain ⟨m, rfl, hm, hrow, hbl⟩ := hrel
        by_cases hlt : m < N
        · obtain ⟨x0, hcell⟩ := hrow.cell (k := m) (by rw [fillA_len N m hm]; exact hlt)
          have hfz := hrow.free m
          have HROW : Hid (RowB (wr.setCell ⟨wM.heap.size, m, none⟩ (.int .u8 97)) wM.heap.size (fillA N (m + 1))) := by
            have := hrow.set m 97
            rw [fillA_set N m hlt] at this
            exact this
          have HB := hbl.setCell (p := ⟨wM.heap.size, m, none⟩) (Nat.le_refl _) (.int .u8 97)
          have hNb : N ≤ 20000 := by have := HN.out; omega
          go_wp2
          go_roundw
          case rel => exact ⟨m + 1, by go_num, hlt, HROW.out, HB⟩
          case measure => simp [intOf]; omega
        · have eN : N = m := by omega
          subst eN
          obtain ⟨n, M, Hn, HM⟩ : ∃ n M : Nat, Hid (N = n + 2) ∧ Hid (N = M + 1) := ⟨N - 2, N - 1, by show _ = _; have := HN.out; omega, by show _ = _; have := HN.out; omega⟩
          have hM1 : (N : Int) - 1 = (M : Int) := by have := HM.out; omega
          have hML : M < N := by have := HM.out; omega
          have h0L : 0 < N := by omega
          have hNb : N ≤ 20000 := by have := HN.out; omega
          have HL : Hid ((bytesA n).length = N) := by show _ = _; rw [bytesA_len, Hn.out]
          rw [fillA_full] at hrow
          obtain ⟨x0, hc0⟩ := hrow.cell (k := 0) (by rw [manyA_len]; exact h0L)
          have hf0 := hrow.free 0
          have hrow1 := hrow.set 0 34
          obtain ⟨x1, hc1⟩ := hrow1.cell (k := M) (by rw [List.length_set, manyA_len]; exact hML)
          have hf1 := hrow1.free M
          have hrow2 := hrow1.set M 34
          have HR2 : Hid (RowB ((wr.setCell ⟨wM.heap.size, 0, none⟩ (.int .u8 34)).setCell ⟨wM.heap.size, M, none⟩ (.int .u8 34)) wM.heap.size (bytesA n)) := by
            have e : ((manyA N).set 0 34).set M 34 = bytesA n := by
              rw [show M = n + 1 by (have := Hn.out; have := HM.out; omega), Hn.out]
              exact ends_set n
            rw [← e]
            exact hrow2
          have hbl2 : Below wM.heap.size wM ((wr.setCell ⟨wM.heap.size, 0, none⟩ (.int .u8 34)).setCell ⟨wM.heap.size, M, none⟩ (.int .u8 34)) := (hbl.setCell (p := ⟨wM.heap.size, 0, none⟩) (Nat.le_refl _) _).setCell (p := ⟨wM.heap.size, M, none⟩) (Nat.le_refl _) _
          have hD3 := decode_any (HR2.out.rd (bytesA_bd n)) (by rw [HL.out]; omega)
          rw [dec_A n (by have := Hn.out; have := HN.out; omega), HL.out] at hD3
          clear hrow hrow1 hrow2 hbl hlt hm
          go_wp2_with (first
            | (go_at_call 4; refine hD3.mono ?_; rintro x w5 ⟨⟨k3, i3, t3, pk3, nk3, ck3, pl3, nl3, cl3, rfl, hj3⟩, hb5⟩
               clear hD3 hc0 hf0 hc1 hf1
               have HR5 : RowB w5 wM.heap.size (bytesA n) := HR2.out.carry hb5
               clear HR2
               have hM5 := below_in hbl2 hb5
               have b5 : Below w5.heap.size w5 (w5.alloc (.cells #[.int .i64 k3, .int .i64 i3, .string t3, .slice pk3 nk3 ck3, .slice pl3 nl3 cl3] 25)) := (Below.refl _ _).alloc (Nat.le_refl _) _
               have hEn := encode_any (w := w5.alloc (.cells #[.int .i64 k3, .int .i64 i3, .string t3, .slice pk3 nk3 ck3, .slice pl3 nl3 cl3] 25)) (O := fun b => b < (w5.alloc (.cells #[.int .i64 k3, .int .i64 i3, .string t3, .slice pk3 nk3 ck3, .slice pl3 nl3 cl3] 25)).heap.size) (fun _ h => h) (jA_sz n (by have := Hn.out; omega)) (tab_e hT (below_in hB3 (below_in hM5 b5))) (fun _ => jA_fit n (by have := Hn.out; omega)) (isJ_e (isJ_n hj3) b5))
            | (go_at_call 5; refine hEn.mono ?_; rintro x w6 ⟨_, _, h3, hb6⟩
               obtain ⟨v, rfl, hown⟩ := h3 (jA_good n) (by rw [jA_enc, HL.out]; have := HN.out; omega)
               obtain ⟨p6, c6, rfl, hrd6⟩ := enc_rd (jA_good n) hown
               rw [jA_enc, HL.out] at hown ⊢
               have HOWN : Hid (w6.ownsRow (w5.heap.size + 1) 5 1 (.slice p6 N c6) (bytesA n).length ((bytesA n).map (Value.int .u8))) := by
                 show World.ownsRow _ _ _ _ _ _ _
                 rw [HL.out]
                 have e : (w5.alloc (.cells #[.int .i64 k3, .int .i64 i3, .string t3, .slice pk3 nk3 ck3, .slice pl3 nl3 cl3] 25)).heap.size = w5.heap.size + 1 := by simp
                 rw [e] at hown
                 exact hown
               clear hEn h3 hown hrd6
               have HR6 := HR5.carry (below_in b5 hb6))
            | (at_builtin; refine RowB.spill (HR6.carry ((Below.refl _ _).alloc (Nat.le_refl _) _)) (bytesA_bd n) (by rw [HL.out]; omega) rfl (.tmp 78) (.tmp 79) rfl N HL.out rfl _ 32 (by decide) rfl (cell_row (cur := [_]) (heap_alloc_new _ _) 0 _ rfl) ?_
               intro q7 c7 w7 hrd7 hb7
               have hK7 := below_in hb6 (below_in ((Below.refl _ _).alloc (Nat.le_refl _) _) hb7)
               have h67 := below_in ((Below.refl w6.heap.size w6).alloc (Nat.le_refl _) _) hb7
               have hL7 : (bytesA n ++ [32]).length = N + 1 := by rw [List.length_append, HL.out]; rfl
               have hD7 := decode_any hrd7 (by rw [hL7]; omega)
               rw [dec_long (by rw [hL7]; have := HN.out; omega), hL7] at hD7
               have hD7x : Calls Tryd.prog 4 #[.slice q7 (N + 1) c7] w7 fun x w' => x = .returned (.tuple #[.agg #[.int .i64 0, .int .i64 0, .string ⟨#[]⟩, .slice none 0 0, .slice none 0 0], .int .i64 13, .int .i64 16384]) ∧ Below w7.heap.size w7 w' := hD7.mono fun x w' h => h
               clear hD7 hrd7 hL7 hb7)
            | (go_at_call 4; refine hD7x.mono ?_; rintro x w8 ⟨rfl, hb8⟩
               clear hD7x
               have b8 : Below w7.heap.size w7 (w8.alloc (.cells #[.int .i64 0, .int .i64 0, .string ⟨#[]⟩, .slice none 0 0, .slice none 0 0] 25)) := hb8.alloc hb8.size _
               have hK9 := below_in hK7 b8
               have h69 := below_in h67 b8
               have ht3 : t3 = strOfNums (manyA n) := isJ_t (show isJ _ _ (.mk 3 0 (strOfNums (manyA n)) [] []) _ from hj3)
               have hts : t3.size ≤ 20000 := by rw [ht3, str_size, manyA_len]; have := Hn.out; omega
               have HX9 : (w8.alloc (.cells #[.int .i64 0, .int .i64 0, .string ⟨#[]⟩, .slice none 0 0, .slice none 0 0] 25)).heap[w5.heap.size]? = some (.cells #[.int .i64 k3, .int .i64 i3, .string t3, .slice pk3 nk3 ck3, .slice pl3 nl3 cl3] 25 (0, 0)) := (hK9.block w5.heap.size (by simp)).trans (heap_alloc_new _ _)
               have HXT : ((w8.alloc (.cells #[.int .i64 0, .int .i64 0, .string ⟨#[]⟩, .slice none 0 0, .slice none 0 0] 25)).setCell ⟨w5.heap.size, 2, none⟩ (.string (t3 ++ ⟨#[97]⟩))).heap[w5.heap.size]? = some (.cells #[.int .i64 k3, .int .i64 i3, .string (t3 ++ ⟨#[97]⟩), .slice pk3 nk3 ck3, .slice pl3 nl3 cl3] 25 (0, 0)) := Go.heap_setCell_same _ _ 2 _ _ _ HX9
               have d2 := five_c2 HX9
               have df := frozen_of_row _ w5.heap.size 2 _ _ HX9
               have e0 := five_c0 HXT; have e1 := five_c1 HXT; have e2 := five_c2 HXT; have e3 := five_c3 HXT; have e4 := five_c4 HXT
               have h5T : Below w5.heap.size w5 ((w8.alloc (.cells #[.int .i64 0, .int .i64 0, .string ⟨#[]⟩, .slice none 0 0, .slice none 0 0] 25)).setCell ⟨w5.heap.size, 2, none⟩ (.string (t3 ++ ⟨#[97]⟩))) := (below_in b5 hK9).setCell (p := ⟨w5.heap.size, 2, none⟩) (Nat.le_refl _) _
               have hjT : isJ (fun b => b < w5.heap.size) ((w8.alloc (.cells #[.int .i64 0, .int .i64 0, .string ⟨#[]⟩, .slice none 0 0, .slice none 0 0] 25)).setCell ⟨w5.heap.size, 2, none⟩ (.string (t3 ++ ⟨#[97]⟩))) (jA (n + 1)) [.int .i64 k3, .int .i64 i3, .string (t3 ++ ⟨#[97]⟩), .slice pk3 nk3 ck3, .slice pl3 nl3 cl3] := by
                 have h1 : isJ (fun b => b < w5.heap.size) ((w8.alloc (.cells #[.int .i64 0, .int .i64 0, .string ⟨#[]⟩, .slice none 0 0, .slice none 0 0] 25)).setCell ⟨w5.heap.size, 2, none⟩ (.string (t3 ++ ⟨#[97]⟩))) (.mk 3 0 (strOfNums (manyA n)) [] []) [.int .i64 k3, .int .i64 i3, .string t3, .slice pk3 nk3 ck3, .slice pl3 nl3 cl3] := (isJ_n hj3).carry fun b hb => ⟨hb, h5T.block b hb⟩
                 have h2 := isJ_text (t' := t3 ++ ⟨#[97]⟩) h1
                 have h3 : jA (n + 1) = .mk 3 0 (t3 ++ ⟨#[97]⟩) [] [] := by rw [ht3, strA_more]; rfl
                 rw [h3]
                 exact h2
               have hEn2 := encode_any (fun _ h => Nat.lt_of_lt_of_le h h5T.size) (jA_sz (n + 1) (by have := Hn.out; omega)) (tab_e hT (below_in hB3 (below_in hM5 h5T))) (fun _ => jA_fit (n + 1) (by have := Hn.out; omega)) hjT
               have kT : Keep (One w5.heap.size) w6 ((w8.alloc (.cells #[.int .i64 0, .int .i64 0, .string ⟨#[]⟩, .slice none 0 0, .slice none 0 0] 25)).setCell ⟨w5.heap.size, 2, none⟩ (.string (t3 ++ ⟨#[97]⟩))) := Keep.setCell (S := One w5.heap.size) (p := ⟨w5.heap.size, 2, none⟩) (Keep.of_below h69) (fun _ => (rfl : w5.heap.size = w5.heap.size)) _
               clear hjT HX9 HXT hj3 hb8 hK7 h67 ht3)
            | (go_at_call 5; refine hEn2.mono ?_; rintro x wA ⟨_, h2, _, hbA⟩
               obtain rfl := h2 (jA_good (n + 1)) (by rw [jA_enc, bytesA_len]; have := Hn.out; have := HN.out; omega)
               clear hEn2 h2
               have kA := kT.then (Keep.of_below hbA)
               have hMA := below_in hM5 (below_in h5T hbA)
               have hRA := HR5.carry (below_in h5T hbA)
               have hOA := own_keep HOWN.out kA fun k hk h => by
                 have := (own_ge HOWN.out k hk).1
                 unfold One at h
                 omega
               have hXA := (hMA.block w1.heap.size (Array.getElem?_eq_some_iff.1 HX1.out).1).trans HX1.out
               have f0 := five_c0 hXA; have f1 := five_c1 hXA; have f2 := five_c2 hXA; have f3 := five_c3 hXA; have f4 := five_c4 hXA
               have hG := rGood_any (w := wA) (O := fun b => b < wA.heap.size) (fun _ h => h) sz_12 (isJ_e HJ1.out hMA)
               rw [good_12] at hG
               clear hXA HJ1 HX1 e0 e1 e2 e3 e4 d2 df kT)
            | (go_at_call 6; refine hG.mono ?_; rintro x wB ⟨rfl, hbB⟩
               clear hG
               have g1 := own_string (own_keep hOA (Keep.of_below (S := fun _ => False) hbB) fun _ _ h => h)
               have g2 := rd_string ((hRA.carry hbB).rd (bytesA_bd n))
               rw [HL.out] at g2
               obtain ⟨SA, hSA⟩ : ∃ SA, strOfNums (bytesA n) = SA := ⟨_, rfl⟩
               rw [hSA] at g1 g2
               have hSE : (SA.toList == SA.toList) = true := by simp
               have hMB := below_in hB3 (below_in hMA hbB)
               have hAw := awake_any (tab_e hT hMB)
               clear hSA hOA hRA)
            | (go_at_call 7; refine hAw.mono ?_; rintro x wC ⟨rfl, hbC⟩))
          go_ret
          exact ⟨rfl, below_in hMB hbC⟩
end Go.Proofs.YtnmhpejnjaeecabDoor

/-
  Bytes that a call made, none of whose cells is frozen (a mark may lie behind them): what is appended to them.
  Texts and bytes joined, by a contract.
-/
import Derived.Test.YtnmhpejnjaeecaaDoorM5
import Derived.Lib.ConvBytes
import Derived.Lib.FrozenHead
namespace Go.Proofs.YtnmhpejnjaeecaaDoor
open Go Go.RowKit

/-- v is a row of the bytes L that was made from block base on. -/
def Fresh (w : World) (base : Nat) (v : Value) (L : List Int) : Prop :=
  ∃ g cap cur fz, v = .slice (some ⟨g, 0, none⟩) L.length cap ∧ base ≤ g ∧ w.heap[g]? = some (.cells cur 5 fz) ∧ (fz.2 = 0 ∨ cur.size ≤ fz.1) ∧ L.length ≤ cap ∧ cap ≤ maxLen ∧ cur.size = cap ∧ cur.toList.take L.length = L.map (Value.int .u8)
theorem free_store (P : Program) (g o : Nat) (t : TypeId) (fz : Nat × Nat) : ∀ (vs : List Value) (i : Nat) (cur : Array Value) (w : World), w.heap[g]? = some (.cells cur t fz) → (fz.2 = 0 ∨ cur.size ≤ fz.1) → o + i + vs.length ≤ cur.size → (∀ v ∈ vs, v.oneCell' = true) →
    (storeCells ⟨g, o, none⟩ vs i).run P w = .ok () (w.setRow g (cur.toList.take (o + i) ++ vs ++ cur.toList.drop (o + i + vs.length)).toArray)
  | [], i, cur, w, hg, _, _, _ => by
    simp only [storeCells, List.append_nil, List.length_nil, Nat.add_zero, List.take_append_drop, Array.toArray_toList]
    rw [setRow_self w g cur t fz hg]
    rfl
  | v :: rest, i, cur, w, hg, hfz, hl, h1 => by
    have hl' : o + i + (rest.length + 1) ≤ cur.size := by simpa using hl
    have hadd : (⟨g, o, none⟩ : Addr).add i = ⟨g, o + i, none⟩ := by unfold Addr.add; split <;> simp_all
    have hlt : o + i < cur.size := by omega
    have hcell : w.cell? ⟨g, o + i, none⟩ = some cur[o + i] := by simp [World.cell?, hg, hlt]
    have hfro : w.frozen? ⟨g, o + i, none⟩ = false := by
      obtain ⟨lo, hi'⟩ := fz
      simp only [World.frozen?, hg, Bool.and_eq_false_iff, decide_eq_false_iff_not]
      simp only at hfz
      omega
    have hst : (store ((⟨g, o, none⟩ : Addr).add i) v).run P w = .ok () (w.setRow g (cur.setIfInBounds (o + i) v)) := by
      rw [hadd, run_store P w _ v _ (h1 v (by simp)), hcell]
      simp [hfro, setCell_eq_setRow w g (o + i) cur t fz v hg]
    have ih := free_store P g o t fz rest (i + 1) (cur.setIfInBounds (o + i) v) (w.setRow g (cur.setIfInBounds (o + i) v)) (setRow_heap w g cur _ t _ hg) (by simpa using hfz) (by simp; omega) (fun x hx => h1 x (by simp [hx]))
    simp only [storeCells, Sem.run_bind, hst, Result.andThen_ok, ih, setRow_setRow]
    congr 3
    have e := list_seg_step cur.toList (o + i) v rest (by simp; omega)
    simpa [Array.toList_setIfInBounds, Nat.add_assoc] using e
section
variable {w : World} {base : Nat} {v : Value} {L : List Int}
theorem u8_one (R : List Int) : ∀ u ∈ R.map (Value.int .u8), u.oneCell' = true := fun u hu => by
  obtain ⟨x, _, rfl⟩ := List.mem_map.1 hu
  rfl
theorem Fresh.cells (h : Fresh w base v L) : ∃ g cap, v = .slice (some ⟨g, 0, none⟩) L.length cap ∧ ∀ j u, (L.map (Value.int .u8))[j]? = some u → w.cell? ((⟨g, 0, none⟩ : Addr).add j) = some u := by
  obtain ⟨g, cap, cur, fz, rfl, _, hg, _, _, _, _, ht⟩ := h
  refine ⟨g, cap, rfl, fun j u hu => ?_⟩
  have hadd : (⟨g, 0, none⟩ : Addr).add j = ⟨g, j, none⟩ := by unfold Addr.add; split <;> simp_all
  rw [← ht, List.getElem?_take] at hu
  split at hu
  · rw [hadd, cell_of_row w g j cur 5 fz hg]
    simpa using hu
  · cases hu
/-- It is read. -/
theorem Fresh.rd (h : Fresh w base v L) (hL : ∀ x ∈ L, 0 ≤ x ∧ x ≤ 255) : ∃ q c, v = .slice q L.length c ∧ Rd w.heap.size w q c L := by
  obtain ⟨g, cap, cur, fz, rfl, hb, hg, hfz, hlc, hcm, hcs, ht⟩ := h
  have hc := (Fresh.cells (w := w) (base := base) (L := L) ⟨g, cap, cur, fz, rfl, hb, hg, hfz, hlc, hcm, hcs, ht⟩)
  obtain ⟨g', cap', e, hc⟩ := hc
  cases e
  refine ⟨_, _, rfl, hlc, hL, fun j hj => ⟨_, rfl, (Array.getElem?_eq_some_iff.1 hg).1, ?_⟩⟩
  exact hc j _ (by rw [List.getElem?_map, List.getElem?_eq_getElem hj, List.getD_eq_getElem?_getD, List.getElem?_eq_getElem hj]; rfl)
/-- In room, or in a new row. -/
theorem Fresh.grow {R : List Int} {ops : Array Oper} {rest : List Oper} {o : Oper} {a : Act} {Q : Exit → Act → World → Prop} {args : Array Operand} {ats : Array TypeId} {y : Value} (h : Fresh w base v L) (hbase : base ≤ w.heap.size) (hlen : L.length + R.length ≤ 1000000)
    (hgd : o.guard = none) (ho : o.op = .call { callee := .builtin .append, args := args, argTypes := ats }) (hargs : args.toList.map a.eval = [v, y])
    (hroom : ∀ g cap cur fz, v = .slice (some ⟨g, 0, none⟩) L.length cap → w.heap[g]? = some (.cells cur 5 fz) → (fz.2 = 0 ∨ cur.size ≤ fz.1) → cur.size = cap → L.length + R.length ≤ cap →
      (Builtin.append_ ats o.type #[v, y]).run Tryd.prog w = .ok (.slice (some ⟨g, 0, none⟩) (L.length + R.length) cap) (w.setRow g (cur.toList.take L.length ++ R.map (Value.int .u8) ++ cur.toList.drop (L.length + R.length)).toArray))
    (hnew : ∀ g cap, v = .slice (some ⟨g, 0, none⟩) L.length cap → cap < L.length + R.length → (∀ j u, (L.map (Value.int .u8))[j]? = some u → w.cell? ((⟨g, 0, none⟩ : Addr).add j) = some u) →
      (Builtin.append_ ats o.type #[v, y]).run Tryd.prog w = .ok (.slice (some ⟨w.heap.size, 0, none⟩) (L.length + R.length) (grownCap w (L.length + R.length) cap 5)) (w.drew.alloc (.cells ((L.map (Value.int .u8)).toArray ++ (R.map (Value.int .u8)).toArray ++ Builtin.zeroCells (Value.int .u8 0).cells (grownCap w (L.length + R.length) cap 5 - (L.length + R.length))) 5)))
    (hk : ∀ v' w', Fresh w' base v' (L ++ R) → Below base w w' → wpList Tryd.prog ops Q rest (a.put o.dst v') w') : wpList Tryd.prog ops Q (o :: rest) a w := by
  refine wpList_plain hgd fun K hK => ?_
  obtain ⟨g, cap, cur, fz, hv, hb, hg, hfz, hlc, hcm, hcs, ht⟩ := h
  have hgs := (Array.getElem?_eq_some_iff.1 hg).1
  by_cases hr : L.length + R.length ≤ cap
  · have hrun := hroom g cap cur fz hv hg hfz hcs hr
    unfold Oper.wp execOp
    simp only [ho, resolve, invoke, builtin, Sem.run_bind, Sem.run_pure, Result.andThen_ok]
    rw [show args.map a.eval = #[v, y] from by rw [← Array.toList_inj]; simpa using hargs, hrun]
    refine hK _ _ (hk _ _ ⟨g, cap, _, fz, by rw [List.length_append], hb, setRow_heap w g cur _ 5 _ hg, ?_, by rw [List.length_append]; exact hr, hcm, ?_, ?_⟩ ⟨rfl, rfl, rfl, by simp, fun k hk' => setRow_other w g k _ (by omega)⟩)
    · rcases hfz with h | h
      · exact .inl h
      · right
        simp only [List.size_toArray, List.length_append, List.length_take, List.length_drop, Array.length_toList, List.length_map]
        omega
    · simp only [List.size_toArray, List.length_append, List.length_take, List.length_drop, Array.length_toList, List.length_map]
      omega
    · rw [ht, ← List.map_append]
      have : (L ++ R).length = ((L ++ R).map (Value.int .u8)).length := by simp
      rw [this]
      exact List.take_left
  · obtain ⟨g', cap', e, hc⟩ := Fresh.cells (w := w) (base := base) (L := L) ⟨g, cap, cur, fz, hv, hb, hg, hfz, hlc, hcm, hcs, ht⟩
    have hge := grownCap_ge w (L.length + R.length) cap 5
    have hcm2 : grownCap w (L.length + R.length) cap 5 ≤ maxLen := grownCap_le_maxLen w (L.length + R.length) cap 5 (by unfold maxLen; omega)
    have hrun := hnew g cap hv (by omega) (by rw [hv] at e; cases e; exact hc)
    unfold Oper.wp execOp
    simp only [ho, resolve, invoke, builtin, Sem.run_bind, Sem.run_pure, Result.andThen_ok]
    rw [show args.map a.eval = #[v, y] from by rw [← Array.toList_inj]; simpa using hargs, hrun]
    refine hK _ _ (hk _ _ ⟨w.heap.size, _, _, (0, 0), by rw [List.length_append], hbase, heap_alloc_new w.drew _, .inl rfl, by rw [List.length_append]; exact hge, hcm2, ?_, ?_⟩ ⟨rfl, rfl, rfl, by simp, fun k hk' => Below.heap_alloc w.drew _ k (by show k < w.heap.size; omega)⟩)
    · have hz1 : (Value.int IntKind.u8 0).cells.size = 1 := rfl
      simp only [Array.size_append, List.size_toArray, size_zeroCells, hz1, List.length_map]
      omega
    · simp only [Array.toList_append, List.append_assoc]
      rw [← List.append_assoc, ← List.map_append]
      have : (L ++ R).length = ((L ++ R).map (Value.int .u8)).length := by simp
      rw [this]
      exact List.take_left
/-- A text is appended. -/
theorem Fresh.text {ops : Array Oper} {rest : List Oper} {o : Oper} {a : Act} {Q : Exit → Act → World → Prop} (h : Fresh w base v L) (hbase : base ≤ w.heap.size) (s : ByteArray) (hlen : L.length + s.size ≤ 1000000)
    (hgd : o.guard = none) (sl x : Operand) (ho : o.op = .call { callee := .builtin .append, args := #[sl, x], argTypes := #[27, 9] }) (hs : a.eval sl = v) (hx : a.eval x = .string s)
    (hk : ∀ v' w', Fresh w' base v' (L ++ ints s) → Below base w w' → wpList Tryd.prog ops Q rest (a.put o.dst v') w') : wpList Tryd.prog ops Q (o :: rest) a w := by
  obtain ⟨i0, hi, hz0, hz1, hz2⟩ := info_parts Tryd.info5
  refine h.grow (R := ints s) (y := .string s) hbase (by rw [ints_length]; exact hlen) hgd ho (by simp [hs, hx]) ?_ ?_ hk
  · intro g cap cur fz hv hg hfz hcs hr
    rw [ints_length] at hr ⊢
    subst hv
    have hf := Lib.run_firstCells_string (P := Tryd.prog) w 1 s
    have hst := free_store Tryd.prog g L.length 5 fz (Lib.strCells s) 0 cur w hg hfz (by rw [Lib.strCells_length]; omega) (Lib.strCells_oneCell s)
    simp only [Nat.add_zero, Lib.strCells_length] at hst
    rw [← strCells_ints]
    simp [Builtin.append_, run_underlying Tryd.underlying27, run_underlying Tryd.underlying9, sizeOf, typeInfo, hi, hz1, Builtin.lenOf, hr, hf, Addr.add_lit, hst]
  · intro g cap hv hr hc
    rw [ints_length] at hr ⊢
    subst hv
    rw [← strCells_ints]
    exact Lib.run_append_grow_string (P := Tryd.prog) w 27 9 o.type 5 i0 (.int .u8 0) Tryd.underlying27 Tryd.underlying9 hi hz0 ⟨g, 0, none⟩ L.length cap (L.map (Value.int .u8)) (by rw [hz1]; simp) hc s (by omega) (by omega) (by rw [hz2]; exact growslice_fits (by omega) (by omega))
/-- Bytes that are read are appended. -/
theorem Fresh.bytes {ops : Array Oper} {rest : List Oper} {o : Oper} {a : Act} {Q : Exit → Act → World → Prop} (h : Fresh w base v L) (hbase : base ≤ w.heap.size) {B : Nat} {q : Option Addr} {cq : Nat} {R : List Int} (hrd : Rd B w q cq R) (hnone : q = none → cq = 0) (hlen : L.length + R.length ≤ 1000000)
    (hgd : o.guard = none) (sl x : Operand) (ho : o.op = .call { callee := .builtin .append, args := #[sl, x], argTypes := #[27, 27] }) (hs : a.eval sl = v) (hx : a.eval x = .slice q R.length cq)
    (hk : ∀ v' w', Fresh w' base v' (L ++ R) → Below base w w' → wpList Tryd.prog ops Q rest (a.put o.dst v') w') : wpList Tryd.prog ops Q (o :: rest) a w := by
  obtain ⟨i0, hi, hz0, hz1, hz2⟩ := info_parts Tryd.info5
  cases q with
  | none =>
    obtain rfl := hnone rfl
    obtain rfl : R = [] := by
      cases R with
      | nil => rfl
      | cons y r => obtain ⟨a, ha, _⟩ := hrd.2.2 0 (by simp); cases ha
    refine wpList_plain hgd fun K hK => ?_
    have hh := h
    obtain ⟨g, cap, cur, fz, hv, hb, hg, hfz, hlc, hcm, hcs, ht⟩ := h
    have hrun : (Builtin.append_ #[27, 27] o.type #[v, .slice none 0 0]).run Tryd.prog w = .ok v w := by
      rw [hv]
      simp [Builtin.append_, run_underlying Tryd.underlying27, sizeOf, typeInfo, hi, Builtin.lenOf, hlc, Builtin.firstCells, storeCells]
    unfold Oper.wp
    simp [execOp, ho, resolve, invoke, builtin, hs, hx, hrun, Result.andThen]
    exact hK _ _ (hk v w (by rw [List.append_nil]; exact hh) (Below.refl _ _))
  | some ad =>
    have hall : ∀ j u, (R.map (Value.int .u8))[j]? = some u → w.cell? (ad.add j) = some u := fun j u hu => by
      rw [List.getElem?_map] at hu
      cases hj : R[j]? with
      | none => rw [hj] at hu; cases hu
      | some x =>
        rw [hj] at hu
        cases hu
        have hlt := (List.getElem?_eq_some_iff.1 hj).1
        obtain ⟨a', ha, _, hc⟩ := hrd.2.2 j hlt
        cases ha
        rw [hc, List.getD_eq_getElem?_getD, hj]
        rfl
    refine h.grow (R := R) (y := .slice (some ad) R.length cq) hbase hlen hgd ho (by simp [hs, hx]) ?_ ?_ hk
    · intro g cap cur fz hv hg hfz hcs hr
      subst hv
      have hf := run_firstCells_some (P := Tryd.prog) w i0.size R.length ad R.length cq (R.map (Value.int .u8)) (by rw [hz1]; simp) hall
      have hst := free_store Tryd.prog g L.length 5 fz (R.map (Value.int .u8)) 0 cur w hg hfz (by simp; omega) (u8_one R)
      simp only [Nat.add_zero, List.length_map] at hst
      rw [hz1] at hf
      simp [Builtin.append_, run_underlying Tryd.underlying27, sizeOf, typeInfo, hi, hz1, Builtin.lenOf, hr, hf, Addr.add_lit, hst]
    · intro g cap hv hr hc
      subst hv
      exact run_append_grow (P := Tryd.prog) w 27 o.type 5 i0 (.int .u8 0) Tryd.underlying27 hi hz0 ⟨g, 0, none⟩ L.length cap (L.map (Value.int .u8)) (by rw [hz1]; simp) hc ad R.length cq (R.map (Value.int .u8)) (by rw [hz1]; simp) hall (by omega) (by omega) (by rw [hz2]; exact growslice_fits (by omega) (by omega))
end
/-- A text's bytes, in a row of their own. -/
theorem free_text (w : World) (s : ByteArray) (hs : s.size ≤ 1000000) : ∃ v w', (convert 9 27 (.string s)).run Tryd.prog w = .ok v w' ∧ Fresh w' w.heap.size v (ints s) ∧ Below w.heap.size w w' := by
  refine ⟨_, _, Lib.run_convert_string_bytes (P := Tryd.prog) w 9 27 5 s Tryd.underlying9 Tryd.underlying27 Tryd.underlying5, ?_, ?_⟩
  · have hge := grownCap_ge w s.size 0 5
    have hcz : (Lib.bytesCells w 5 s).size = grownCap w s.size 0 5 := by
      unfold Lib.bytesCells
      simp
      have : s.data.size = s.size := rfl
      omega
    refine ⟨w.heap.size, _, _, _, by rw [ints_length], Nat.le_refl _, Lib.bytesWorld_at_new w 5 s, .inr (Nat.le_refl _), by rw [ints_length]; exact hge, grownCap_le_maxLen w s.size 0 5 (by unfold maxLen; omega), hcz, ?_⟩
    rw [ints_length]
    unfold Lib.bytesCells
    simp only [Array.toList_append, Array.toList_map]
    have e : s.size = (s.data.toList.map fun b => Value.int .u8 (b.toNat : Int)).length := by simp
    rw [e, List.take_left, ints, List.map_map]
    rfl
  · exact ⟨rfl, rfl, rfl, by rw [Lib.bytesWorld_size]; omega, fun k hk => Lib.bytesWorld_at_old w 5 s k hk⟩
end Go.Proofs.YtnmhpejnjaeecaaDoor
namespace Go.Proofs.YtnmhpejnjaeecaaDoor
open Go.RowKit

theorem below_then {B : Nat} {a b c : World} (h : Below B a b) (g : Below B b c) : Below B a c := h.trans g
set_option maxRecDepth 100000 in
set_option maxHeartbeats 8000000 in
theorem joined_any {w : World} (s t u : ByteArray) {pa pb : Option Addr} {ca cb : Nat} {xs ys : List Int} (ha : Rd w.heap.size w pa ca xs) (hb : Rd w.heap.size w pb cb ys) (hna : pa = none → ca = 0) (hnb : pb = none → cb = 0)
    (hlen : s.size + xs.length + t.size + ys.length + u.size ≤ 20000) :
    Calls Tryd.prog 16 #[.string s, .slice pa xs.length ca, .string t, .slice pb ys.length cb, .string u] w fun x w' => (∃ v, x = .returned v ∧ Fresh w' w.heap.size v ((((ints s ++ xs) ++ ints t) ++ ys) ++ ints u)) ∧ Below w.heap.size w w' := by
  obtain ⟨v0, w0, hc0, hf0, hb0⟩ := free_text w s (by omega)
  go_enter Tryd.func16, Tryd.ntmps16
  go_wp2_with (first
    | (at_builtin; refine hf0.bytes hb0.size (ha.carry hb0) hna (by rw [ints_length]; omega) rfl (.tmp 13) (.tmp 14) rfl rfl rfl ?_
       intro v1 w1 hf1 hb1
       have hs1 := below_then hb0 hb1)
    | (at_builtin; refine hf1.text hs1.size t (by rw [List.length_append, ints_length]; omega) rfl (.tmp 15) (.tmp 16) rfl rfl rfl ?_
       intro v2 w2 hf2 hb2
       have hs2 := below_then hs1 hb2)
    | (at_builtin; refine hf2.bytes hs2.size (hb.carry hs2) hnb (by rw [List.length_append, List.length_append, ints_length, ints_length]; omega) rfl (.tmp 17) (.tmp 18) rfl rfl rfl ?_
       intro v3 w3 hf3 hb3
       have hs3 := below_then hs2 hb3)
    | (at_builtin; refine hf3.text hs3.size u (by rw [List.length_append, List.length_append, List.length_append, ints_length, ints_length]; omega) rfl (.tmp 20) (.tmp 21) rfl rfl rfl ?_
       intro v4 w4 hf4 hb4
       have hs4 := below_then hs3 hb4))
  go_ret
  exact ⟨⟨_, rfl, hf4⟩, hs4⟩
end Go.Proofs.YtnmhpejnjaeecaaDoor

/-
  Bytes that a call made, none of whose cells is frozen (a mark may lie behind them): what is appended to them.
  The document's Encode, by a contract.
  The law of Encode, by a contract.
-/
import Derived.Test.YtnmhpejnjaeecaaGreatDoorM5
import Derived.Test.YtnmhpejnjaeecaaGreatDoorLcM
import Derived.Test.YtnmhpejnjaeecaaGreatDoorOrM
import Derived.Test.YtnmhpejnjaeecaaGreatDoorSameM
import Derived.Lib.ConvBytes
import Derived.Lib.FrozenHead
namespace Go.Proofs.YtnmhpejnjaeecaaGreatDoor
open Go Go.RowKit

/-- v is a row of the bytes L that was made from block base on. -/
def Fresh (w : World) (base : Nat) (v : Value) (L : List Int) : Prop :=
  ∃ g cap cur fz, v = .slice (some ⟨g, 0, none⟩) L.length cap ∧ base ≤ g ∧ w.heap[g]? = some (.cells cur 5 fz) ∧ (fz.2 = 0 ∨ cur.size ≤ fz.1) ∧ L.length ≤ cap ∧ cap ≤ maxLen ∧ cur.size = cap ∧ cur.toList.take L.length = L.map (Value.int .u8)
theorem free_store (P : Program) (g o : Nat) (t : TypeId) (fz : Nat × Nat) : ∀ (vs : List Value) (i : Nat) (cur : Array Value) (w : World), w.heap[g]? = some (.cells cur t fz) → (fz.2 = 0 ∨ cur.size ≤ fz.1) → o + i + vs.length ≤ cur.size → (∀ v ∈ vs, v.oneCell' = true) →
    (storeCells ⟨g, o, none⟩ vs i).run P w = .ok () (w.setRow g (cur.toList.take (o + i) ++ vs ++ cur.toList.drop (o + i + vs.length)).toArray)
  | [], i, cur, w, hg, _, _, _ => by
    simp only [storeCells, List.append_nil, List.length_nil, Nat.add_zero, List.take_append_drop, Array.toArray_toList]
    rw [setRow_self w g cur t fz hg]
    rfl
  | v :: rest, i, cur, w, hg, hfz, hl, h1 => by
    have hl' : o + i + (rest.length + 1) ≤ cur.size := by simpa using hl
    have hadd : (⟨g, o, none⟩ : Addr).add i = ⟨g, o + i, none⟩ := by unfold Addr.add; split <;> simp_all
    have hlt : o + i < cur.size := by omega
    have hcell : w.cell? ⟨g, o + i, none⟩ = some cur[o + i] := by simp [World.cell?, hg, hlt]
    have hfro : w.frozen? ⟨g, o + i, none⟩ = false := by
      obtain ⟨lo, hi'⟩ := fz
      simp only [World.frozen?, hg, Bool.and_eq_false_iff, decide_eq_false_iff_not]
      simp only at hfz
      omega
    have hst : (store ((⟨g, o, none⟩ : Addr).add i) v).run P w = .ok () (w.setRow g (cur.setIfInBounds (o + i) v)) := by
      rw [hadd, run_store P w _ v _ (h1 v (by simp)), hcell]
      simp [hfro, setCell_eq_setRow w g (o + i) cur t fz v hg]
    have ih := free_store P g o t fz rest (i + 1) (cur.setIfInBounds (o + i) v) (w.setRow g (cur.setIfInBounds (o + i) v)) (setRow_heap w g cur _ t _ hg) (by simpa using hfz) (by simp; omega) (fun x hx => h1 x (by simp [hx]))
    simp only [storeCells, Sem.run_bind, hst, Result.andThen_ok, ih, setRow_setRow]
    congr 3
    have e := list_seg_step cur.toList (o + i) v rest (by simp; omega)
    simpa [Array.toList_setIfInBounds, Nat.add_assoc] using e
section
variable {w : World} {base : Nat} {v : Value} {L : List Int}
theorem u8_one (R : List Int) : ∀ u ∈ R.map (Value.int .u8), u.oneCell' = true := fun u hu => by
  obtain ⟨x, _, rfl⟩ := List.mem_map.1 hu
  rfl
theorem Fresh.cells (h : Fresh w base v L) : ∃ g cap, v = .slice (some ⟨g, 0, none⟩) L.length cap ∧ ∀ j u, (L.map (Value.int .u8))[j]? = some u → w.cell? ((⟨g, 0, none⟩ : Addr).add j) = some u := by
  obtain ⟨g, cap, cur, fz, rfl, _, hg, _, _, _, _, ht⟩ := h
  refine ⟨g, cap, rfl, fun j u hu => ?_⟩
  have hadd : (⟨g, 0, none⟩ : Addr).add j = ⟨g, j, none⟩ := by unfold Addr.add; split <;> simp_all
  rw [← ht, List.getElem?_take] at hu
  split at hu
  · rw [hadd, cell_of_row w g j cur 5 fz hg]
    simpa using hu
  · cases hu
/-- It is read. -/
theorem Fresh.rd (h : Fresh w base v L) (hL : ∀ x ∈ L, 0 ≤ x ∧ x ≤ 255) : ∃ q c, v = .slice q L.length c ∧ Rd w.heap.size w q c L := by
  obtain ⟨g, cap, cur, fz, rfl, hb, hg, hfz, hlc, hcm, hcs, ht⟩ := h
  have hc := (Fresh.cells (w := w) (base := base) (L := L) ⟨g, cap, cur, fz, rfl, hb, hg, hfz, hlc, hcm, hcs, ht⟩)
  obtain ⟨g', cap', e, hc⟩ := hc
  cases e
  refine ⟨_, _, rfl, hlc, hL, fun j hj => ⟨_, rfl, (Array.getElem?_eq_some_iff.1 hg).1, ?_⟩⟩
  exact hc j _ (by rw [List.getElem?_map, List.getElem?_eq_getElem hj, List.getD_eq_getElem?_getD, List.getElem?_eq_getElem hj]; rfl)
/-- In room, or in a new row. -/
theorem Fresh.grow {R : List Int} {ops : Array Oper} {rest : List Oper} {o : Oper} {a : Act} {Q : Exit → Act → World → Prop} {args : Array Operand} {ats : Array TypeId} {y : Value} (h : Fresh w base v L) (hbase : base ≤ w.heap.size) (hlen : L.length + R.length ≤ 1000000)
    (hgd : o.guard = none) (ho : o.op = .call { callee := .builtin .append, args := args, argTypes := ats }) (hargs : args.toList.map a.eval = [v, y])
    (hroom : ∀ g cap cur fz, v = .slice (some ⟨g, 0, none⟩) L.length cap → w.heap[g]? = some (.cells cur 5 fz) → (fz.2 = 0 ∨ cur.size ≤ fz.1) → cur.size = cap → L.length + R.length ≤ cap →
      (Builtin.append_ ats o.type #[v, y]).run Tryz.prog w = .ok (.slice (some ⟨g, 0, none⟩) (L.length + R.length) cap) (w.setRow g (cur.toList.take L.length ++ R.map (Value.int .u8) ++ cur.toList.drop (L.length + R.length)).toArray))
    (hnew : ∀ g cap, v = .slice (some ⟨g, 0, none⟩) L.length cap → cap < L.length + R.length → (∀ j u, (L.map (Value.int .u8))[j]? = some u → w.cell? ((⟨g, 0, none⟩ : Addr).add j) = some u) →
      (Builtin.append_ ats o.type #[v, y]).run Tryz.prog w = .ok (.slice (some ⟨w.heap.size, 0, none⟩) (L.length + R.length) (grownCap w (L.length + R.length) cap 5)) (w.drew.alloc (.cells ((L.map (Value.int .u8)).toArray ++ (R.map (Value.int .u8)).toArray ++ Builtin.zeroCells (Value.int .u8 0).cells (grownCap w (L.length + R.length) cap 5 - (L.length + R.length))) 5)))
    (hk : ∀ v' w', Fresh w' base v' (L ++ R) → Below base w w' → wpList Tryz.prog ops Q rest (a.put o.dst v') w') : wpList Tryz.prog ops Q (o :: rest) a w := by
  refine wpList_plain hgd fun K hK => ?_
  obtain ⟨g, cap, cur, fz, hv, hb, hg, hfz, hlc, hcm, hcs, ht⟩ := h
  have hgs := (Array.getElem?_eq_some_iff.1 hg).1
  by_cases hr : L.length + R.length ≤ cap
  · have hrun := hroom g cap cur fz hv hg hfz hcs hr
    unfold Oper.wp execOp
    simp only [ho, resolve, invoke, builtin, Sem.run_bind, Sem.run_pure, Result.andThen_ok]
    rw [show args.map a.eval = #[v, y] from by rw [← Array.toList_inj]; simpa using hargs, hrun]
    refine hK _ _ (hk _ _ ⟨g, cap, _, fz, by rw [List.length_append], hb, setRow_heap w g cur _ 5 _ hg, ?_, by rw [List.length_append]; exact hr, hcm, ?_, ?_⟩ ⟨rfl, rfl, rfl, by simp, fun k hk' => setRow_other w g k _ (by omega)⟩)
    · rcases hfz with h | h
      · exact .inl h
      · right
        simp only [List.size_toArray, List.length_append, List.length_take, List.length_drop, Array.length_toList, List.length_map]
        omega
    · simp only [List.size_toArray, List.length_append, List.length_take, List.length_drop, Array.length_toList, List.length_map]
      omega
    · rw [ht, ← List.map_append]
      have : (L ++ R).length = ((L ++ R).map (Value.int .u8)).length := by simp
      rw [this]
      exact List.take_left
  · obtain ⟨g', cap', e, hc⟩ := Fresh.cells (w := w) (base := base) (L := L) ⟨g, cap, cur, fz, hv, hb, hg, hfz, hlc, hcm, hcs, ht⟩
    have hge := grownCap_ge w (L.length + R.length) cap 5
    have hcm2 : grownCap w (L.length + R.length) cap 5 ≤ maxLen := grownCap_le_maxLen w (L.length + R.length) cap 5 (by unfold maxLen; omega)
    have hrun := hnew g cap hv (by omega) (by rw [hv] at e; cases e; exact hc)
    unfold Oper.wp execOp
    simp only [ho, resolve, invoke, builtin, Sem.run_bind, Sem.run_pure, Result.andThen_ok]
    rw [show args.map a.eval = #[v, y] from by rw [← Array.toList_inj]; simpa using hargs, hrun]
    refine hK _ _ (hk _ _ ⟨w.heap.size, _, _, (0, 0), by rw [List.length_append], hbase, heap_alloc_new w.drew _, .inl rfl, by rw [List.length_append]; exact hge, hcm2, ?_, ?_⟩ ⟨rfl, rfl, rfl, by simp, fun k hk' => Below.heap_alloc w.drew _ k (by show k < w.heap.size; omega)⟩)
    · have hz1 : (Value.int IntKind.u8 0).cells.size = 1 := rfl
      simp only [Array.size_append, List.size_toArray, size_zeroCells, hz1, List.length_map]
      omega
    · simp only [Array.toList_append, List.append_assoc]
      rw [← List.append_assoc, ← List.map_append]
      have : (L ++ R).length = ((L ++ R).map (Value.int .u8)).length := by simp
      rw [this]
      exact List.take_left
/-- A text is appended. -/
theorem Fresh.text {ops : Array Oper} {rest : List Oper} {o : Oper} {a : Act} {Q : Exit → Act → World → Prop} (h : Fresh w base v L) (hbase : base ≤ w.heap.size) (s : ByteArray) (hlen : L.length + s.size ≤ 1000000)
    (hgd : o.guard = none) (sl x : Operand) (ho : o.op = .call { callee := .builtin .append, args := #[sl, x], argTypes := #[27, 9] }) (hs : a.eval sl = v) (hx : a.eval x = .string s)
    (hk : ∀ v' w', Fresh w' base v' (L ++ ints s) → Below base w w' → wpList Tryz.prog ops Q rest (a.put o.dst v') w') : wpList Tryz.prog ops Q (o :: rest) a w := by
  obtain ⟨i0, hi, hz0, hz1, hz2⟩ := info_parts Tryz.info5
  refine h.grow (R := ints s) (y := .string s) hbase (by rw [ints_length]; exact hlen) hgd ho (by simp [hs, hx]) ?_ ?_ hk
  · intro g cap cur fz hv hg hfz hcs hr
    rw [ints_length] at hr ⊢
    subst hv
    have hf := Lib.run_firstCells_string (P := Tryz.prog) w 1 s
    have hst := free_store Tryz.prog g L.length 5 fz (Lib.strCells s) 0 cur w hg hfz (by rw [Lib.strCells_length]; omega) (Lib.strCells_oneCell s)
    simp only [Nat.add_zero, Lib.strCells_length] at hst
    rw [← strCells_ints]
    simp [Builtin.append_, run_underlying Tryz.underlying27, run_underlying Tryz.underlying9, sizeOf, typeInfo, hi, hz1, Builtin.lenOf, hr, hf, Addr.add_lit, hst]
  · intro g cap hv hr hc
    rw [ints_length] at hr ⊢
    subst hv
    rw [← strCells_ints]
    exact Lib.run_append_grow_string (P := Tryz.prog) w 27 9 o.type 5 i0 (.int .u8 0) Tryz.underlying27 Tryz.underlying9 hi hz0 ⟨g, 0, none⟩ L.length cap (L.map (Value.int .u8)) (by rw [hz1]; simp) hc s (by omega) (by omega) (by rw [hz2]; exact growslice_fits (by omega) (by omega))
/-- Bytes that are read are appended. -/
theorem Fresh.bytes {ops : Array Oper} {rest : List Oper} {o : Oper} {a : Act} {Q : Exit → Act → World → Prop} (h : Fresh w base v L) (hbase : base ≤ w.heap.size) {B : Nat} {q : Option Addr} {cq : Nat} {R : List Int} (hrd : Rd B w q cq R) (hnone : q = none → cq = 0) (hlen : L.length + R.length ≤ 1000000)
    (hgd : o.guard = none) (sl x : Operand) (ho : o.op = .call { callee := .builtin .append, args := #[sl, x], argTypes := #[27, 27] }) (hs : a.eval sl = v) (hx : a.eval x = .slice q R.length cq)
    (hk : ∀ v' w', Fresh w' base v' (L ++ R) → Below base w w' → wpList Tryz.prog ops Q rest (a.put o.dst v') w') : wpList Tryz.prog ops Q (o :: rest) a w := by
  obtain ⟨i0, hi, hz0, hz1, hz2⟩ := info_parts Tryz.info5
  cases q with
  | none =>
    obtain rfl := hnone rfl
    obtain rfl : R = [] := by
      cases R with
      | nil => rfl
      | cons y r => obtain ⟨a, ha, _⟩ := hrd.2.2 0 (by simp); cases ha
    refine wpList_plain hgd fun K hK => ?_
    have hh := h
    obtain ⟨g, cap, cur, fz, hv, hb, hg, hfz, hlc, hcm, hcs, ht⟩ := h
    have hrun : (Builtin.append_ #[27, 27] o.type #[v, .slice none 0 0]).run Tryz.prog w = .ok v w := by
      rw [hv]
      simp [Builtin.append_, run_underlying Tryz.underlying27, sizeOf, typeInfo, hi, Builtin.lenOf, hlc, Builtin.firstCells, storeCells]
    unfold Oper.wp
    simp [execOp, ho, resolve, invoke, builtin, hs, hx, hrun, Result.andThen]
    exact hK _ _ (hk v w (by rw [List.append_nil]; exact hh) (Below.refl _ _))
  | some ad =>
    have hall : ∀ j u, (R.map (Value.int .u8))[j]? = some u → w.cell? (ad.add j) = some u := fun j u hu => by
      rw [List.getElem?_map] at hu
      cases hj : R[j]? with
      | none => rw [hj] at hu; cases hu
      | some x =>
        rw [hj] at hu
        cases hu
        have hlt := (List.getElem?_eq_some_iff.1 hj).1
        obtain ⟨a', ha, _, hc⟩ := hrd.2.2 j hlt
        cases ha
        rw [hc, List.getD_eq_getElem?_getD, hj]
        rfl
    refine h.grow (R := R) (y := .slice (some ad) R.length cq) hbase hlen hgd ho (by simp [hs, hx]) ?_ ?_ hk
    · intro g cap cur fz hv hg hfz hcs hr
      subst hv
      have hf := run_firstCells_some (P := Tryz.prog) w i0.size R.length ad R.length cq (R.map (Value.int .u8)) (by rw [hz1]; simp) hall
      have hst := free_store Tryz.prog g L.length 5 fz (R.map (Value.int .u8)) 0 cur w hg hfz (by simp; omega) (u8_one R)
      simp only [Nat.add_zero, List.length_map] at hst
      rw [hz1] at hf
      simp [Builtin.append_, run_underlying Tryz.underlying27, sizeOf, typeInfo, hi, hz1, Builtin.lenOf, hr, hf, Addr.add_lit, hst]
    · intro g cap hv hr hc
      subst hv
      exact run_append_grow (P := Tryz.prog) w 27 o.type 5 i0 (.int .u8 0) Tryz.underlying27 hi hz0 ⟨g, 0, none⟩ L.length cap (L.map (Value.int .u8)) (by rw [hz1]; simp) hc ad R.length cq (R.map (Value.int .u8)) (by rw [hz1]; simp) hall (by omega) (by omega) (by rw [hz2]; exact growslice_fits (by omega) (by omega))
end
/-- A text's bytes, in a row of their own. -/
theorem free_text (w : World) (s : ByteArray) (hs : s.size ≤ 1000000) : ∃ v w', (convert 9 27 (.string s)).run Tryz.prog w = .ok v w' ∧ Fresh w' w.heap.size v (ints s) ∧ Below w.heap.size w w' := by
  refine ⟨_, _, Lib.run_convert_string_bytes (P := Tryz.prog) w 9 27 5 s Tryz.underlying9 Tryz.underlying27 Tryz.underlying5, ?_, ?_⟩
  · have hge := grownCap_ge w s.size 0 5
    have hcz : (Lib.bytesCells w 5 s).size = grownCap w s.size 0 5 := by
      unfold Lib.bytesCells
      simp
      have : s.data.size = s.size := rfl
      omega
    refine ⟨w.heap.size, _, _, _, by rw [ints_length], Nat.le_refl _, Lib.bytesWorld_at_new w 5 s, .inr (Nat.le_refl _), by rw [ints_length]; exact hge, grownCap_le_maxLen w s.size 0 5 (by unfold maxLen; omega), hcz, ?_⟩
    rw [ints_length]
    unfold Lib.bytesCells
    simp only [Array.toList_append, Array.toList_map]
    have e : s.size = (s.data.toList.map fun b => Value.int .u8 (b.toNat : Int)).length := by simp
    rw [e, List.take_left, ints, List.map_map]
    rfl
  · exact ⟨rfl, rfl, rfl, by rw [Lib.bytesWorld_size]; omega, fun k hk => Lib.bytesWorld_at_old w 5 s k hk⟩
end Go.Proofs.YtnmhpejnjaeecaaGreatDoor
namespace Go.Proofs.YtnmhpejnjaeecaaGreatDoor
open Go.RowKit

/-- What the document's Encode returns. -/
def rencTold (w' : World) (j : J) (x : Ending) : Prop :=
  (goodJ 12 j = false → x = .returned (.tuple #[.slice none 0 0, .int .i64 1])) ∧
  (goodJ 12 j = true → 16384 < (enc' (ord j)).length → x = .returned (.tuple #[.slice none 0 0, .int .i64 13])) ∧
  (goodJ 12 j = true → (enc' (ord j)).length ≤ 16384 → ∃ q c, x = .returned (.tuple #[.slice q (enc' (ord j)).length c, .int .i64 0]) ∧ Rd w'.heap.size w' q c (enc' (ord j)))
set_option maxRecDepth 100000 in
set_option maxHeartbeats 8000000 in
theorem rEncode_any {w : World} {O : Nat → Prop} {j : J} {k i : Int} {t : ByteArray} {pk pl : Option Addr} {nk ck nl cl : Nat} (hO : ∀ x, O x → x < w.heap.size) (hsm : smallJ 12 j = true) (hcnt : cntJ 12 j ≤ 2000)
    (hj : isJ O w j [.int .i64 k, .int .i64 i, .string t, .slice pk nk ck, .slice pl nl cl]) :
    Calls Tryz.prog 6 #[.agg #[.int .i64 k, .int .i64 i, .string t, .slice pk nk ck, .slice pl nl cl]] w fun x w' => rencTold w' j x ∧ Below w.heap.size w w' := by
  have hsz := small_sz 12 j hsm
  obtain ⟨wB, hwB⟩ : ∃ wB, wB = w.alloc (.cells #[.int .i64 k, .int .i64 i, .string t, .slice pk nk ck, .slice pl nl cl] 25) := ⟨_, rfl⟩
  have hbB : Below w.heap.size w wB := by rw [hwB]; exact (Below.refl _ _).alloc (Nat.le_refl _) _
  have hA : wB.heap[w.heap.size]? = some (.cells #[.int .i64 k, .int .i64 i, .string t, .slice pk nk ck, .slice pl nl cl] 25 (0, 0)) := by rw [hwB]; exact heap_alloc_new _ _
  have hsA : w.heap.size < wB.heap.size := (Array.getElem?_eq_some_iff.1 hA).1
  have hOB : ∀ x, O x → x < wB.heap.size := fun x hx => Nat.lt_of_lt_of_le (hO x hx) hbB.size
  have hjB := hj.carry (O' := O) (w' := wB) fun x hx => ⟨hx, hbB.block x (hO x hx)⟩
  have hG := rGood_any hOB hsz hjB
  rw [hwB] at hG
  cases hg : goodJ 12 j with
  | false =>
    rw [hg] at hG
    go_enter Tryz.func6, Tryz.ntmps6
    go_wp2_with (go_at_call 8; refine hG.mono ?_; rintro x w2 ⟨rfl, hb2⟩)
    rw [← hwB] at hb2
    go_ret2
    exact ⟨⟨fun _ => rfl, fun h => (by rw [hg] at h; cases h), fun h => (by rw [hg] at h; cases h)⟩, below_in hbB hb2⟩
  | true =>
    have HG : Hid (goodJ 12 j = true) := hg
    rw [hg] at hG
    have HLB : Hid ((enc' (ord j)).length ≤ 6000000000) := by
      have := enc_len 12 j hg hsm
      show _ ≤ _
      omega
    clear hg
    obtain ⟨S, hS⟩ : ∃ S, strOfNums (enc' (ord j)) = S := ⟨_, rfl⟩
    have HS : Hid (strOfNums (enc' (ord j)) = S) := hS
    have hSz : S.size = (enc' (ord j)).length := by rw [← hS, str_size]
    clear hS
    by_cases hlong : 16384 < (enc' (ord j)).length
    · have HL : Hid (16384 < (enc' (ord j)).length) := hlong
      have hzi : (16384 : Int) < (S.size : Int) := by omega
      clear hlong hSz
      go_enter Tryz.func6, Tryz.ntmps6
      go_wp2_with (first
        | (go_at_call 8; refine hG.mono ?_; rintro x w2 ⟨rfl, hb2⟩
           rw [← hwB] at hb2
           have hx2 := (hb2.block w.heap.size hsA).trans hA
           have c0 := five_c0 hx2; have c1 := five_c1 hx2; have c2 := five_c2 hx2; have c3 := five_c3 hx2; have c4 := five_c4 hx2
           have hRO := rords 12 w2 O j k i t pk pl nk ck nl cl (fun x hx => Nat.lt_of_lt_of_le (hOB x hx) hb2.size) HG.out hsz (hjB.carry fun x hx => ⟨hx, hb2.block x (hOB x hx)⟩))
        | (go_at_call 18; refine hRO.mono ?_; rintro x w3 ⟨⟨kr, ir, tr, pr, nr, cr, qr, mr, dr, rfl, hjr⟩, hb3⟩
           clear hRO
           have hX := rtexts 12 w3 (fun b => b < w3.heap.size) (ord j) kr ir tr pr qr nr cr mr dr (fun _ h => h) (fit_ord HG.out hsz) (by have := HLB.out; omega) (hjr.carry fun b hb => ⟨hb.elim (fun h => Nat.lt_of_lt_of_le (hOB b h) (Nat.le_trans hb2.size hb3.size)) (fun h => h.2), rfl⟩)
           rw [HS.out] at hX)
        | (go_at_call 17; refine hX.mono ?_; rintro x w4 ⟨rfl, hb4⟩
           clear hX))
      go_ret2
      exact ⟨⟨fun h => (by rw [HG.out] at h; cases h), fun _ _ => rfl, fun _ h => absurd HL.out (by omega)⟩, below_in hbB (below_in hb2 (below_in hb3 hb4))⟩
    · have HL : Hid ((enc' (ord j)).length ≤ 16384) := by show _ ≤ _; omega
      have hzi : ¬ (16384 : Int) < (S.size : Int) := by omega
      have HSz : Hid (S.size ≤ 16384) := by show _ ≤ _; omega
      clear hlong hSz
      go_enter Tryz.func6, Tryz.ntmps6
      go_wp2_with (first
        | (go_at_call 8; refine hG.mono ?_; rintro x w2 ⟨rfl, hb2⟩
           rw [← hwB] at hb2
           have hx2 := (hb2.block w.heap.size hsA).trans hA
           have c0 := five_c0 hx2; have c1 := five_c1 hx2; have c2 := five_c2 hx2; have c3 := five_c3 hx2; have c4 := five_c4 hx2
           have hRO := rords 12 w2 O j k i t pk pl nk ck nl cl (fun x hx => Nat.lt_of_lt_of_le (hOB x hx) hb2.size) HG.out hsz (hjB.carry fun x hx => ⟨hx, hb2.block x (hOB x hx)⟩))
        | (go_at_call 18; refine hRO.mono ?_; rintro x w3 ⟨⟨kr, ir, tr, pr, nr, cr, qr, mr, dr, rfl, hjr⟩, hb3⟩
           clear hRO
           have hX := rtexts 12 w3 (fun b => b < w3.heap.size) (ord j) kr ir tr pr qr nr cr mr dr (fun _ h => h) (fit_ord HG.out hsz) (by have := HLB.out; omega) (hjr.carry fun b hb => ⟨hb.elim (fun h => Nat.lt_of_lt_of_le (hOB b h) (Nat.le_trans hb2.size hb3.size)) (fun h => h.2), rfl⟩)
           rw [HS.out] at hX)
        | (go_at_call 17; refine hX.mono ?_; rintro x w4 ⟨rfl, hb4⟩
           clear hX
           obtain ⟨v, w5, hcv, hf, hb5⟩ := free_text w4 S (by have := HSz.out; omega)
           rw [← HS.out, ints_str _ (enc_bd 12 (ord j) (good_ord 12 j HG.out))] at hf
           obtain ⟨q5, c5, rfl, hrd5⟩ := hf.rd (enc_bd 12 (ord j) (good_ord 12 j HG.out))
           clear hf))
      go_ret2
      exact ⟨⟨fun h => (by rw [HG.out] at h; cases h), fun _ h => absurd HL.out (by omega), fun _ _ => ⟨q5, c5, rfl, hrd5⟩⟩, below_in hbB (below_in hb2 (below_in hb3 (below_in hb4 hb5)))⟩
end Go.Proofs.YtnmhpejnjaeecaaGreatDoor
namespace Go.Proofs.YtnmhpejnjaeecaaGreatDoor
open Go.RowKit

theorem tab_at5 {w w2 : World} (hT : Tab w.heap.size w) (hb : Below w.heap.size w w2) : Tab w2.heap.size w2 := fun w' h' => hT w' (below_in hb h')
theorem isJ_on5 {w w2 : World} {j : J} {cs : List Value} (h : isJ (fun b => b < w.heap.size) w j cs) (hb : Below w.heap.size w w2) : isJ (fun b => b < w2.heap.size) w2 j cs :=
  h.carry fun b hb' => ⟨Nat.lt_of_lt_of_le hb' hb.size, hb.block b hb'⟩
/-- The bytes and the error of a value. -/
def bytesOf (j : J) : List Int := if goodJ 12 j = true then (if (enc' (ord j)).length ≤ 16384 then enc' (ord j) else []) else []
def errOf (j : J) : Int := if goodJ 12 j = true then (if (enc' (ord j)).length ≤ 16384 then 0 else 13) else 1
theorem rd_nil (w : World) : Rd w.heap.size w none 0 [] := ⟨Nat.le_refl _, fun x hx => (by cases hx), fun j hj => absurd hj (by simp)⟩
theorem enc_u {w w' : World} {j : J} {x : Ending} (h : encTold w w' j x) : (∃ p n c, x = .returned (.tuple #[.slice p n c, .int .i64 (errOf j)]) ∧ n = (bytesOf j).length ∧ Rd w'.heap.size w' p c (bytesOf j)) ∧ Below w.heap.size w w' := by
  obtain ⟨h1, h2, h3, hb⟩ := h
  refine ⟨?_, hb⟩
  unfold errOf bytesOf
  cases hg : goodJ 12 j with
  | false =>
    rw [if_neg (by decide), if_neg (by decide)]
    exact ⟨none, 0, 0, h1 hg, rfl, rd_nil _⟩
  | true =>
    rw [if_pos rfl, if_pos rfl]
    by_cases hl : (enc' (ord j)).length ≤ 16384
    · rw [if_pos hl, if_pos hl]
      obtain ⟨v, hx, hown⟩ := h3 hg hl
      obtain ⟨p, c, rfl, hrd⟩ := enc_rd hg hown
      exact ⟨p, _, c, hx, rfl, hrd⟩
    · rw [if_neg hl, if_neg hl]
      exact ⟨none, 0, 0, h2 hg (by omega), rfl, rd_nil _⟩
theorem renc_u {w w' : World} {j : J} {x : Ending} (h : rencTold w' j x ∧ Below w.heap.size w w') : (∃ p n c, x = .returned (.tuple #[.slice p n c, .int .i64 (errOf j)]) ∧ n = (bytesOf j).length ∧ Rd w'.heap.size w' p c (bytesOf j)) ∧ Below w.heap.size w w' := by
  obtain ⟨⟨h1, h2, h3⟩, hb⟩ := h
  refine ⟨?_, hb⟩
  unfold errOf bytesOf
  cases hg : goodJ 12 j with
  | false =>
    rw [if_neg (by decide), if_neg (by decide)]
    exact ⟨none, 0, 0, h1 hg, rfl, rd_nil _⟩
  | true =>
    rw [if_pos rfl, if_pos rfl]
    by_cases hl : (enc' (ord j)).length ≤ 16384
    · rw [if_pos hl, if_pos hl]
      obtain ⟨p, c, hx, hrd⟩ := h3 hg hl
      exact ⟨p, _, c, hx, rfl, hrd⟩
    · rw [if_neg hl, if_neg hl]
      exact ⟨none, 0, 0, h2 hg (by omega), rfl, rd_nil _⟩
theorem rd_text5 {W : World} {w2 : World} {p : Option Addr} {n c : Nat} {rs : List Int} (hn : n = rs.length) (h : Rd w2.heap.size w2 p c rs) (hb : Below w2.heap.size w2 W) : (convert 27 9 (.slice p n c)).run Tryz.prog W = .ok (.string (strOfNums rs)) W := by
  rw [hn]
  exact rd_string (h.carry hb)
theorem sz_ordL {d : Nat} (ih : ∀ j, goodJ d j = true → szJ d j = true → szJ d (ord j) = true) : ∀ l : List J, l.all (goodJ d) = true → l.all (szJ d) = true → (ordL l).all (szJ d) = true
  | [], _, _ => rfl
  | j :: r, hg, hs => by
    rw [List.all_cons, Bool.and_eq_true] at hg hs
    rw [ordL, List.all_cons, ih j hg.1 hs.1, sz_ordL ih r hg.2 hs.2]
    rfl
theorem sz_ord : ∀ (d : Nat) (j : J), goodJ d j = true → szJ d j = true → szJ d (ord j) = true
  | 0, j, _, _ => by unfold szJ; rfl
  | d + 1, .mk k i t ks l, hg, hs => by
    obtain ⟨hgl, hg5, hgn⟩ := good_sub hg
    unfold szJ at hs
    simp only [Bool.and_eq_true, decide_eq_true_eq] at hs
    obtain ⟨hts, hkn, hks, hll, hls⟩ := hs
    have hol := sz_ordL (sz_ord d) l hgl hls
    by_cases h5 : k = 5
    · subst h5
      have hlen : ks.length = (ordL l).length := by rw [ordL_length]; exact (hg5 rfl).1
      have p1 := sorted_keys hlen
      have p2 := sorted_vals hlen
      rw [ord, if_pos rfl]
      unfold mapOf szJ
      simp only [Bool.and_eq_true, decide_eq_true_eq]
      refine ⟨by decide, by rw [p1.length_eq]; exact hkn, ?_, by rw [p2.length_eq, ordL_length]; exact hll, ?_⟩
      · rw [List.all_eq_true] at hks ⊢
        exact fun x hx => hks x (p1.subset hx)
      · rw [List.all_eq_true] at hol ⊢
        exact fun x hx => hol x (p2.subset hx)
    · rw [ord, if_neg h5]
      unfold szJ
      simp only [Bool.and_eq_true, decide_eq_true_eq]
      exact ⟨hts, by simp, by rfl, by rw [ordL_length]; exact hll, hol⟩
theorem ordT_R (j : J) : ordR j = ordT j := rfl
theorem ordT_ok {j : J} (hs : szJ 12 j = true) : goodJ 12 (ordT j) = true ∧ szJ 12 (ordT j) = true := by
  unfold ordT
  split
  · rename_i hg
    exact ⟨good_ord 12 j hg, sz_ord 12 j hg hs⟩
  · exact ⟨by kernel_rfl, by kernel_rfl⟩
theorem same_true5 {w : World} {x : J} {k i : Int} {t : ByteArray} {pk pl : Option Addr} {nk ck nl cl : Nat} {k' i' : Int} {t' : ByteArray} {pk' pl' : Option Addr} {nk' ck' nl' cl' : Nat} (hx : goodJ 12 x = true ∧ szJ 12 x = true)
    (hj : isJ (fun b => b < w.heap.size) w x [.int .i64 k, .int .i64 i, .string t, .slice pk nk ck, .slice pl nl cl]) (hj' : isJ (fun b => b < w.heap.size) w x [.int .i64 k', .int .i64 i', .string t', .slice pk' nk' ck', .slice pl' nl' cl']) :
    Calls Tryz.prog 9 #[.agg #[.int .i64 k, .int .i64 i, .string t, .slice pk nk ck, .slice pl nl cl], .agg #[.int .i64 k', .int .i64 i', .string t', .slice pk' nk' ck', .slice pl' nl' cl']] w fun r w' => r = .returned (.bool true) ∧ Below w.heap.size w w' :=
  (sames 12 w (fun b => b < w.heap.size) x x k i t pk pl nk ck nl cl k' i' t' pk' pl' nk' ck' nl' cl' (fun _ h => h) hx.1 hx.2 hj hj').mono fun r w' ⟨⟨b, hr, hb⟩, h2⟩ => ⟨by rw [hr, hb.2 rfl], h2⟩
set_option maxRecDepth 100000 in
set_option maxHeartbeats 16000000 in
theorem encodes_any {w : World} (hT : Tab w.heap.size w) {j : J} {k i : Int} {t : ByteArray} {pk pl : Option Addr} {nk ck nl cl : Nat} (hj : isJ (fun b => b < w.heap.size) w j [.int .i64 k, .int .i64 i, .string t, .slice pk nk ck, .slice pl nl cl]) :
    Calls Tryz.prog 3 #[.agg #[.int .i64 k, .int .i64 i, .string t, .slice pk nk ck, .slice pl nl cl]] w fun x w' => x = .returned (.bool true) ∧ Below w.heap.size w w' := by
  obtain ⟨wA, hwA⟩ : ∃ wA, wA = w.alloc (.cells #[.int .i64 k, .int .i64 i, .string t, .slice pk nk ck, .slice pl nl cl] 25) := ⟨_, rfl⟩
  have hbA : Below w.heap.size w wA := by rw [hwA]; exact (Below.refl _ _).alloc (Nat.le_refl _) _
  have hA : wA.heap[w.heap.size]? = some (.cells #[.int .i64 k, .int .i64 i, .string t, .slice pk nk ck, .slice pl nl cl] 25 (0, 0)) := by rw [hwA]; exact heap_alloc_new _ _
  have hsA : w.heap.size < wA.heap.size := (Array.getElem?_eq_some_iff.1 hA).1
  have HCA : Hid (∀ W : World, Below wA.heap.size wA W → ∀ n v, [Value.int .i64 k, .int .i64 i, .string t, .slice pk nk ck, .slice pl nl cl][n]? = some v → W.cell? ⟨w.heap.size, n, none⟩ = some v) := fun W hW n v hv =>
    (World.cell?_of_block (a := ⟨w.heap.size, n, none⟩) (hW.block w.heap.size hsA)).trans (cell_row (cur := [.int .i64 k, .int .i64 i, .string t, .slice pk nk ck, .slice pl nl cl]) hA n v hv)
  have HJA : Hid (isJ (fun b => b < wA.heap.size) wA j [.int .i64 k, .int .i64 i, .string t, .slice pk nk ck, .slice pl nl cl]) := isJ_on5 hj hbA
  have hF := fewC_any (fun _ h => h) HJA.out
  rw [hwA] at hF
  clear hj hA
  go_enter Tryz.func3, Tryz.ntmps3
  go_wp2_with (go_at_call 4; refine hF.mono ?_; rintro x w1 ⟨⟨b, rfl, hsz⟩, hb1⟩
               rw [← hwA] at hb1
               have c0 := HCA.out w1 hb1 0 _ rfl; have c1 := HCA.out w1 hb1 1 _ rfl; have c2 := HCA.out w1 hb1 2 _ rfl; have c3 := HCA.out w1 hb1 3 _ rfl; have c4 := HCA.out w1 hb1 4 _ rfl
               clear hF
               have hB1 := below_in hbA hb1
               rcases (show b = false ∨ b = true from by cases b <;> simp) with rfl | rfl
               rotate_left
               have HSM : Hid (smallJ 12 j = true) := small_less 12 30 j (by decide) (hsz rfl).1
               have HCN : Hid (cntJ 12 j ≤ 2000) := Nat.le_trans (cnt_less 12 30 j (by decide)) (hsz rfl).2
               have HSZ : Hid (szJ 12 j = true) := small_sz 12 j HSM.out
               clear hsz
               have hEn := encode_any (w := w1) (O := fun b => b < w1.heap.size) (fun _ h => h) HSZ.out (tab_at5 hT hB1) (fun h => fit_ord h HSZ.out) (isJ_on5 HJA.out hb1))
  rotate_left
  · go_ret
    exact ⟨rfl, hB1⟩
  go_wp2_with (first
    | (go_at_call 5; refine hEn.mono ?_; intro x w2 hx2; obtain ⟨⟨p1, n1, q1, rfl, m1, r1⟩, hb2⟩ := enc_u hx2
       have M1 : Hid (n1 = (bytesOf j).length) := m1
       clear hEn hx2 m1
       have hA2 := below_in hb1 hb2
       have d0 := HCA.out w2 hA2 0 _ rfl; have d1 := HCA.out w2 hA2 1 _ rfl; have d2 := HCA.out w2 hA2 2 _ rfl; have d3 := HCA.out w2 hA2 3 _ rfl; have d4 := HCA.out w2 hA2 4 _ rfl
       have hRE := rEncode_any (w := w2) (O := fun b => b < w2.heap.size) (fun _ h => h) HSM.out HCN.out (isJ_on5 HJA.out hA2))
    | (go_at_call 6; refine hRE.mono ?_; intro x w3 hx3; obtain ⟨⟨p2, n2, q2, rfl, m2, r2⟩, hb3⟩ := renc_u hx3
       have M2 : Hid (n2 = (bytesOf j).length) := m2
       clear hRE hx3 m2))
  have hA3 := below_in hA2 hb3
  have hB3 := below_in hbA hA3
  clear c0 c1 c2 c3 c4 d0 d1 d2 d3 d4
  have HM1 : Hid (∀ W : World, Below w3.heap.size w3 W → (convert 27 9 (.slice p1 n1 q1)).run Tryz.prog W = .ok (.string (strOfNums (bytesOf j))) W) := fun W hW => rd_text5 M1.out r1 (below_in hb3 hW)
  have HM2 : Hid (∀ W : World, Below w3.heap.size w3 W → (convert 27 9 (.slice p2 n2 q2)).run Tryz.prog W = .ok (.string (strOfNums (bytesOf j))) W) := fun W hW => rd_text5 M2.out r2 hW
  have HQA : Hid (∀ W : World, Below w3.heap.size w3 W → ∀ n v, [Value.int .i64 k, .int .i64 i, .string t, .slice pk nk ck, .slice pl nl cl][n]? = some v → W.cell? ⟨w.heap.size, n, none⟩ = some v) := fun W hW n v h => HCA.out W (below_in hA3 hW) n v h
  have HJZ : Hid (isJ (fun b => b < w3.heap.size) w3 j [.int .i64 k, .int .i64 i, .string t, .slice pk nk ck, .slice pl nl cl]) := isJ_on5 HJA.out hA3
  obtain ⟨SB, hSB⟩ : ∃ SB, strOfNums (bytesOf j) = SB := ⟨_, rfl⟩
  rw [hSB] at HM1 HM2
  obtain ⟨E, hE⟩ : ∃ E, errOf j = E := ⟨_, rfl⟩
  rw [hE]
  have hSE : (SB.toList == SB.toList) = true := by simp
  have hC0 : Below w3.heap.size w3 w3.drew := ⟨rfl, rfl, rfl, Nat.le_refl _, fun _ _ => rfl⟩
  have hG1 := good_any (w := w3.drew) (fun _ h => h) HSZ.out (isJ_on5 HJZ.out hC0)
  obtain ⟨G, hG⟩ : ∃ G, goodJ 12 j = G := ⟨_, rfl⟩
  have HGG : Hid (goodJ 12 j = G) := hG
  rw [hG] at hG1
  clear hE hSB hG M1 r1 M2 r2 hb1 hb2 hb3
  refine wp_region_in (by kernel_rfl) (fun W => Below w3.heap.size w3 W) ?_
  change wpIn _ _ _ _ _ _ _ _ (World.drew _)
  refine wpIn_take (i := 0) (d := (some 20)) (v := ?vqg0) (a' := ?aqg0) rfl rfl (by kernel_rfl) (by kernel_rfl) (by kernel_rfl) (fun _ _ _ h => h) (Or.inl ⟨by rfl, ?yqg0⟩) ?fqg0 ?_
  case yqg0 => (intro wq hq; have q0 := HQA.out wq hq 0 _ rfl; have q1 := HQA.out wq hq 1 _ rfl; have q2 := HQA.out wq hq 2 _ rfl; have q3 := HQA.out wq hq 3 _ rfl; have q4 := HQA.out wq hq 4 _ rfl; go_simp; first | done | with_reducible rfl)
  case fqg0 => (go_frame; rfl)
  refine wpIn_take (i := 2) (d := (some 22)) (v := ?vqg2) (a' := ?aqg2) rfl rfl (by kernel_rfl) (by kernel_rfl) (by kernel_rfl) (fun _ _ _ h => h) (Or.inl ⟨by rfl, ?yqg2⟩) ?fqg2 ?_
  case yqg2 => (intro wq hq; have q0 := HQA.out wq hq 0 _ rfl; have q1 := HQA.out wq hq 1 _ rfl; have q2 := HQA.out wq hq 2 _ rfl; have q3 := HQA.out wq hq 3 _ rfl; have q4 := HQA.out wq hq 4 _ rfl; go_simp; first | done | with_reducible rfl)
  case fqg2 => (go_frame; rfl)
  refine wpIn_do (i := 1) hC0 (by kernel_rfl) rfl (by rfl) ?_
  intro K hK
  go_simp
  go_wp2_with (go_at_call 7; refine hG1.mono ?_; rintro x w4 ⟨rfl, hb4⟩)
  have hC1 : Below w3.heap.size w3 w4 := below_cat hC0 hC0.size hb4
  have hG2 := rGood_any (w := w4) (fun _ h => h) HSZ.out (isJ_on5 HJZ.out hC1)
  rw [HGG.out] at hG2
  clear hC0 hG1 hb4
  refine wpIn_do (i := 3) hC1 (by kernel_rfl) rfl (by rfl) ?_
  intro K hK
  go_simp
  go_wp2_with (go_at_call 8; refine hG2.mono ?_; rintro x w5 ⟨rfl, hb5⟩)
  have hC2 : Below w3.heap.size w3 w5 := below_cat hC1 hC1.size hb5
  have hO1 := order_any (w := w5) (fun _ h => h) HSZ.out (isJ_on5 HJZ.out hC2)
  clear hC1 hG2 hb5
  refine wpIn_take (i := 4) (d := (some 24)) (v := ?vqg4) (a' := ?aqg4) rfl rfl (by kernel_rfl) (by kernel_rfl) (by kernel_rfl) (fun _ _ _ h => h) (Or.inl ⟨by rfl, ?yqg4⟩) ?fqg4 ?_
  case yqg4 => (intro wq hq; go_simp; first | done | with_reducible rfl)
  case fqg4 => (go_frame; rfl)
  refine wpIn_take (i := 5) (d := (some 25)) (v := ?vqg5) (a' := ?aqg5) rfl rfl (by kernel_rfl) (by kernel_rfl) (by kernel_rfl) (fun _ _ _ h => h) (Or.inl ⟨by rfl, ?yqg5⟩) ?fqg5 ?_
  case yqg5 => (intro wq hq; go_simp; first | done | with_reducible rfl)
  case fqg5 => (go_frame; rfl)
  refine wpIn_take (i := 6) (d := (some 26)) (v := ?vqg6) (a' := ?aqg6) rfl rfl (by kernel_rfl) (by kernel_rfl) (by kernel_rfl) (fun _ _ _ h => h) (Or.inl ⟨by rfl, ?yqg6⟩) ?fqg6 ?_
  case yqg6 => (intro wq hq; have q0 := HQA.out wq hq 0 _ rfl; have q1 := HQA.out wq hq 1 _ rfl; have q2 := HQA.out wq hq 2 _ rfl; have q3 := HQA.out wq hq 3 _ rfl; have q4 := HQA.out wq hq 4 _ rfl; go_simp; first | done | with_reducible rfl)
  case fqg6 => (go_frame; rfl)
  refine wpIn_take (i := 8) (d := (some 28)) (v := ?vqg8) (a' := ?aqg8) rfl rfl (by kernel_rfl) (by kernel_rfl) (by kernel_rfl) (fun _ _ _ h => h) (Or.inl ⟨by rfl, ?yqg8⟩) ?fqg8 ?_
  case yqg8 => (intro wq hq; have q0 := HQA.out wq hq 0 _ rfl; have q1 := HQA.out wq hq 1 _ rfl; have q2 := HQA.out wq hq 2 _ rfl; have q3 := HQA.out wq hq 3 _ rfl; have q4 := HQA.out wq hq 4 _ rfl; go_simp; first | done | with_reducible rfl)
  case fqg8 => (go_frame; rfl)
  refine wpIn_do (i := 7) hC2 (by kernel_rfl) rfl (by rfl) ?_
  intro K hK
  go_simp
  go_wp2_with (go_at_call 10; refine hO1.mono ?_; rintro x w6 ⟨⟨kr, ir, tr, pr, nr, cr, qr, mr, dr, rfl, hjr⟩, hb6⟩)
  have hC3 : Below w3.heap.size w3 w6 := below_cat hC2 hC2.size hb6
  have hO2 := rOrder_any (w := w6) (fun _ h => h) HSZ.out (isJ_on5 HJZ.out hC3)
  rw [ordT_R] at hO2
  clear hC2 hO1 hb6
  refine wpIn_do (i := 9) hC3 (by kernel_rfl) rfl (by rfl) ?_
  intro K hK
  go_simp
  go_wp2_with (go_at_call 11; refine hO2.mono ?_; rintro x w7 ⟨⟨ks, is, ts, ps, ns, cs, qs, ms, ds, rfl, hjs⟩, hb7⟩)
  have hC4 : Below w3.heap.size w3 w7 := below_cat hC3 hC3.size hb7
  have hS1 := same_true5 (ordT_ok HSZ.out) (isJ_on5 hjr hb7) hjs
  clear hC3 hO2 hb7 hjr hjs
  refine wpIn_do (i := 10) hC4 (by kernel_rfl) rfl (by rfl) ?_
  intro K hK
  go_simp
  go_wp2_with (go_at_call 9; refine hS1.mono ?_; rintro x w8 ⟨rfl, hb8⟩)
  have hC5 : Below w3.heap.size w3 w8 := below_cat hC4 hC4.size hb8
  have hAw := awake_any (tab_at5 hT (below_in hB3 hC5))
  clear hC4 hS1 hb8
  refine wpIn_take (i := 11) (d := (some 31)) (v := ?vqg11) (a' := ?aqg11) rfl rfl (by kernel_rfl) (by kernel_rfl) (by kernel_rfl) (fun _ _ _ h => h) (Or.inl ⟨by rfl, ?yqg11⟩) ?fqg11 ?_
  case yqg11 => (intro wq hq; go_simp; first | done | with_reducible rfl)
  case fqg11 => (go_frame; rfl)
  refine wpIn_take (i := 12) (d := (some 32)) (v := ?vqg12) (a' := ?aqg12) rfl rfl (by kernel_rfl) (by kernel_rfl) (by kernel_rfl) (fun _ _ _ h => h) (Or.inl ⟨by rfl, ?yqg12⟩) ?fqg12 ?_
  case yqg12 => (intro wq hq; go_simp; first | done | with_reducible rfl)
  case fqg12 => (go_frame; rfl)
  refine wpIn_take (i := 13) (d := (some 33)) (v := ?vqg13) (a' := ?aqg13) rfl rfl (by kernel_rfl) (by kernel_rfl) (by kernel_rfl) (fun _ _ _ h => h) (Or.inl ⟨by rfl, ?yqg13⟩) ?fqg13 ?_
  case yqg13 => (intro wq hq; go_simp; first | done | with_reducible rfl)
  case fqg13 => (go_frame; rfl)
  refine wpIn_take (i := 14) (d := (some 34)) (v := ?vqg14) (a' := ?aqg14) rfl rfl (by kernel_rfl) (by kernel_rfl) (by kernel_rfl) (fun _ _ _ h => h) (Or.inl ⟨by rfl, ?yqg14⟩) ?fqg14 ?_
  case yqg14 => (intro wq hq; have q0 := HM1.out wq hq; go_simp; first | done | with_reducible rfl)
  case fqg14 => (go_frame; rfl)
  refine wpIn_take (i := 15) (d := (some 35)) (v := ?vqg15) (a' := ?aqg15) rfl rfl (by kernel_rfl) (by kernel_rfl) (by kernel_rfl) (fun _ _ _ h => h) (Or.inl ⟨by rfl, ?yqg15⟩) ?fqg15 ?_
  case yqg15 => (intro wq hq; go_simp; first | done | with_reducible rfl)
  case fqg15 => (go_frame; rfl)
  refine wpIn_take (i := 16) (d := (some 36)) (v := ?vqg16) (a' := ?aqg16) rfl rfl (by kernel_rfl) (by kernel_rfl) (by kernel_rfl) (fun _ _ _ h => h) (Or.inl ⟨by rfl, ?yqg16⟩) ?fqg16 ?_
  case yqg16 => (intro wq hq; have q0 := HM2.out wq hq; go_simp; first | done | with_reducible rfl)
  case fqg16 => (go_frame; rfl)
  refine wpIn_take (i := 17) (d := (some 37)) (v := ?vqg17) (a' := ?aqg17) rfl rfl (by kernel_rfl) (by kernel_rfl) (by kernel_rfl) (fun _ _ _ h => h) (Or.inl ⟨by rfl, ?yqg17⟩) ?fqg17 ?_
  case yqg17 => (intro wq hq; go_simp; first | done | with_reducible rfl)
  case fqg17 => (go_frame; rfl)
  refine wpIn_take (i := 18) (d := (some 38)) (v := ?vqg18) (a' := ?aqg18) rfl rfl (by kernel_rfl) (by kernel_rfl) (by kernel_rfl) (fun _ _ _ h => h) (Or.inl ⟨by rfl, ?yqg18⟩) ?fqg18 ?_
  case yqg18 => (intro wq hq; go_simp; first | done | with_reducible rfl)
  case fqg18 => (go_frame; rfl)
  refine wpIn_take (i := 19) (d := (some 39)) (v := ?vqg19) (a' := ?aqg19) rfl rfl (by kernel_rfl) (by kernel_rfl) (by kernel_rfl) (fun _ _ _ h => h) (Or.inl ⟨by rfl, ?yqg19⟩) ?fqg19 ?_
  case yqg19 => (intro wq hq; go_simp; first | done | with_reducible rfl)
  case fqg19 => (go_frame; rfl)
  refine wpIn_take (i := 20) (d := (some 40)) (v := ?vqg20) (a' := ?aqg20) rfl rfl (by kernel_rfl) (by kernel_rfl) (by kernel_rfl) (fun _ _ _ h => h) (Or.inl ⟨by rfl, ?yqg20⟩) ?fqg20 ?_
  case yqg20 => (intro wq hq; go_simp; first | done | with_reducible rfl)
  case fqg20 => (go_frame; rfl)
  refine wpIn_take (i := 21) (d := (some 41)) (v := ?vqg21) (a' := ?aqg21) rfl rfl (by kernel_rfl) (by kernel_rfl) (by kernel_rfl) (fun _ _ _ h => h) (Or.inl ⟨by rfl, ?yqg21⟩) ?fqg21 ?_
  case yqg21 => (intro wq hq; go_simp; first | done | with_reducible rfl)
  case fqg21 => (go_frame; rfl)
  refine wpIn_take (i := 22) (d := (some 42)) (v := ?vqg22) (a' := ?aqg22) rfl rfl (by kernel_rfl) (by kernel_rfl) (by kernel_rfl) (fun _ _ _ h => h) (Or.inl ⟨by rfl, ?yqg22⟩) ?fqg22 ?_
  case yqg22 => (intro wq hq; go_simp; first | done | with_reducible rfl)
  case fqg22 => (go_frame; rfl)
  refine wpIn_take (i := 23) (d := (some 43)) (v := ?vqg23) (a' := ?aqg23) rfl rfl (by kernel_rfl) (by kernel_rfl) (by kernel_rfl) (fun _ _ _ h => h) (Or.inl ⟨by rfl, ?yqg23⟩) ?fqg23 ?_
  case yqg23 => (intro wq hq; go_simp; first | done | with_reducible rfl)
  case fqg23 => (go_frame; rfl)
  refine wpIn_take (i := 24) (d := (some 44)) (v := ?vqg24) (a' := ?aqg24) rfl rfl (by kernel_rfl) (by kernel_rfl) (by kernel_rfl) (fun _ _ _ h => h) (Or.inl ⟨by rfl, ?yqg24⟩) ?fqg24 ?_
  case yqg24 => (intro wq hq; go_simp; first | done | with_reducible rfl)
  case fqg24 => (go_frame; rfl)
  refine wpIn_do (i := 25) hC5 (by kernel_rfl) rfl (by rfl) ?_
  intro K hK
  go_simp
  go_wp2_with (go_at_call 12; refine hAw.mono ?_; rintro x w9 ⟨rfl, hb9⟩)
  have hC6 : Below w3.heap.size w3 w9 := below_cat hC5 hC5.size hb9
  clear hC5 hAw hb9
  refine wpIn_take (i := 26) (d := (some 46)) (v := ?vqg26) (a' := ?aqg26) rfl rfl (by kernel_rfl) (by kernel_rfl) (by kernel_rfl) (fun _ _ _ h => h) (Or.inl ⟨by rfl, ?yqg26⟩) ?fqg26 ?_
  case yqg26 => (intro wq hq; go_simp; first | done | with_reducible rfl)
  case fqg26 => (go_frame; rfl)
  refine wpIn_take (i := 27) (d := (some 2)) (v := ?vqg27) (a' := ?aqg27) rfl rfl (by kernel_rfl) (by kernel_rfl) (by kernel_rfl) (fun _ _ _ h => h) (Or.inl ⟨by rfl, ?yqg27⟩) ?fqg27 ?_
  case yqg27 => (intro wq hq; go_simp; first | done | with_reducible rfl)
  case fqg27 => (go_frame; rfl)
  refine wpIn_done hC6 (by kernel_rfl) ?_ _
  go_wp2
  go_ret
  exact ⟨rfl, below_in hB3 hC6⟩
end Go.Proofs.YtnmhpejnjaeecaaGreatDoor

/-
  Rows of marks, and the places of names.
-/
import Derived.Test.YtbjeaogblpjpeaaGRow
import Derived.OneCell
namespace Go.Proofs.Ytbjeaogblpjpeaa
open Go.RowKit Go.Maps

/-- Block b is a row of the marks L. -/
def Bk (w : World) (b : Nat) (L : List Bool) : Prop := w.heap[b]? = some (.cells (L.map Value.bool).toArray 4)
theorem Bk.same {w w' : World} {b : Nat} {L : List Bool} (h : Bk w b L) (hs : w'.heap[b]? = w.heap[b]?) : Bk w' b L := hs.trans h
theorem Bk.cell {w : World} {b : Nat} {L : List Bool} (h : Bk w b L) (j : Nat) (hj : j < L.length) : w.cell? ⟨b, j, none⟩ = some (.bool (L.getD j false)) :=
  cell_row (cur := L.map Value.bool) h j _ (by rw [List.getElem?_map, List.getElem?_eq_getElem hj, getD_in hj]; rfl)
theorem Bk.fz {w : World} {b : Nat} {L : List Bool} (h : Bk w b L) (j : Nat) : w.frozen? ⟨b, j, none⟩ = false := frozen_of_row w b j _ _ h
theorem Bk.set {w : World} {b : Nat} {L : List Bool} (h : Bk w b L) (j : Nat) : Bk (w.setCell ⟨b, j, none⟩ (.bool true)) b (L.set j true) := by
  unfold Bk
  rw [heap_setCell_same w b j _ _ _ h]
  congr 2
  simp
theorem Bk.rd {w : World} {b : Nat} {L : List Bool} (h : Bk w b L) : RdB (· = b) w (some ⟨b, 0, none⟩) L.length L :=
  ⟨Nat.le_refl _, fun _ => ⟨b, 0, rfl, rfl, fun j x hj => by
    rw [Nat.zero_add]
    exact cell_row (cur := L.map Value.bool) h j _ (by rw [List.getElem?_map, hj]; rfl)⟩⟩
theorem made_bools (n : Nat) : madeCells (Value.bool false).cells (n * 1) = ((List.replicate n false).map Value.bool).toArray := by
  rw [← Array.toList_inj]
  apply List.ext_getElem
  · simp [madeCells]
  · intro i h1 h2
    simp [madeCells, Value.cells]
    rw [Nat.mod_one]
    rfl
theorem Try.info4 : (Try.prog.info? 4).map (fun i => (i.zero, i.size, i.bytes)) = some (some (.bool false), 1, 1) := by kernel_rfl
theorem make_bools (W : World) (n : Nat) (hn : n ≤ 1000000) : (Instr.makeSlice 48 (.int .i64 (n : Int)) (.int .i64 (n : Int))).run Try.prog W = .ok (.slice (some ⟨W.heap.size, 0, none⟩) n n) (W.alloc (.cells ((List.replicate n false).map Value.bool).toArray 4)) := by
  obtain ⟨i0, hi, hz0, hz1, hz2⟩ := info_parts Try.info4
  have := run_makeSlice (P := Try.prog) W 48 4 i0 (.bool false) Try.underlying48 hi hz0 .i64 .i64 n n (by omega) (Int.le_refl _) (by rw [hz1]; simp; omega) (by rw [hz2]; omega) (by omega)
  rw [hz1] at this
  simp only [Int.toNat_natCast] at this
  rw [made_bools] at this
  exact this
theorem wpList_bools {W : World} {ops : Array Oper} {rest : List Oper} {o : Oper} {a : Act} {Q : Exit → Act → World → Prop} (hgd : o.guard = none) (x y : Operand) (ho : o.op = .makeSlice 48 x y) (n : Nat) (hn : n ≤ 1000000) (hx : a.eval x = .int .i64 (n : Int)) (hy : a.eval y = .int .i64 (n : Int))
    (h : ∀ W', W'.heap.size = W.heap.size + 1 → Below W.heap.size W W' → Bk W' W.heap.size (List.replicate n false) → wpList Try.prog ops Q rest (a.put o.dst (.slice (some ⟨W.heap.size, 0, none⟩) n n)) W') : wpList Try.prog ops Q (o :: rest) a W := by
  refine wpList_plain hgd fun K hK => ?_
  have hrun := make_bools W n hn
  unfold Oper.wp
  simp [execOp, ho, hx, hy, hrun, Result.andThen]
  refine hK _ _ ?_
  have := h (W.alloc (.cells ((List.replicate n false).map Value.bool).toArray 4)) (by simp) ((Below.refl _ _).alloc (Nat.le_refl _) _) (heap_alloc_new _ _)
  simpa using this
theorem rep_at (n j : Nat) : (List.replicate n false).getD j false = false := by
  rw [List.getD_eq_getElem?_getD, List.getElem?_replicate]
  split <;> rfl

set_option maxHeartbeats 1000000 in
theorem mark_any {O : Nat → Prop} (L : List Bool) (bk cb : Nat) (ns : List Nat) (p : Option Addr) (c : Nat) (w : World) (ho : Bk w bk L) (_hcb : L.length ≤ cb) (r : RdI O w p c (zs ns)) (hO : ¬ O bk) (hlt : ∀ x ∈ ns, x < L.length) (_hL : L.length ≤ 1000) (hn : ns.length ≤ 1000) (hOl : ns ≠ [] → ∀ k, O k → k < w.heap.size) :
    Calls Try.prog 39 #[.slice (some ⟨bk, 0, none⟩) L.length cb, .slice p (zs ns).length c] w fun e w' => e = .returned (.tuple #[]) ∧ Bk w' bk (setAll L ns) ∧ Keep (· = bk) w w' := by
  have HL : Hid (∀ x ∈ ns, x < L.length) := hlt
  have HO : Hid (ns ≠ [] → ∀ k, O k → k < w.heap.size) := hOl
  obtain ⟨n, hnn⟩ : ∃ n, (zs ns).length = n := ⟨_, rfl⟩
  have HN : Hid (ns.length = n) := by rw [← hnn, zs_len]; exact rfl
  have hn' : n ≤ 1000 := by rw [← HN.out]; exact hn
  have HNN : Hid ((zs ns).length = n) := hnn
  rw [hnn]
  obtain ⟨m, hmm⟩ : ∃ m, L.length = m := ⟨_, rfl⟩
  have HM : Hid (L.length = m) := hmm
  rw [hmm] at _hL _hcb ⊢
  clear hlt hOl hn hnn hmm
  go_enter Try.func39, Try.ntmps39
  go_wp2
  go_loopw [8] (fun i wr => ∃ k : Nat, k ≤ n ∧ i = .int .i64 k ∧ Bk wr bk (setAll L (ns.take k)) ∧ Keep (· = bk) w wr) (fun i _ => n - (intOf i).toNat)
  case atStart => exact ⟨0, Nat.zero_le _, rfl, ho, Keep.refl _ _⟩
  case round =>
    obtain ⟨k, hk, rfl, hb, hkp⟩ := hrel
    by_cases hlt : k < n
    · have hkn : k < ns.length := by rw [HN.out]; exact hlt
      have r' : RdI O wr p c (zs ns) := r.same (Same.of_keep hkp fun j hj => ⟨HO.out (by rintro rfl; simp at hkn) j hj, fun e => hO (e ▸ hj)⟩)
      obtain ⟨ad, rfl, _, hcell⟩ := r'.at k 0 (by rw [HNN.out]; exact hlt)
      rw [zs_getD] at hcell
      have hx := HL.out _ (getD_inm (d := 0) hkn)
      have HS : Hid (setAll L (ns.take (k + 1)) = (setAll L (ns.take k)).set (ns.getD k 0) true) := setAll_snoc L ns k hkn
      rw [HM.out] at hx
      generalize ns.getD k 0 = x at *
      have c1 := hb.cell x (by rw [setAll_len, HM.out]; exact hx)
      have f1 := hb.fz x
      have hb2 := hb.set x
      have HB : Hid (Bk (wr.setCell ⟨bk, x, none⟩ (.bool true)) bk (setAll L (ns.take (k + 1)))) := by rw [HS.out]; exact hb2
      have HK : Keep (· = bk) w (wr.setCell ⟨bk, x, none⟩ (.bool true)) := hkp.setCell (fun _ => rfl) _
      clear hb2 hb r'
      go_wp2
      go_roundw
      case rel => exact ⟨k + 1, by omega, by go_num, HB.out, HK⟩
      case measure => simp [intOf]; omega
    · obtain rfl : k = n := by omega
      rw [← HN.out, List.take_length] at hb
      go_wp2
      exact bodyPost_end (v := .tuple #[]) (by simp [results, Try.results39, go_sem]) rfl ⟨rfl, hb, hkp⟩
end Go.Proofs.Ytbjeaogblpjpeaa

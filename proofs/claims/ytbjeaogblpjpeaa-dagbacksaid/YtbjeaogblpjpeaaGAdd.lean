/-
  New and Add, by contracts.
-/
import Derived.Test.YtbjeaogblpjpeaaGDown
import Derived.Deep.RegionWith
namespace Go.Proofs.Ytbjeaogblpjpeaa
open Go.RowKit Go.Maps

/-- A graph of T at gb, in blocks of O. -/
def Gp (O : Nat → Prop) (w : World) (gb : Nat) (T : List Th) : Prop := ∃ mb v xs, PG O w gb mb v xs T
theorem Gp.q {O : Nat → Prop} {w : World} {gb : Nat} {T : List Th} (h : Gp O w gb T) : Gq O w (some ⟨gb, 0, none⟩) T := by
  obtain ⟨mb, v, xs, h⟩ := h
  exact .inr (.inr ⟨gb, mb, v, xs, rfl, h⟩)
theorem Gp.lt {O : Nat → Prop} {w : World} {gb : Nat} {T : List Th} (h : Gp O w gb T) : ∀ k, O k → k < w.heap.size := by
  obtain ⟨mb, v, xs, h⟩ := h
  exact h.lt
theorem Gp.same {O : Nat → Prop} {w w' : World} {gb : Nat} {T : List Th} (h : Gp O w gb T) (hs : Same O w w') (hz : w.heap.size ≤ w'.heap.size) : Gp O w' gb T := by
  obtain ⟨mb, v, xs, h⟩ := h
  exact ⟨mb, v, xs, h.same hs hz⟩
theorem Gp.below {O : Nat → Prop} {w w' : World} {gb : Nat} {T : List Th} (h : Gp O w gb T) (hb : Below w.heap.size w w') : Gp O w' gb T := h.same (Same.of_below hb h.lt) hb.size
/-- Blocks of O, and new ones. -/
def More (O : Nat → Prop) (w w' : World) (k : Nat) : Prop := O k ∨ (w.heap.size ≤ k ∧ k < w'.heap.size)
/-- What Add leaves. -/
def AddP (O : Nat → Prop) (gb : Nat) (T : List Th) (d : Dd) (w : World) (e : Ending) (w' : World) : Prop :=
  e = .returned (.int .i64 (errOf T d)) ∧ Keep O w w' ∧ Gp (More O w w') w' gb (addT T d)
theorem Gp.more {O : Nat → Prop} {w w' : World} {gb : Nat} {T : List Th} (h : Gp O w gb T) (hb : Below w.heap.size w w') : Gp (More O w w') w' gb T := by
  obtain ⟨mb, v, xs, h⟩ := h.below hb
  exact ⟨mb, v, xs, h.obj, h.names, h.row, h.cells.carry (fun _ _ => rfl) (fun _ h => ⟨.inl h.1, h.2⟩), .inl h.og, .inl h.om, fun k hk => .inl (h.ov k hk), fun k hk => by
    rcases hk with hk | hk
    · exact h.lt k hk
    · exact hk.2⟩

set_option maxHeartbeats 2000000 in
theorem new_any (w : World) : Calls Try.prog 27 #[] w fun e w' => ∃ gb, e = .returned (.pointer (some ⟨gb, 0, none⟩)) ∧ Gp (fun k => w.heap.size ≤ k ∧ k < w'.heap.size) w' gb [] ∧ Below w.heap.size w w' := by
  have hmm := @run_makeMap Try.prog
  go_enter Try.func27, Try.ntmps27
  go_wp2
  go_ret
  refine ⟨_, rfl, ⟨w.heap.size, .slice none 0 0, [], ?_, ?_, World.ownsRow_nil _ _ _ _, ?_, ?_, ?_, ?_, ?_⟩, ((Below.refl _ _).alloc (Nat.le_refl _) _).alloc (by simp) _⟩
  · have := heap_alloc_new (w.alloc (.map #[] 0)) (.cells #[.map (some w.heap.size), .slice none 0 0] 68)
    simpa using this
  · exact (nms_made w).same (((Below.refl _ _).alloc (Nat.le_refl _) _).block _ (by simp))
  · intro j t hj; simp at hj
  · simp; try omega
  · simp; try omega
  · intro k hk; cases hk
  · intro k hk; exact hk.2
theorem Try.infoT : (Try.prog.info? 63).map (fun i => (i.zero, i.size, i.bytes)) = some (some (.agg #[.string ⟨#[]⟩, .slice none 0 0, .slice none 0 0]), 3, 64) := by kernel_rfl
theorem empty_iff (s : ByteArray) : s.toList.isEmpty = decide (s = ⟨#[]⟩) := by
  rw [Bool.eq_iff_iff, List.isEmpty_iff, decide_eq_true_eq, ByteArray.toList_eq]
  constructor
  · intro h; exact ByteArray.ext (Array.toList_inj.1 h)
  · rintro rfl; rfl
set_option maxHeartbeats 2000000 in
theorem add_arg {O : Nat → Prop} {gb : Nat} {T : List Th} (d : Dd) (v2 v3 : Value) (w : World) (h : Gp O w gb T) (h0 : d.name = ⟨#[]⟩) :
    Calls Try.prog 29 #[.pointer (some ⟨gb, 0, none⟩), .string d.name, v2, v3] w (AddP O gb T d w) := by
  have HE := err_arg (T := T) h0
  have HP : Hid (AddP O gb T d w (.returned (.int .i64 1)) w) := ⟨by rw [HE.1], Keep.refl _ _, by rw [HE.2]; exact h.more (Below.refl _ _)⟩
  obtain ⟨mb, v, xs, h⟩ := h
  have hc := cell_row (cur := [_, _]) h.obj 0 _ rfl
  have q := eqMap
  rw [h0]
  clear h HE h0
  go_enter Try.func29, Try.ntmps29
  go_wp2
  go_ret
  exact HP.out
set_option maxHeartbeats 2000000 in
theorem add_have {O : Nat → Prop} {gb : Nat} {T : List Th} (d : Dd) (v2 v3 : Value) (w : World) (h : Gp O w gb T) (hs : d.name.size ≤ 100) (h0 : d.name ≠ ⟨#[]⟩) (h1 : d.name ∈ nms T) :
    Calls Try.prog 29 #[.pointer (some ⟨gb, 0, none⟩), .string d.name, v2, v3] w (AddP O gb T d w) := by
  have HE := err_have h0 h1
  have HP : Hid (AddP O gb T d w (.returned (.int .i64 4)) w) := ⟨by rw [HE.1], Keep.refl _ _, by rw [HE.2]; exact h.more (Below.refl _ _)⟩
  have hpl := place_in d.name w h.q (by omega) (inn_iff.2 h1)
  obtain ⟨mb, v, xs, h⟩ := h
  have hc := cell_row (cur := [_, _]) h.obj 0 _ rfl
  have q := eqMap
  have he : d.name.toList.isEmpty = false := by rw [empty_iff]; simpa using h0
  clear h HE h0 h1
  go_enter Try.func29, Try.ntmps29
  go_wp2_with (first
    | (go_at_call 19; refine hpl.mono ?_; rintro e w' ⟨rfl, rfl⟩))
  go_ret
  exact HP.out
end Go.Proofs.Ytbjeaogblpjpeaa

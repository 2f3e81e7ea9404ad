/-
  A table that is none: nil, or one that New did not make; and the statement on it, walked.
-/
import Derived.Test.YtjgogmlmcebgpaaAwake
namespace Go.Proofs.Ytjgogmlmcebgpaa
open Go.RowKit Go.Maps

/-- No table that New made. -/
def Bare (w : World) (r : Value) : Prop :=
  r = .pointer none ∨ ∃ tb, r = .pointer (some ⟨tb, 0, none⟩) ∧ w.cell? ⟨tb, 0, none⟩ = some (.slice none 0 0) ∧ w.cell? ⟨tb, 1, none⟩ = some (.map none) ∧ w.cell? ⟨tb, 2, none⟩ = some (.map none)

section
variable (w : World) (r : Value)

set_option maxHeartbeats 1000000 in
theorem place_bare (h : Bare w r) (s : ByteArray) : Calls Try.prog 28 #[r, .string s] w fun e w' => ∃ n, e = .returned (.tuple #[.int .i64 n, .bool false]) ∧ w = w' := by
  rcases h with rfl | ⟨tb, rfl, c0, c1, c2⟩
  · go_enter Try.func28, Try.ntmps28
    go_wp2
    go_ret2
    exact ⟨_, rfl, rfl⟩
  · have hrd : RdS 0 w none 0 [] := ⟨Nat.le_refl _, fun j hj => absurd hj (by simp)⟩
    go_enter Try.func28, Try.ntmps28
    go_wp2_with (go_at_call 35; refine (index_any [] _ _ _ _ _ (by simp) hrd).mono ?_; rintro e w' ⟨rfl, rfl⟩)
    go_ret2
    exact ⟨_, rfl, rfl⟩

set_option maxHeartbeats 1000000 in
theorem sign_bare (h : Bare w r) (s : ByteArray) (x : Value) : Calls Try.prog 16 #[r, .string s, x] w fun e w' => e = .returned (.tuple #[.string ⟨#[]⟩, .int .i64 2]) ∧ w = w' := by
  go_enter Try.func16, Try.ntmps16
  go_wp2_with (go_at_call 28; refine (place_bare w r h s).mono ?_; rintro e w' ⟨n, rfl, rfl⟩)
  go_ret2
  exact ⟨rfl, rfl⟩

set_option maxHeartbeats 1000000 in
theorem verify_bare (h : Bare w r) (s : ByteArray) (x y : Value) : Calls Try.prog 19 #[r, .string s, x, y] w fun e w' => e = .returned (.bool false) ∧ w = w' := by
  go_enter Try.func19, Try.ntmps19
  go_wp2_with (go_at_call 28; refine (place_bare w r h s).mono ?_; rintro e w' ⟨n, rfl, rfl⟩)
  go_ret
  exact ⟨rfl, rfl⟩

set_option maxHeartbeats 1000000 in
theorem digest_bare (h : Bare w r) (x : Value) : Calls Try.prog 14 #[r, x] w fun e w' => e = .returned (.string ⟨#[]⟩) ∧ w = w' := by
  have q := eq50n
  rcases h with rfl | ⟨tb, rfl, c0, c1, c2⟩
  all_goals
    go_enter Try.func14, Try.ntmps14
    go_wp2
    go_ret
    exact ⟨rfl, rfl⟩

set_option maxHeartbeats 1000000 in
theorem texts_bare (h : Bare w r) : Calls Try.prog 21 #[r] w fun e w' => e = .returned (.int .i64 0) ∧ w = w' := by
  have q := fun w ty => Maps.len_nil (P := Try.prog) (w := w) Try.underlying50 ty
  rcases h with rfl | ⟨tb, rfl, c0, c1, c2⟩
  all_goals
    go_enter Try.func21, Try.ntmps21
    go_wp2
    go_ret
    exact ⟨rfl, rfl⟩

set_option maxHeartbeats 1000000 in
theorem tokens_bare (h : Bare w r) : Calls Try.prog 22 #[r] w fun e w' => e = .returned (.int .i64 0) ∧ w = w' := by
  have q := fun w ty => Maps.len_nil (P := Try.prog) (w := w) Try.underlying51 ty
  rcases h with rfl | ⟨tb, rfl, c0, c1, c2⟩
  all_goals
    go_enter Try.func22, Try.ntmps22
    go_wp2
    go_ret
    exact ⟨rfl, rfl⟩

set_option maxHeartbeats 1000000 in
theorem clone_nil : Calls Try.prog 24 #[.slice none 0 0] w fun e w' => e = .returned (.slice none 0 0) ∧ w = w' := by
  have q := eq22n
  go_enter Try.func24, Try.ntmps24
  go_wp2
  go_ret
  exact ⟨rfl, rfl⟩

set_option maxHeartbeats 1000000 in
theorem servers_bare (h : Bare w r) : Calls Try.prog 13 #[r] w fun e w' => e = .returned (.slice none 0 0) ∧ w = w' := by
  rcases h with rfl | ⟨tb, rfl, c0, c1, c2⟩
  all_goals
    go_enter Try.func13, Try.ntmps13
    go_wp2_with (go_at_call 24; refine (clone_nil _).mono ?_; rintro e w' ⟨rfl, rfl⟩)
    go_ret
    exact ⟨rfl, rfl⟩
end

set_option maxHeartbeats 2000000 in
theorem oracleNone_any (s : ByteArray) (p : Option Addr) (n c : Nat) (w : World) (hn : n ≤ 140737488351232) :
    Calls Try.prog 8 #[.string s, .slice p n c] w fun e w' => e = .returned (.bool true) ∧ Below w.heap.size w w' := by
  by_cases hl : 500 < n
  · go_enter Try.func8, Try.ntmps8
    go_wp2
    go_ret
    exact ⟨rfl, Below.refl _ _⟩
  · have hl' : n ≤ 500 := by omega
    go_enter Try.func8, Try.ntmps8
    go_wp2
    obtain ⟨W, hW⟩ : ∃ W, W = (w.alloc (Obj.cells #[Value.slice none 0 0, Value.map none, Value.map none] 53)).alloc (Obj.cells #[Value.pointer none, Value.pointer (some { block := w.heap.size, off := 0 })] 25) := ⟨_, rfl⟩
    have hbW : Below w.heap.size w W := by rw [hW]; exact ((Below.refl _ _).alloc (Nat.le_refl _) _).alloc (by simp) _
    have e0 : W.heap[w.heap.size]? = some (.cells #[.slice none 0 0, .map none, .map none] 53) := by
      rw [hW, Below.heap_alloc _ _ _ (by simp)]; exact heap_alloc_new _ _
    have e1 : W.heap[w.heap.size + 1]? = some (.cells #[.pointer none, .pointer (some { block := w.heap.size, off := 0 })] 25) := by
      rw [hW]
      have := heap_alloc_new (w.alloc (Obj.cells #[Value.slice none 0 0, Value.map none, Value.map none] 53)) (Obj.cells #[Value.pointer none, Value.pointer (some { block := w.heap.size, off := 0 })] 25)
      simpa using this
    have r0 := cell_row (cur := [_, _]) e1 0 _ rfl
    have r1 := cell_row (cur := [_, _]) e1 1 _ rfl
    have hB0 : Hid (Bare W (.pointer none)) := .inl rfl
    have hB1 : Hid (Bare W (.pointer (some ⟨w.heap.size, 0, none⟩))) := .inr ⟨_, rfl, cell_row (cur := [_, _, _]) e0 0 _ rfl, cell_row (cur := [_, _, _]) e0 1 _ rfl, cell_row (cur := [_, _, _]) e0 2 _ rfl⟩
    rw [← hW]
    clear hW e0 e1
    refine wp_loop_rounds 3 ?_
    iterate 3 (rw [rounds_succ]; go_wp2_with (first
      | (go_at_call 16; refine (sign_bare _ _ (by first | exact hB0.out | exact hB1.out) _ _).mono ?_; rintro e w' ⟨rfl, rfl⟩)
      | (go_at_call 14; refine (digest_bare _ _ (by first | exact hB0.out | exact hB1.out) _).mono ?_; rintro e w' ⟨rfl, rfl⟩)
      | (go_at_call 19; refine (verify_bare _ _ (by first | exact hB0.out | exact hB1.out) _ _ _).mono ?_; rintro e w' ⟨rfl, rfl⟩)
      | (go_at_call 21; refine (texts_bare _ _ (by first | exact hB0.out | exact hB1.out)).mono ?_; rintro e w' ⟨rfl, rfl⟩)
      | (go_at_call 22; refine (tokens_bare _ _ (by first | exact hB0.out | exact hB1.out)).mono ?_; rintro e w' ⟨rfl, rfl⟩)
      | (go_at_call 13; refine (servers_bare _ _ (by first | exact hB0.out | exact hB1.out)).mono ?_; rintro e w' ⟨rfl, rfl⟩)
      | (go_at_call 12; refine (awake_any _).mono ?_; rintro e w3 ⟨rfl, hb3⟩)))
    go_ret
    exact ⟨rfl, hbW.trans (hb3.mono hbW.size)⟩
end Go.Proofs.Ytjgogmlmcebgpaa

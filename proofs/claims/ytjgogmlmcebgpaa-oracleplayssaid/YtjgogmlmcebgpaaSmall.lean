/-
  The small functions of base, by their contracts.
-/
import Derived.Test.YtjgogmlmcebgpaaRows
import Derived.Test.YtjgogmlmcebgpaaMath
import Derived.WalkKit
import Derived.WalkSpells
import Derived.WalkLawsBesides
namespace Go.Proofs.Ytjgogmlmcebgpaa
open Go.RowKit

theorem ret_int {k : IntKind} {a b : Int} (h : a = b) : Ending.returned (.int k a) = .returned (.int k b) := by rw [h]
theorem ret_num {a b : Int} {p q : Bool} (h : a = b) (hp : p = q) : Ending.returned (.tuple #[.int .u32 a, .bool p]) = .returned (.tuple #[.int .u32 b, .bool q]) := by rw [h, hp]

set_option maxHeartbeats 400000 in
theorem lettersOf_any (n : Int) (w : World) (h0 : 0 ≤ n) (h1 : n ≤ 3) :
    Calls Try.prog 38 #[.int .i64 n] w fun e w' => e = .returned (.int .i64 (lets n)) ∧ w = w' := by
  by_cases h : n = 0
  · subst h
    go_enter Try.func38, Try.ntmps38
    go_wp2
    go_ret
    exact ⟨rfl, rfl⟩
  · go_enter Try.func38, Try.ntmps38
    go_wp2
    go_ret
    exact ⟨ret_int (by unfold lets; rw [if_neg (by assumption)]), rfl⟩

theorem lettersOf_pos (n : Int) (w : World) (h0 : 1 ≤ n) (h1 : n ≤ 3) :
    Calls Try.prog 38 #[.int .i64 n] w fun e w' => e = .returned (.int .i64 (n + 1)) ∧ w = w' := by
  have h := lettersOf_any n w (by omega) h1
  unfold lets at h
  rw [if_neg (by omega)] at h
  exact h

set_option maxHeartbeats 400000 in
theorem size_any (n : Int) (w : World) (h1 : n < 1099511627776) :
    Calls Try.prog 36 #[.int .i64 n] w fun e w' => e = .returned (.int .i64 (siz n)) ∧ w = w' := by
  have hb := lets_bd (n % 3) (by omega) (by omega)
  have hb0 : lets 0 = 0 := rfl
  by_cases hn : n < 0
  · go_enter Try.func36, Try.ntmps36
    go_wp2_with (go_at_call 38; refine (lettersOf_any _ _ (by omega) (by omega)).mono ?_; rintro e w' ⟨rfl, rfl⟩)
    go_ret
    exact ⟨ret_int (by unfold siz; rw [if_pos hn]), rfl⟩
  · go_enter Try.func36, Try.ntmps36
    go_wp2_with (go_at_call 38; refine (lettersOf_any _ _ (by omega) (by omega)).mono ?_; rintro e w' ⟨rfl, rfl⟩)
    go_ret
    exact ⟨ret_int (by unfold siz; rw [if_neg (by omega)]), rfl⟩
end Go.Proofs.Ytjgogmlmcebgpaa

/-
  The small functions of base, by their contracts.
-/
import Derived.Test.YtfblafpcdlmbjaaRows
import Derived.Test.YtfblafpcdlmbjaaMath
import Derived.WalkKit
import Derived.WalkSpells
import Derived.WalkLawsBesides
namespace Go.Proofs.Ytfblafpcdlmbjaa
open Go.RowKit

theorem ret_int {k : IntKind} {a b : Int} (h : a = b) : Ending.returned (.int k a) = .returned (.int k b) := by rw [h]
theorem ret_num {a b : Int} {p q : Bool} (h : a = b) (hp : p = q) : Ending.returned (.tuple #[.int .u32 a, .bool p]) = .returned (.tuple #[.int .u32 b, .bool q]) := by rw [h, hp]



set_option maxHeartbeats 400000 in
theorem bytesOf_any (n : Int) (w : World) (h0 : 0 ≤ n) (h1 : n ≤ 4) :
    Calls Try.prog 43 #[.int .i64 n] w fun e w' => e = .returned (.int .i64 (byts n)) ∧ w = w' := by
  go_enter Try.func43, Try.ntmps43
  go_wp2
  all_goals
    go_ret
    exact ⟨ret_int (by unfold byts; split <;> omega), rfl⟩

theorem bytesOf_pos (m : Int) (w : World) (h0 : 1 ≤ m) (h1 : m ≤ 3) :
    Calls Try.prog 43 #[.int .i64 (m + 1)] w fun e w' => e = .returned (.int .i64 m) ∧ w = w' := by
  have h := bytesOf_any (m + 1) w (by omega) (by omega)
  have e : byts (m + 1) = m := by unfold byts; rw [if_neg (by omega)]; omega
  rw [e] at h
  exact h

theorem numW (c : Int) (n : Int) (b : Bool) (h : num c = if b then n else -1) (h0 : 0 ≤ n) (hz : b = false → n = 0) : n = num0 c ∧ b = isLet c := by
  cases b
  · simp [num0, isLet, h, hz rfl]
  · simp [num0, isLet, h, h0]
set_option maxHeartbeats 400000 in
theorem number_any (c : Int) (w : World) (h0 : 0 ≤ c) (h1 : c ≤ 255) :
    Calls Try.prog 49 #[.int .u8 c] w fun e w' => e = .returned (.tuple #[.int .u32 (num0 c), .bool (isLet c)]) ∧ w = w' := by
  by_cases e43 : c = 43
  · subst e43
    go_enter Try.func49, Try.ntmps49
    go_wp2
    go_ret2
    exact ⟨rfl, rfl⟩
  by_cases e47 : c = 47
  · subst e47
    go_enter Try.func49, Try.ntmps49
    go_wp2
    go_ret2
    exact ⟨rfl, rfl⟩
  go_enter Try.func49, Try.ntmps49
  go_wp2
  all_goals
    go_ret2
    refine ⟨(fun h => ret_num h.1 h.2) (numW c _ _ (by unfold num; repeat' split
                                                       all_goals first | omega | (simp_all; done) | (simp_all; omega)) (by first | omega | simp) (by simp)), rfl⟩

end Go.Proofs.Ytfblafpcdlmbjaa

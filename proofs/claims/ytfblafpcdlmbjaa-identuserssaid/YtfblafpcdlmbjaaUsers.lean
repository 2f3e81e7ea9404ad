/-
  The statement on users and rooms, walked.
-/
import Derived.Test.YtfblafpcdlmbjaaAwake
namespace Go.Proofs.Ytfblafpcdlmbjaa
open Go.RowKit

set_option maxHeartbeats 1000000 in
theorem identUsers_any (s : ByteArray) (w : World) (hs : s.size ≤ 140737488351232) :
    Calls Try.prog 3 #[.string s] w fun e w' => e = .returned (.bool true) ∧ Below w.heap.size w w' := by
  by_cases hl : 1000 < s.size
  · go_enter Try.func3, Try.ntmps3
    go_wp2
    go_ret
    exact ⟨rfl, Below.refl _ _⟩
  · have h1 : s.size ≤ 1000000 := by omega
    obtain ⟨a, b, t, hp⟩ : ∃ a b t, parts 64 s = (a, b, t) := ⟨_, _, _, rfl⟩
    obtain ⟨c, d, u, hq⟩ : ∃ a b t, parts 33 s = (a, b, t) := ⟨_, _, _, rfl⟩
    have x1 := fun wx : World => user_any s wx hs
    have x2 := fun wx : World => refUser_any s wx h1
    have x3 := fun wx : World => room_any s wx hs
    have x4 := fun wx : World => refRoom_any s wx h1
    rw [hp, told] at x1 x2
    rw [hq, told] at x3 x4
    go_enter Try.func3, Try.ntmps3
    go_wp2_with (first
      | (go_at_call 9; refine (x1 _).mono ?_; rintro e w1 ⟨rfl, hb1⟩)
      | (go_at_call 10; refine (x2 _).mono ?_; rintro e w2 ⟨rfl, hb2⟩)
      | (go_at_call 11; refine (x3 _).mono ?_; rintro e w3 ⟨rfl, hb3⟩)
      | (go_at_call 12; refine (x4 _).mono ?_; rintro e w4 ⟨rfl, hb4⟩)
      | (go_at_call 13; refine (awake_any _).mono ?_; rintro e w5 ⟨rfl, hb5⟩))
    go_ret
    have c2 := hb1.trans (hb2.mono hb1.size)
    have c3 := c2.trans (hb3.mono c2.size)
    have c4 := c3.trans (hb4.mono c3.size)
    exact ⟨rfl, c4.trans (hb5.mono c4.size)⟩
end Go.Proofs.Ytfblafpcdlmbjaa

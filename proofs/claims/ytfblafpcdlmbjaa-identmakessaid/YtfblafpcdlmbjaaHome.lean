/-
  The statement on homes, walked.
-/
import Derived.Test.YtfblafpcdlmbjaaAwake
namespace Go.Proofs.Ytfblafpcdlmbjaa
open Go.RowKit

theorem parts_false (c : Int) (s : ByteArray) (h : (parts c s).2.2 = false) : parts c s = (nix, nix, false) := by
  unfold parts at h ⊢
  split at h
  · cases h
  · rw [if_neg (by assumption)]
theorem parts_true (c : Int) (s : ByteArray) (h : (parts c s).2.2 = true) : (ints s).getD 0 0 = c := by
  unfold parts at h
  split at h
  · rename_i hh; exact hh.2.1
  · cases h
theorem parts_two (c d : Int) (hcd : c ≠ d) (s : ByteArray) (h : (parts c s).2.2 = true) : parts d s = (nix, nix, false) :=
  parts_other d s (.inr (.inl (by rw [parts_true c s h]; exact hcd)))

set_option maxHeartbeats 1000000 in
theorem identHome_any (s : ByteArray) (w : World) (hs : s.size ≤ 140737488351232) :
    Calls Try.prog 6 #[.string s] w fun e w' => e = .returned (.bool true) ∧ Below w.heap.size w w' := by
  by_cases hl : 1000 < s.size
  · go_enter Try.func6, Try.ntmps6
    go_wp2
    go_ret
    exact ⟨rfl, Below.refl _ _⟩
  have h1 : s.size ≤ 1000000 := by omega
  have x1 := fun wx : World => user_any s wx hs
  have x2 := fun wx : World => room_any s wx hs
  have x3 := fun wx : World => home_any s wx hs
  have x4 := fun wx : World => refHome_any s wx h1
  cases hu : (parts 64 s).2.2 with
  | true =>
    have hr := parts_two 64 33 (by decide) s hu
    obtain ⟨a, b, t, hp⟩ : ∃ a b t, parts 64 s = (a, b, t) := ⟨_, _, _, rfl⟩
    have hh : home s = b := by unfold home; rw [if_pos hu, hp]
    obtain rfl : t = true := by rw [hp] at hu; exact hu
    rw [hp, told] at x1
    rw [hr, told] at x2
    rw [hh] at x3 x4
    clear hu hr hp hh
    go_enter Try.func6, Try.ntmps6
    go_wp2_with (first
      | (go_at_call 9; refine (x1 _).mono ?_; rintro e w1 ⟨rfl, hb1⟩)
      | (go_at_call 11; refine (x2 _).mono ?_; rintro e w2 ⟨rfl, hb2⟩)
      | (go_at_call 23; refine (x3 _).mono ?_; rintro e w3 ⟨rfl, hb3⟩)
      | (go_at_call 24; refine (x4 _).mono ?_; rintro e w4 ⟨rfl, hb4⟩)
      | (go_at_call 13; refine (awake_any _).mono ?_; rintro e w5 ⟨rfl, hb5⟩))
    go_ret
    have c2 := hb1.trans (hb2.mono hb1.size)
    have c3 := c2.trans (hb3.mono c2.size)
    have c4 := c3.trans (hb4.mono c3.size)
    exact ⟨rfl, c4.trans (hb5.mono c4.size)⟩
  | false =>
    have hp := parts_false 64 s hu
    cases hv : (parts 33 s).2.2 with
    | true =>
      obtain ⟨a, b, t, hr⟩ : ∃ a b t, parts 33 s = (a, b, t) := ⟨_, _, _, rfl⟩
      have hh : home s = b := by unfold home; rw [if_neg (by simp [hu]), hr]
      obtain rfl : t = true := by rw [hr] at hv; exact hv
      rw [hp, told] at x1
      rw [hr, told] at x2
      rw [hh] at x3 x4
      clear hu hr hp hh hv
      go_enter Try.func6, Try.ntmps6
      go_wp2_with (first
        | (go_at_call 9; refine (x1 _).mono ?_; rintro e w1 ⟨rfl, hb1⟩)
        | (go_at_call 11; refine (x2 _).mono ?_; rintro e w2 ⟨rfl, hb2⟩)
        | (go_at_call 23; refine (x3 _).mono ?_; rintro e w3 ⟨rfl, hb3⟩)
        | (go_at_call 24; refine (x4 _).mono ?_; rintro e w4 ⟨rfl, hb4⟩)
        | (go_at_call 13; refine (awake_any _).mono ?_; rintro e w5 ⟨rfl, hb5⟩))
      go_ret
      have c2 := hb1.trans (hb2.mono hb1.size)
      have c3 := c2.trans (hb3.mono c2.size)
      have c4 := c3.trans (hb4.mono c3.size)
      exact ⟨rfl, c4.trans (hb5.mono c4.size)⟩
    | false =>
      have hr := parts_false 33 s hv
      have hh : home s = nix := by unfold home; rw [if_neg (by simp [hu]), hr]
      rw [hp, told] at x1
      rw [hr, told] at x2
      rw [hh] at x3 x4
      clear hu hr hp hh hv
      unfold nix at x1 x2 x3 x4
      go_enter Try.func6, Try.ntmps6
      go_wp2_with (first
        | (go_at_call 9; refine (x1 _).mono ?_; rintro e w1 ⟨rfl, hb1⟩)
        | (go_at_call 11; refine (x2 _).mono ?_; rintro e w2 ⟨rfl, hb2⟩)
        | (go_at_call 23; refine (x3 _).mono ?_; rintro e w3 ⟨rfl, hb3⟩)
        | (go_at_call 24; refine (x4 _).mono ?_; rintro e w4 ⟨rfl, hb4⟩)
        | (go_at_call 13; refine (awake_any _).mono ?_; rintro e w5 ⟨rfl, hb5⟩))
      go_ret
      have c2 := hb1.trans (hb2.mono hb1.size)
      have c3 := c2.trans (hb3.mono c2.size)
      have c4 := c3.trans (hb4.mono c3.size)
      exact ⟨rfl, c4.trans (hb5.mono c4.size)⟩
end Go.Proofs.Ytfblafpcdlmbjaa

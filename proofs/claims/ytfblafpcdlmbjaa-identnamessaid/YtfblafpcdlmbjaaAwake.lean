/-
  The chapter's examples, by a contract.
-/
import Derived.Test.YtfblafpcdlmbjaaRparts
namespace Go.Proofs.Ytfblafpcdlmbjaa
open Go.RowKit

theorem awk1 : parts 64 ⟨#[64, 97, 110, 110, 58, 115, 49]⟩ = (⟨#[97, 110, 110]⟩, ⟨#[115, 49]⟩, true) := by kernel_rfl
theorem awk2 : parts 64 ⟨#[64, 58, 115, 49]⟩ = (nix, nix, false) := by kernel_rfl
theorem awk3 : parts 64 ⟨#[64, 65, 110, 110, 58, 115, 49]⟩ = (nix, nix, false) := by kernel_rfl
theorem awk4 : parts 64 ⟨#[97, 110, 110, 58, 115, 49]⟩ = (nix, nix, false) := by kernel_rfl
theorem awk5 : home ⟨#[33, 114, 58, 115, 50]⟩ = ⟨#[115, 50]⟩ := by kernel_rfl

set_option maxHeartbeats 1000000 in
theorem awake_any (w : World) : Calls Try.prog 13 #[] w fun e w' => e = .returned (.bool true) ∧ Below w.heap.size w w' := by
  have u1 := fun wx : World => user_any ⟨#[64, 97, 110, 110, 58, 115, 49]⟩ wx (by decide)
  have u2 := fun wx : World => user_any ⟨#[64, 58, 115, 49]⟩ wx (by decide)
  have u3 := fun wx : World => user_any ⟨#[64, 65, 110, 110, 58, 115, 49]⟩ wx (by decide)
  have u4 := fun wx : World => user_any ⟨#[97, 110, 110, 58, 115, 49]⟩ wx (by decide)
  have u5 := fun wx : World => home_any ⟨#[33, 114, 58, 115, 50]⟩ wx (by decide)
  rw [awk1, told] at u1
  rw [awk2, told] at u2
  rw [awk3, told] at u3
  rw [awk4, told] at u4
  rw [awk5] at u5
  go_enter Try.func13, Try.ntmps13
  go_wp2_with (first
    | (go_at_call 9; have _h := hb3; refine (u4 _).mono ?_; rintro e w4 ⟨rfl, hb4⟩)
    | (go_at_call 9; have _h := hb2; refine (u3 _).mono ?_; rintro e w3 ⟨rfl, hb3⟩)
    | (go_at_call 9; have _h := hb1; refine (u2 _).mono ?_; rintro e w2 ⟨rfl, hb2⟩)
    | (go_at_call 9; refine (u1 _).mono ?_; rintro e w1 ⟨rfl, hb1⟩)
    | (go_at_call 23; refine (u5 _).mono ?_; rintro e w5 ⟨rfl, hb5⟩))
  go_ret
  have c2 := hb1.trans (hb2.mono hb1.size)
  have c3 := c2.trans (hb3.mono c2.size)
  have c4 := c3.trans (hb4.mono c3.size)
  exact ⟨rfl, c4.trans (hb5.mono c4.size)⟩
end Go.Proofs.Ytfblafpcdlmbjaa

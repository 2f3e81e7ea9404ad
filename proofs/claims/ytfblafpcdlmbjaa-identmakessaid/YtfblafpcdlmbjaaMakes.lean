/-
  The statement on names that are made, walked.
-/
import Derived.Test.YtfblafpcdlmbjaaMake
namespace Go.Proofs.Ytfblafpcdlmbjaa
open Go.RowKit

set_option maxHeartbeats 2000000 in
theorem identMakes_any (l r : ByteArray) (w : World) (z1 : l.size ≤ 140737488351232) (z2 : r.size ≤ 140737488351232) :
    Calls Try.prog 5 #[.string l, .string r] w fun e w' => e = .returned (.bool true) ∧ Below w.heap.size w w' := by
  by_cases hz : 1000 < l.size + r.size
  · have hz' : (1000 : Int) < (l.size : Int) + r.size := by omega
    go_enter Try.func5, Try.ntmps5
    go_wp2
    go_ret
    exact ⟨rfl, Below.refl _ _⟩
  have hz' : ¬ (1000 : Int) < (l.size : Int) + r.size := by omega
  cases hl : loc l with
  | false =>
    have hno : (loc l && srv r) = false := by rw [hl]; rfl
    have x1 := fun wx : World => makeUser_no l r wx z1 z2 hno
    have x2 := fun wx : World => makeRoom_no l r wx z1 z2 hno
    have x3 := fun wx : World => refLocal_any l wx z1
    rw [hl] at x3
    go_enter Try.func5, Try.ntmps5
    go_wp2_with (first
      | (go_at_call 20; refine (x1 _).mono ?_; rintro e w1 ⟨rfl, hb1⟩)
      | (go_at_call 21; refine (x2 _).mono ?_; rintro e w2 ⟨rfl, hb2⟩)
      | (go_at_call 22; refine (x3 _).mono ?_; rintro e w' ⟨rfl, rfl⟩)
      | (go_at_call 13; refine (awake_any _).mono ?_; rintro e w3 ⟨rfl, hb3⟩))
    go_ret
    have c2 := hb1.trans (hb2.mono hb1.size)
    exact ⟨rfl, c2.trans (hb3.mono c2.size)⟩
  | true =>
    cases hr : srv r with
    | false =>
      have hno : (loc l && srv r) = false := by rw [hl, hr]; rfl
      have x1 := fun wx : World => makeUser_no l r wx z1 z2 hno
      have x2 := fun wx : World => makeRoom_no l r wx z1 z2 hno
      have x3 := fun wx : World => refLocal_any l wx z1
      have x4 := fun wx : World => refServer_any r wx z2
      rw [hl] at x3
      rw [hr] at x4
      go_enter Try.func5, Try.ntmps5
      go_wp2_with (first
        | (go_at_call 20; refine (x1 _).mono ?_; rintro e w1 ⟨rfl, hb1⟩)
        | (go_at_call 21; refine (x2 _).mono ?_; rintro e w2 ⟨rfl, hb2⟩)
        | (go_at_call 22; refine (x3 _).mono ?_; rintro e w' ⟨rfl, rfl⟩)
        | (go_at_call 15; refine (x4 _).mono ?_; rintro e w' ⟨rfl, rfl⟩)
        | (go_at_call 13; refine (awake_any _).mono ?_; rintro e w3 ⟨rfl, hb3⟩))
      go_ret
      have c2 := hb1.trans (hb2.mono hb1.size)
      exact ⟨rfl, c2.trans (hb3.mono c2.size)⟩
    | true =>
      have x1 := fun wx : World => makeUser_yes l r wx hl hr
      have x2 := fun wx : World => makeRoom_yes l r wx hl hr
      have x3 := fun wx : World => refLocal_any l wx z1
      have x4 := fun wx : World => refServer_any r wx z2
      rw [hl] at x3
      rw [hr] at x4
      have n1 : (name 64 l r).size ≤ 140737488351232 := by rw [name_size]; omega
      have n2 : (name 33 l r).size ≤ 140737488351232 := by rw [name_size]; omega
      have pu : parts 64 (name 64 l r) = (l, r, true) := parts_name 64 l r hl hr
      have pr : parts 33 (name 33 l r) = (l, r, true) := parts_name 33 l r hl hr
      have pu' : parts 33 (name 64 l r) = (nix, nix, false) := parts_two 64 33 (by decide) _ (by rw [pu])
      have pr' : parts 64 (name 33 l r) = (nix, nix, false) := parts_two 33 64 (by decide) _ (by rw [pr])
      have y1 := fun wx : World => user_any (name 64 l r) wx n1
      have y2 := fun wx : World => room_any (name 33 l r) wx n2
      have y3 := fun wx : World => user_any (name 33 l r) wx n2
      have y4 := fun wx : World => room_any (name 64 l r) wx n1
      rw [pu, told] at y1
      rw [pr, told] at y2
      rw [pr', told] at y3
      rw [pu', told] at y4
      obtain ⟨u, hu⟩ : ∃ u, u = name 64 l r := ⟨_, rfl⟩
      obtain ⟨v, hv⟩ : ∃ v, v = name 33 l r := ⟨_, rfl⟩
      rw [← hu] at x1 y1 y4
      rw [← hv] at x2 y2 y3
      clear hu hv pu pr pu' pr' n1 n2
      go_enter Try.func5, Try.ntmps5
      go_wp2_with (first
        | (go_at_call 20; refine (x1 _).mono ?_; rintro e w1 ⟨rfl, hb1⟩)
        | (go_at_call 21; refine (x2 _).mono ?_; rintro e w2 ⟨rfl, hb2⟩)
        | (go_at_call 22; refine (x3 _).mono ?_; rintro e w' ⟨rfl, rfl⟩)
        | (go_at_call 15; refine (x4 _).mono ?_; rintro e w' ⟨rfl, rfl⟩)
        | (go_at_call 9; have _h := hb4; refine (y3 _).mono ?_; rintro e w5 ⟨rfl, hb5⟩)
        | (go_at_call 9; refine (y1 _).mono ?_; rintro e w3 ⟨rfl, hb3⟩)
        | (go_at_call 11; have _h := hb5; refine (y4 _).mono ?_; rintro e w6 ⟨rfl, hb6⟩)
        | (go_at_call 11; refine (y2 _).mono ?_; rintro e w4 ⟨rfl, hb4⟩)
        | (go_at_call 13; refine (awake_any _).mono ?_; rintro e w7 ⟨rfl, hb7⟩))
      go_ret
      have c2 := hb1.trans (hb2.mono hb1.size)
      have c3 := c2.trans (hb3.mono c2.size)
      have c4 := c3.trans (hb4.mono c3.size)
      have c5 := c4.trans (hb5.mono c4.size)
      have c6 := c5.trans (hb6.mono c5.size)
      exact ⟨rfl, c6.trans (hb7.mono c6.size)⟩
end Go.Proofs.Ytfblafpcdlmbjaa

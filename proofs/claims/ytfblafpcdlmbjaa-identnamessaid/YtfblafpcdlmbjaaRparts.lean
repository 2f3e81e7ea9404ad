/-
  Names taken apart as the document answers, by contracts; and where a name is at home.
-/
import Derived.Test.YtfblafpcdlmbjaaApart
import Derived.Test.YtfblafpcdlmbjaaRkinds
namespace Go.Proofs.Ytfblafpcdlmbjaa
open Go.RowKit

set_option maxHeartbeats 2000000 in
theorem refParts_any (s : ByteArray) (c : Int) (w : World) (hs : s.size ≤ 1000000) :
    Calls Try.prog 27 #[.int .u8 c, .string s] w fun e w' => e = .returned (told (parts c s)) ∧ Below w.heap.size w w' := by
  go_enter Try.func27, Try.ntmps27
  go_wp2
  go_loop [7] (fun i => ∃ k : Nat, 1 ≤ k ∧ (k ≤ s.size ∨ k = 1) ∧ i = .int .i64 k ∧ ∀ j, 1 ≤ j → j < k → (ints s).getD j 0 ≠ 58) (fun i => s.size - (intOf i).toNat)
  case atStart => exact ⟨1, Nat.le_refl _, .inr rfl, rfl, fun j h1 h2 => by omega⟩
  case round =>
    obtain ⟨k, h1, hk, rfl, hall⟩ := hrel
    have HA : Hid (∀ j, 1 ≤ j → j < k → (ints s).getD j 0 ≠ 58) := hall
    clear hall
    by_cases hlt : k < s.size
    · have h0 : 0 < s.size := by omega
      have HG0 : Hid ((ints s).getD 0 0 = (s[0].toNat : Int)) := ints_getD s 0 h0
      by_cases hc : (s[0].toNat : Int) = c
      · have HG : Hid ((ints s).getD k 0 = (s[k].toNat : Int)) := ints_getD s k hlt
        by_cases h58 : (s[k].toNat : Int) = 58
        · have HP : Hid (parts c s = if loc (s.extract 1 k) = true ∧ srv (s.extract (k + 1) s.size) = true then (s.extract 1 k, s.extract (k + 1) s.size, true) else (nix, nix, false)) :=
            parts_hit c s k (by rw [HG0.out]; exact hc) h1 hlt (by rw [HG.out]; exact h58) HA.out
          have hl1 : (s.extract 1 k).size ≤ 140737488351232 := by simp; omega
          have hl2 : (s.extract (k + 1) s.size).size ≤ 140737488351232 := by simp; omega
          by_cases hL : loc (s.extract 1 k) = true
          · by_cases hS : srv (s.extract (k + 1) s.size) = true
            · go_wp2_with (first
                | (go_at_call 22; refine (refLocal_any _ _ hl1).mono ?_; rintro e w' ⟨rfl, rfl⟩)
                | (go_at_call 15; refine (refServer_any _ _ hl2).mono ?_; rintro e w' ⟨rfl, rfl⟩))
              go_quiet (fail)
              go_wp2
              go_ret3
              exact ⟨ret_told (by rw [HP.out, if_pos ⟨hL, hS⟩]), below_drewN _ _⟩
            · have hS' : srv (s.extract (k + 1) s.size) = false := by simpa using hS
              go_wp2_with (first
                | (go_at_call 22; refine (refLocal_any _ _ hl1).mono ?_; rintro e w' ⟨rfl, rfl⟩)
                | (go_at_call 15; refine (refServer_any _ _ hl2).mono ?_; rintro e w' ⟨rfl, rfl⟩))
              go_ret3
              exact ⟨ret_told (by rw [HP.out, if_neg (by simp [hS'])]; rfl), Below.refl _ _⟩
          · have hL' : loc (s.extract 1 k) = false := by simpa using hL
            go_wp2_with (go_at_call 22; refine (refLocal_any _ _ hl1).mono ?_; rintro e w' ⟨rfl, rfl⟩)
            go_ret3
            exact ⟨ret_told (by rw [HP.out, if_neg (by simp [hL'])]; rfl), Below.refl _ _⟩
        · go_wp2
          go_round
          case rel => exact ⟨k + 1, by omega, .inl (by omega), by go_num, fun j hj hj' => by
                                by_cases e : j = k
                                · rw [e, HG.out]; exact h58
                                · exact HA.out j hj (by omega)⟩
          case measure => simp [intOf]; omega
      · go_wp2
        go_ret3
        exact ⟨ret_told (parts_other c s (.inr (.inl (by rw [HG0.out]; exact hc)))), Below.refl _ _⟩
    · go_wp2
      go_ret3
      refine ⟨ret_told (parts_other c s ?_), Below.refl _ _⟩
      exact .inr (.inr fun j hj hj' => HA.out j hj (by omega))

set_option maxHeartbeats 1000000 in
theorem refUser_any (s : ByteArray) (w : World) (hs : s.size ≤ 1000000) :
    Calls Try.prog 10 #[.string s] w fun e w' => e = .returned (told (parts 64 s)) ∧ Below w.heap.size w w' := by
  go_enter Try.func10, Try.ntmps10
  go_wp2_with (go_at_call 27; refine (refParts_any s 64 _ hs).mono ?_; rintro e w1 ⟨rfl, hb1⟩; unfold told)
  go_ret3
  exact ⟨rfl, hb1⟩
set_option maxHeartbeats 1000000 in
theorem refRoom_any (s : ByteArray) (w : World) (hs : s.size ≤ 1000000) :
    Calls Try.prog 12 #[.string s] w fun e w' => e = .returned (told (parts 33 s)) ∧ Below w.heap.size w w' := by
  go_enter Try.func12, Try.ntmps12
  go_wp2_with (go_at_call 27; refine (refParts_any s 33 _ hs).mono ?_; rintro e w1 ⟨rfl, hb1⟩; unfold told)
  go_ret3
  exact ⟨rfl, hb1⟩

/-- The server of a user or a room. -/
def home (s : ByteArray) : ByteArray := if (parts 64 s).2.2 = true then (parts 64 s).2.1 else (parts 33 s).2.1
theorem ret_text {a b : ByteArray} (h : a = b) : Ending.returned (.string a) = .returned (.string b) := by rw [h]

set_option maxHeartbeats 1000000 in
theorem home_any (s : ByteArray) (w : World) (hs : s.size ≤ 140737488351232) :
    Calls Try.prog 23 #[.string s] w fun e w' => e = .returned (.string (home s)) ∧ Below w.heap.size w w' := by
  cases hu : (parts 64 s).2.2 with
  | true =>
    go_enter Try.func23, Try.ntmps23
    go_wp2_with (go_at_call 9; refine (user_any s _ hs).mono ?_; rintro e w1 ⟨rfl, hb1⟩; unfold told)
    go_ret
    exact ⟨ret_text (by unfold home; rw [if_pos hu]), hb1⟩
  | false =>
    go_enter Try.func23, Try.ntmps23
    go_wp2_with (first
      | (go_at_call 9; refine (user_any s _ hs).mono ?_; rintro e w1 ⟨rfl, hb1⟩; unfold told)
      | (go_at_call 11; refine (room_any s _ hs).mono ?_; rintro e w2 ⟨rfl, hb2⟩; unfold told))
    go_ret
    exact ⟨ret_text (by unfold home; rw [if_neg (by simp [hu])]), hb1.trans (hb2.mono hb1.size)⟩
set_option maxHeartbeats 1000000 in
theorem refHome_any (s : ByteArray) (w : World) (hs : s.size ≤ 1000000) :
    Calls Try.prog 24 #[.string s] w fun e w' => e = .returned (.string (home s)) ∧ Below w.heap.size w w' := by
  cases hu : (parts 64 s).2.2 with
  | true =>
    go_enter Try.func24, Try.ntmps24
    go_wp2_with (go_at_call 10; refine (refUser_any s _ hs).mono ?_; rintro e w1 ⟨rfl, hb1⟩; unfold told)
    go_ret
    exact ⟨ret_text (by unfold home; rw [if_pos hu]), hb1⟩
  | false =>
    go_enter Try.func24, Try.ntmps24
    go_wp2_with (first
      | (go_at_call 10; refine (refUser_any s _ hs).mono ?_; rintro e w1 ⟨rfl, hb1⟩; unfold told)
      | (go_at_call 12; refine (refRoom_any s _ hs).mono ?_; rintro e w2 ⟨rfl, hb2⟩; unfold told))
    go_ret
    exact ⟨ret_text (by unfold home; rw [if_neg (by simp [hu])]), hb1.trans (hb2.mono hb1.size)⟩
end Go.Proofs.Ytfblafpcdlmbjaa

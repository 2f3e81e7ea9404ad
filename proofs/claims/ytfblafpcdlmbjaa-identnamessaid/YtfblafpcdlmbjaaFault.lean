/-
  spare and fault of base, by their contracts.
-/
import Derived.Test.YtfblafpcdlmbjaaSpread
namespace Go.Proofs.Ytfblafpcdlmbjaa
open Go.RowKit

theorem and15 (x : Int) (h₀ : 0 ≤ x) (h₁ : x < 4294967296) : bits .and .u32 x 15 = x % 16 :=
  bits_mask .u32 32 (by decide) wraps_u32 4 (by decide) x h₀ (by omega)
theorem and3 (x : Int) (h₀ : 0 ≤ x) (h₁ : x < 4294967296) : bits .and .u32 x 3 = x % 4 :=
  bits_mask .u32 32 (by decide) wraps_u32 2 (by decide) x h₀ (by omega)

set_option maxHeartbeats 1000000 in
theorem spare_any (s : ByteArray) (w : World) (hs : s.size ≤ 140737488351232) (h4 : s.size % 4 ≠ 1) :
    Calls Try.prog 50 #[.string s] w fun e w' => e = .returned (.int .u32 (spar (ints s))) ∧ w = w' := by
  have HL : Hid ((ints s).length = s.size) := ints_length s
  by_cases h0 : s.size % 4 = 0
  · have h0' : (s.size : Int) % 4 = 0 := by omega
    go_enter Try.func50, Try.ntmps50
    go_wp2
    go_ret
    exact ⟨ret_int (by unfold spar; rw [HL.out, if_neg (by omega), if_neg (by omega)]), rfl⟩
  have hg := ints_getD s (s.size - 1) (by omega)
  have hb0 : (0 : Int) ≤ (s[s.size - 1].toNat : Int) := by omega
  have hb1 : (s[s.size - 1].toNat : Int) ≤ 255 := by have := s[s.size - 1].toNat_lt; omega
  have n0 := num0_lo (s[s.size - 1].toNat : Int)
  have n1 := num0_hi (s[s.size - 1].toNat : Int)
  have HG : Hid ((ints s).getD (s.size - 1) 0 = (s[s.size - 1].toNat : Int)) := hg
  clear hg
  by_cases h2 : s.size % 4 = 2
  · have h2' : (s.size : Int) % 4 = 2 := by omega
    go_enter Try.func50, Try.ntmps50
    go_wp2_with (go_at_call 49; refine (number_any _ _ (by omega) (by omega)).mono ?_; rintro e w' ⟨rfl, rfl⟩)
    go_ret
    exact ⟨ret_int (by unfold spar; rw [HL.out, if_pos h2, HG.out]; exact and15 _ n0 (by omega)), rfl⟩
  · have h2' : (s.size : Int) % 4 = 3 := by omega
    go_enter Try.func50, Try.ntmps50
    go_wp2_with (go_at_call 49; refine (number_any _ _ (by omega) (by omega)).mono ?_; rintro e w' ⟨rfl, rfl⟩)
    go_ret
    exact ⟨ret_int (by unfold spar; rw [HL.out, if_neg h2, if_pos (by omega), HG.out]; exact and3 _ n0 (by omega)), rfl⟩

theorem ret_two {a b c d : Int} (h : a = c) (hp : b = d) : Ending.returned (.tuple #[.int .i64 a, .int .i64 b]) = .returned (.tuple #[.int .i64 c, .int .i64 d]) := by rw [h, hp]

set_option maxHeartbeats 1000000 in
theorem fault_any (s : ByteArray) (w : World) (hs : s.size ≤ 140737488351232) :
    Calls Try.prog 42 #[.string s] w fun e w' => e = .returned (.tuple #[.int .i64 (flt (ints s)).1, .int .i64 (flt (ints s)).2]) ∧ w = w' := by
  have HL : Hid ((ints s).length = s.size) := ints_length s
  go_enter Try.func42, Try.ntmps42
  go_wp2
  go_loop [9] (fun i => ∃ k : Nat, k ≤ s.size ∧ i = .int .i64 k ∧ ∀ j, j < k → isLet ((ints s).getD j 0) = true) (fun i => s.size - (intOf i).toNat)
  case atStart => exact ⟨0, Nat.zero_le _, rfl, fun j hj => by omega⟩
  case round =>
    obtain ⟨k, hk, rfl, hall⟩ := hrel
    have HA : Hid (∀ j, j < k → isLet ((ints s).getD j 0) = true) := hall
    clear hall
    by_cases hlt : k < s.size
    · have HG : Hid ((ints s).getD k 0 = (s[k].toNat : Int)) := ints_getD s k hlt
      have hb1 : (s[k].toNat : Int) ≤ 255 := by have := s[k].toNat_lt; omega
      by_cases hb : isLet (s[k].toNat : Int) = true
      · go_wp2_with (go_at_call 49; refine (number_any _ _ (by omega) (by omega)).mono ?_; rintro e w' ⟨rfl, rfl⟩)
        go_round
        case rel => exact ⟨k + 1, by omega, by go_num, fun j hj => by
                              by_cases e : j = k
                              · rw [e, HG.out]; exact hb
                              · exact HA.out j (by omega)⟩
        case measure => simp [intOf]; omega
      · have hb' : isLet (s[k].toNat : Int) = false := by simpa using hb
        clear hb
        go_wp2_with (go_at_call 49; refine (number_any _ _ (by omega) (by omega)).mono ?_; rintro e w' ⟨rfl, rfl⟩)
        go_ret2
        have hgood := good_at (ints s) k (by rw [HL.out]; exact hlt) HA.out (by rw [HG.out]; exact hb')
        exact ⟨ret_two (by unfold flt; rw [hgood, HL.out, if_pos hlt]) (by unfold flt; rw [hgood, HL.out, if_pos hlt]), rfl⟩
    · obtain rfl : k = s.size := by omega
      have hgood : Hid (good (ints s) = s.size) := (good_all (ints s) (by rw [HL.out]; exact HA.out)).trans HL.out
      by_cases h1 : s.size % 4 = 1
      · have h1' : (s.size : Int) % 4 = 1 := by omega
        go_wp2
        go_ret2
        exact ⟨ret_two (by unfold flt; rw [hgood.out, HL.out, if_neg (by omega), if_pos h1]) (by unfold flt; rw [hgood.out, HL.out, if_neg (by omega), if_pos h1]), rfl⟩
      · have h1' : ¬ (s.size : Int) % 4 = 1 := by omega
        by_cases hsp : spar (ints s) = 0
        · have hp : Hid (spar (ints s) = 0) := hsp
          go_wp2_with (go_at_call 50; refine (spare_any s _ hs (by omega)).mono ?_; rintro e w' ⟨rfl, rfl⟩)
          go_ret2
          exact ⟨ret_two (by unfold flt; rw [hgood.out, HL.out, if_neg (by omega), if_neg h1, if_neg (by simp [hp.out])]) (by unfold flt; rw [hgood.out, HL.out, if_neg (by omega), if_neg h1, if_neg (by simp [hp.out])]), rfl⟩
        · go_wp2_with (go_at_call 50; refine (spare_any s _ hs (by omega)).mono ?_; rintro e w' ⟨rfl, rfl⟩)
          go_ret2
          exact ⟨ret_two (by unfold flt; rw [hgood.out, HL.out, if_neg (by omega), if_neg h1, if_pos hsp]) (by unfold flt; rw [hgood.out, HL.out, if_neg (by omega), if_neg h1, if_pos hsp]), rfl⟩
end Go.Proofs.Ytfblafpcdlmbjaa

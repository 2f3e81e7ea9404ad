/-
  Servers' names, local names and types, as the document answers: by contracts.
-/
import Derived.Test.YtfblafpcdlmbjaaKinds
namespace Go.Proofs.Ytfblafpcdlmbjaa
open Go.RowKit

set_option maxHeartbeats 1000000 in
theorem refServer_any (s : ByteArray) (w : World) (hs : s.size ≤ 140737488351232) :
    Calls Try.prog 15 #[.string s] w fun e w' => e = .returned (.bool (srv s)) ∧ w = w' := by
  unfold srv
  by_cases he : s.size = 0
  · have he' : (s.size : Int) = 0 := by omega
    go_enter Try.func15, Try.ntmps15
    go_wp2
    go_ret
    exact ⟨ret_bool (okText_none _ _ _ he).symm, rfl⟩
  by_cases hm : 32 < (s.size : Int)
  · go_enter Try.func15, Try.ntmps15
    go_wp2
    go_ret
    exact ⟨ret_bool (okText_long _ _ _ hm).symm, rfl⟩
  go_enter Try.func15, Try.ntmps15
  go_wp2
  go_loop [3] (fun i => ∃ k : Nat, k ≤ s.size ∧ i = .int .i64 k ∧ ∀ j, j < k → kSrv ((ints s).getD j 0) = true) (fun i => s.size - (intOf i).toNat)
  case atStart => exact ⟨0, Nat.zero_le _, rfl, fun j hj => by omega⟩
  case round =>
    obtain ⟨k, hk, rfl, hall⟩ := hrel
    have HA : Hid (∀ j, j < k → kSrv ((ints s).getD j 0) = true) := hall
    clear hall
    by_cases hlt : k < s.size
    · have HG : Hid ((ints s).getD k 0 = (s[k].toNat : Int)) := ints_getD s k hlt
      have hb1 : (s[k].toNat : Int) ≤ 255 := by have := s[k].toNat_lt; omega
      by_cases h0 : small (s[k].toNat : Int) = true
      · have HB : Hid (kSrv ((ints s).getD k 0) = true) := by rw [HG.out]; unfold kSrv; simp [h0]; exact trivial
        go_wp2_with (go_at_call 30; refine (small_any _ _).mono ?_; rintro e w' ⟨rfl, rfl⟩)
        go_round
        case rel => exact ⟨k + 1, by omega, by go_num, fun j hj => by
                              by_cases e : j = k
                              · rw [e]; exact HB.out
                              · exact HA.out j (by omega)⟩
        case measure => simp [intOf]; omega
      have h0' : small (s[k].toNat : Int) = false := by simpa using h0
      clear h0
      by_cases h45 : (s[k].toNat : Int) = 45
      · have HB : Hid (kSrv ((ints s).getD k 0) = true) := by rw [HG.out]; unfold kSrv; simp [h45]; exact trivial
        go_wp2_with (go_at_call 30; refine (small_any _ _).mono ?_; rintro e w' ⟨rfl, rfl⟩)
        go_round
        case rel => exact ⟨k + 1, by omega, by go_num, fun j hj => by
                              by_cases e : j = k
                              · rw [e]; exact HB.out
                              · exact HA.out j (by omega)⟩
        case measure => simp [intOf]; omega
      have HB : Hid (kSrv ((ints s).getD k 0) = false) := by rw [HG.out]; unfold kSrv; simp [h0', h45]; exact trivial
      go_wp2_with (go_at_call 30; refine (small_any _ _).mono ?_; rintro e w' ⟨rfl, rfl⟩)
      go_ret
      exact ⟨ret_bool (okText_bad _ _ _ k hlt HB.out).symm, rfl⟩
    · obtain rfl : k = s.size := by omega
      go_wp2
      go_ret
      exact ⟨ret_bool (okText_all _ _ _ (by omega) (by omega) HA.out).symm, rfl⟩

set_option maxHeartbeats 1000000 in
theorem refLocal_any (s : ByteArray) (w : World) (hs : s.size ≤ 140737488351232) :
    Calls Try.prog 22 #[.string s] w fun e w' => e = .returned (.bool (loc s)) ∧ w = w' := by
  unfold loc
  by_cases he : s.size = 0
  · have he' : (s.size : Int) = 0 := by omega
    go_enter Try.func22, Try.ntmps22
    go_wp2
    go_ret
    exact ⟨ret_bool (okText_none _ _ _ he).symm, rfl⟩
  by_cases hm : 32 < (s.size : Int)
  · go_enter Try.func22, Try.ntmps22
    go_wp2
    go_ret
    exact ⟨ret_bool (okText_long _ _ _ hm).symm, rfl⟩
  go_enter Try.func22, Try.ntmps22
  go_wp2
  go_loop [3] (fun i => ∃ k : Nat, k ≤ s.size ∧ i = .int .i64 k ∧ ∀ j, j < k → kLoc ((ints s).getD j 0) = true) (fun i => s.size - (intOf i).toNat)
  case atStart => exact ⟨0, Nat.zero_le _, rfl, fun j hj => by omega⟩
  case round =>
    obtain ⟨k, hk, rfl, hall⟩ := hrel
    have HA : Hid (∀ j, j < k → kLoc ((ints s).getD j 0) = true) := hall
    clear hall
    by_cases hlt : k < s.size
    · have HG : Hid ((ints s).getD k 0 = (s[k].toNat : Int)) := ints_getD s k hlt
      have hb1 : (s[k].toNat : Int) ≤ 255 := by have := s[k].toNat_lt; omega
      by_cases h0 : small (s[k].toNat : Int) = true
      · have HB : Hid (kLoc ((ints s).getD k 0) = true) := by rw [HG.out]; unfold kLoc; simp [h0]; exact trivial
        go_wp2_with (go_at_call 30; refine (small_any _ _).mono ?_; rintro e w' ⟨rfl, rfl⟩)
        go_round
        case rel => exact ⟨k + 1, by omega, by go_num, fun j hj => by
                              by_cases e : j = k
                              · rw [e]; exact HB.out
                              · exact HA.out j (by omega)⟩
        case measure => simp [intOf]; omega
      have h0' : small (s[k].toNat : Int) = false := by simpa using h0
      clear h0
      by_cases h45 : (s[k].toNat : Int) = 45
      · have HB : Hid (kLoc ((ints s).getD k 0) = true) := by rw [HG.out]; unfold kLoc; simp [h45]; exact trivial
        go_wp2_with (go_at_call 30; refine (small_any _ _).mono ?_; rintro e w' ⟨rfl, rfl⟩)
        go_round
        case rel => exact ⟨k + 1, by omega, by go_num, fun j hj => by
                              by_cases e : j = k
                              · rw [e]; exact HB.out
                              · exact HA.out j (by omega)⟩
        case measure => simp [intOf]; omega
      by_cases h95 : (s[k].toNat : Int) = 95
      · have HB : Hid (kLoc ((ints s).getD k 0) = true) := by rw [HG.out]; unfold kLoc; simp [h95]; exact trivial
        go_wp2_with (go_at_call 30; refine (small_any _ _).mono ?_; rintro e w' ⟨rfl, rfl⟩)
        go_round
        case rel => exact ⟨k + 1, by omega, by go_num, fun j hj => by
                              by_cases e : j = k
                              · rw [e]; exact HB.out
                              · exact HA.out j (by omega)⟩
        case measure => simp [intOf]; omega
      have HB : Hid (kLoc ((ints s).getD k 0) = false) := by rw [HG.out]; unfold kLoc; simp [h0', h45, h95]; exact trivial
      have b45 : ((s[k].toNat : Int) != 45) = true := by simp [h45]
      have b95 : ((s[k].toNat : Int) != 95) = true := by simp [h95]
      go_wp2_with (go_at_call 30; refine (small_any _ _).mono ?_; rintro e w' ⟨rfl, rfl⟩)
      go_ret
      exact ⟨ret_bool (okText_bad _ _ _ k hlt HB.out).symm, rfl⟩
    · obtain rfl : k = s.size := by omega
      go_wp2
      go_ret
      exact ⟨ret_bool (okText_all _ _ _ (by omega) (by omega) HA.out).symm, rfl⟩

set_option maxHeartbeats 1000000 in
theorem refType_any (s : ByteArray) (w : World) (hs : s.size ≤ 140737488351232) :
    Calls Try.prog 17 #[.string s] w fun e w' => e = .returned (.bool (typ s)) ∧ w = w' := by
  unfold typ
  by_cases he : s.size = 0
  · have he' : (s.size : Int) = 0 := by omega
    go_enter Try.func17, Try.ntmps17
    go_wp2
    go_ret
    exact ⟨ret_bool (okText_none _ _ _ he).symm, rfl⟩
  by_cases hm : 64 < (s.size : Int)
  · go_enter Try.func17, Try.ntmps17
    go_wp2
    go_ret
    exact ⟨ret_bool (okText_long _ _ _ hm).symm, rfl⟩
  go_enter Try.func17, Try.ntmps17
  go_wp2
  go_loop [3] (fun i => ∃ k : Nat, k ≤ s.size ∧ i = .int .i64 k ∧ ∀ j, j < k → kTyp ((ints s).getD j 0) = true) (fun i => s.size - (intOf i).toNat)
  case atStart => exact ⟨0, Nat.zero_le _, rfl, fun j hj => by omega⟩
  case round =>
    obtain ⟨k, hk, rfl, hall⟩ := hrel
    have HA : Hid (∀ j, j < k → kTyp ((ints s).getD j 0) = true) := hall
    clear hall
    by_cases hlt : k < s.size
    · have HG : Hid ((ints s).getD k 0 = (s[k].toNat : Int)) := ints_getD s k hlt
      have hb1 : (s[k].toNat : Int) ≤ 255 := by have := s[k].toNat_lt; omega
      by_cases h0 : small (s[k].toNat : Int) = true
      · have HB : Hid (kTyp ((ints s).getD k 0) = true) := by rw [HG.out]; unfold kTyp; simp [h0]; exact trivial
        go_wp2_with (go_at_call 30; refine (small_any _ _).mono ?_; rintro e w' ⟨rfl, rfl⟩)
        go_round
        case rel => exact ⟨k + 1, by omega, by go_num, fun j hj => by
                              by_cases e : j = k
                              · rw [e]; exact HB.out
                              · exact HA.out j (by omega)⟩
        case measure => simp [intOf]; omega
      have h0' : small (s[k].toNat : Int) = false := by simpa using h0
      clear h0
      by_cases h95 : (s[k].toNat : Int) = 95
      · have HB : Hid (kTyp ((ints s).getD k 0) = true) := by rw [HG.out]; unfold kTyp; simp [h95]; exact trivial
        go_wp2_with (go_at_call 30; refine (small_any _ _).mono ?_; rintro e w' ⟨rfl, rfl⟩)
        go_round
        case rel => exact ⟨k + 1, by omega, by go_num, fun j hj => by
                              by_cases e : j = k
                              · rw [e]; exact HB.out
                              · exact HA.out j (by omega)⟩
        case measure => simp [intOf]; omega
      have HB : Hid (kTyp ((ints s).getD k 0) = false) := by rw [HG.out]; unfold kTyp; simp [h0', h95]; exact trivial
      go_wp2_with (go_at_call 30; refine (small_any _ _).mono ?_; rintro e w' ⟨rfl, rfl⟩)
      go_ret
      exact ⟨ret_bool (okText_bad _ _ _ k hlt HB.out).symm, rfl⟩
    · obtain rfl : k = s.size := by omega
      go_wp2
      go_ret
      exact ⟨ret_bool (okText_all _ _ _ (by omega) (by omega) HA.out).symm, rfl⟩

end Go.Proofs.Ytfblafpcdlmbjaa

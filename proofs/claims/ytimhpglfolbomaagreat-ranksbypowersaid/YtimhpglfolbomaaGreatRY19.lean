/-
  Rune, by a contract.
  The document's good values, by contracts.
  Choosing the least key again and again puts keys in order.
-/
import Derived.Test.YtimhpglfolbomaaGreatRY18
set_option maxRecDepth 100000
set_option maxHeartbeats 16000000
namespace Go.Proofs.YtimhpglfolbomaaGreat
open Go.RowKit
theorem s_at (s : ByteArray) (p : Nat) (hp : p < s.size) : ((s[p]'hp).toNat : Int) = byteAt (ints s) p := by
 unfold byteAt
 rw [ints_getD s p hp]
theorem byte_wrap {b : Int} (h : 0 ≤ b ∧ b ≤ 255) : wrap64 b = b := by
 unfold wrap64
 omega
def accU (t : List Int) (p : Nat) (c : Int) : Nat → Int
 | 0 => c
 | k + 1 => accU t p c k * 64 + byteAt t (p + (k + 1)) % 64
theorem acc_bd (t : List Int) (p : Nat) (c : Int) (h : 0 ≤ c ∧ c ≤ 31) : ∀ n, n ≤ 3 → 0 ≤ accU t p c n ∧ accU t p c n ≤ 32 * 64 ^ n - 1 := by
 have e1 : accU t p c 1 = c * 64 + byteAt t (p + 1) % 64 := rfl
 have e2 : accU t p c 2 = (c * 64 + byteAt t (p + 1) % 64) * 64 + byteAt t (p + 2) % 64 := rfl
 have e3 : accU t p c 3 = ((c * 64 + byteAt t (p + 1) % 64) * 64 + byteAt t (p + 2) % 64) * 64 + byteAt t (p + 3) % 64 := rfl
 intro n hn
 match n, hn with
 | 0, _ => exact ⟨h.1, by show c ≤ _; omega⟩
 | 1, _ => rw [e1]; omega
 | 2, _ => rw [e2]; omega
 | 3, _ => rw [e3]; omega
def runeM (t : List Int) (p : Nat) (many : Nat) (least c : Int) : Int × Nat :=
 if (∀ k, k < many → contAt t (p + (k + 1)) = true) ∧ least ≤ accU t p c many ∧ letterOk (accU t p c many) = true then (accU t p c many, many + 1) else (0, 0)
theorem rune_low1 (s : ByteArray) (p : Nat) (w : World) (hp : p < s.size) (b : Int) (hb : byteAt (ints s) p = b) (h0 : 0 ≤ b ∧ b ≤ 255) (hlow : b < 128) :
    Calls Tryz.prog 171 #[.string s, .int .i64 p] w fun x w' => x = .returned (.tuple #[.int .i64 b, .int .i64 1]) ∧ w = w' := by
 have e0 := s_at s p hp
 rw [hb] at e0
 have e1 := byte_wrap h0
 have hpi : (p : Int) < s.size := by omega
 go_enter Tryz.func171, Tryz.ntmps171
 go_wp2
 go_ret2
 exact ⟨rfl, rfl⟩
theorem rune_bad1 (s : ByteArray) (p : Nat) (w : World) (hp : p < s.size) (b : Int) (hb : byteAt (ints s) p = b) (h0 : 0 ≤ b ∧ b ≤ 255) (hlow : 128 ≤ b) (hbad : b < 192 ∨ 248 ≤ b) :
    Calls Tryz.prog 171 #[.string s, .int .i64 p] w fun x w' => x = .returned (.tuple #[.int .i64 0, .int .i64 0]) ∧ w = w' := by
 have e0 := s_at s p hp
 rw [hb] at e0
 have e1 := byte_wrap h0
 have hpi : (p : Int) < s.size := by omega
 rcases hbad with hbad | hbad
 · go_enter Tryz.func171, Tryz.ntmps171
   go_wp2
   go_ret2
   exact ⟨rfl, rfl⟩
 · go_enter Tryz.func171, Tryz.ntmps171
   go_wp2
   go_ret2
   exact ⟨rfl, rfl⟩
theorem rune_more1 (s : ByteArray) (p : Nat) (w : World) (hp : p < s.size) (hs : s.size ≤ 1000000000) (b : Int) (hb : byteAt (ints s) p = b) (h0 : 0 ≤ b ∧ b ≤ 255) (hlo : 192 ≤ b) (hhi : b < 224) :
    Calls Tryz.prog 171 #[.string s, .int .i64 p] w fun x w' => x = .returned (.tuple #[.int .i64 (runeM (ints s) p 1 128 (b % 32)).1, .int .i64 ((runeM (ints s) p 1 128 (b % 32)).2 : Nat)]) ∧ w = w' := by
 have e0 := s_at s p hp
 rw [hb] at e0
 have e1 := byte_wrap h0
 have hpi : (p : Int) < s.size := by omega
 have em : bits .and .i64 b 31 = b % 32 := and_31 b h0.1 h0.2
 have hbd : ∀ i, 0 ≤ byteAt (ints s) i ∧ byteAt (ints s) i ≤ 255 := byte_bd s
 have HB : Hid (∀ i, 0 ≤ byteAt (ints s) i ∧ byteAt (ints s) i ≤ 255) := hbd
 clear hbd
 obtain ⟨c0, hc0⟩ : ∃ c, b % 32 = c := ⟨_, rfl⟩
 have hcb : 0 ≤ c0 ∧ c0 ≤ 31 := by omega
 rw [hc0] at em ⊢
 go_enter Tryz.func171, Tryz.ntmps171
 go_wp2
 go_loopw [6, 9] (fun c i wr => ∃ n : Nat, i = .int .i64 ((n : Int) + 1) ∧ n ≤ 1 ∧ c = .int .i64 (accU (ints s) p c0 n) ∧ Hid (∀ k, k < n → contAt (ints s) (p + (k + 1)) = true) ∧ wr = w) (fun c i _ => 1 + 1 - (intOf i).toNat)
 case atStart => exact ⟨0, rfl, by omega, rfl, fun k hk => absurd hk (by omega), rfl⟩
 case round =>
  obtain ⟨n, rfl, hn, rfl, HC, rfl⟩ := hrel
  have hab := acc_bd (ints s) p c0 hcb n (by omega)
  have hab2 : 0 ≤ accU (ints s) p c0 n ∧ accU (ints s) p c0 n ≤ 10000000 := by
   refine ⟨hab.1, ?_⟩
   have : (64 : Int) ^ n ≤ 64 ^ 3 := by
    have := Nat.pow_le_pow_right (n := 64) (by decide) (show n ≤ 3 by omega)
    exact_mod_cast this
   omega
  obtain ⟨A, hA⟩ : ∃ A, accU (ints s) p c0 n = A := ⟨_, rfl⟩
  rw [hA] at hab2 ⊢
  have HA : Hid (accU (ints s) p c0 n = A) := hA
  clear hab hA
  by_cases hnM : n < 1
  · have hsmall : A ≤ 131071 := by
      have h1 := acc_bd (ints s) p c0 hcb n (by omega)
      rw [HA.out] at h1
      have : (64 : Int) ^ n ≤ 64 ^ 2 := by
       have := Nat.pow_le_pow_right (n := 64) (by decide) (show n ≤ 2 by omega)
       exact_mod_cast this
      omega
    have hM1 : (n : Int) + 1 ≤ 1 := by omega
    have HNM : Hid (n < 1) := hnM
    clear hnM
    by_cases hin : p + (n + 1) < s.size
    · have hini : (p : Int) + ((n : Int) + 1) < s.size := by omega
      have e2 := s_at s (p + (n + 1)) hin
      obtain ⟨b1, hb1⟩ : ∃ b1, byteAt (ints s) (p + (n + 1)) = b1 := ⟨_, rfl⟩
      have hbb := HB.out (p + (n + 1))
      rw [hb1] at e2 hbb
      have a1 := and_192 b1 hbb.1 hbb.2
      have a2 := and_63 b1 hbb.1 hbb.2
      have a3 := or_64 A (b1 % 64) hab2.1 (by omega) (by omega) (by omega)
      by_cases hcont : b1 / 64 * 64 = 128
      · have HC1 : Hid (contAt (ints s) (p + (n + 1)) = true) := by show _ = _; unfold contAt; rw [hb1]; exact decide_eq_true (by omega)
        go_wp2
        go_roundw
        case rel =>
         refine ⟨n + 1, by go_num, by omega, ?_, fun k hk => ?_, trivial⟩
         · rw [accU, HA.out, hb1]
         · rcases Nat.lt_or_ge k n with h | h
           · exact HC.out k h
           · obtain rfl : k = n := by omega
             exact HC1.out
        case measure => simp [intOf]; omega
      · have HR : Hid (runeM (ints s) p 1 128 c0 = (0, 0)) := by
          show _ = _
          unfold runeM
          refine if_neg fun h => ?_
          have := h.1 n HNM.out
          unfold contAt at this
          rw [hb1] at this
          have := of_decide_eq_true this
          omega
        have hne : (b1 / 64 * 64 != 128) = true := by simp [hcont]
        go_wp2
        go_ret2
        rw [HR.out]
        exact ⟨rfl, rfl⟩
    · have hini : ¬ ((p : Int) + ((n : Int) + 1) < s.size) := by omega
      have HR : Hid (runeM (ints s) p 1 128 c0 = (0, 0)) := by
       show _ = _
       unfold runeM
       refine if_neg fun h => ?_
       have h1 := h.1 n HNM.out
       have h2 : byteAt (ints s) (p + (n + 1)) = 0 := byte_past s (p + (n + 1)) (by omega)
       unfold contAt at h1
       rw [h2] at h1
       exact absurd (of_decide_eq_true h1) (by decide)
      go_wp2
      go_ret2
      rw [HR.out]
      exact ⟨rfl, rfl⟩
  · obtain rfl : n = 1 := by omega
    have hLt := letter_any A hab2.1
    by_cases hl : 128 ≤ A
    · cases hlet : letterOk A with
      | true =>
       have HR : Hid (runeM (ints s) p 1 128 c0 = (A, 1 + 1)) := by
        show _ = _
        unfold runeM
        rw [HA.out, if_pos ⟨HC.out, hl, hlet⟩]
       rw [hlet] at hLt
       go_wp2_with (go_at_call 181; refine (hLt _).mono ?_; rintro x w' ⟨rfl, rfl⟩)
       go_ret2
       rw [HR.out]
       exact ⟨rfl, rfl⟩
      | false =>
       have HR : Hid (runeM (ints s) p 1 128 c0 = (0, 0)) := by
        show _ = _
        unfold runeM
        rw [HA.out, if_neg (fun h => by rw [hlet] at h; cases h.2.2)]
       rw [hlet] at hLt
       go_wp2_with (go_at_call 181; refine (hLt _).mono ?_; rintro x w' ⟨rfl, rfl⟩)
       go_ret2
       rw [HR.out]
       exact ⟨rfl, rfl⟩
    · have HR : Hid (runeM (ints s) p 1 128 c0 = (0, 0)) := by
        show _ = _
        unfold runeM
        rw [HA.out, if_neg (fun h => hl h.2.1)]
      go_wp2
      go_ret2
      rw [HR.out]
      exact ⟨rfl, rfl⟩
theorem rune_more2 (s : ByteArray) (p : Nat) (w : World) (hp : p < s.size) (hs : s.size ≤ 1000000000) (b : Int) (hb : byteAt (ints s) p = b) (h0 : 0 ≤ b ∧ b ≤ 255) (hlo : 224 ≤ b) (hhi : b < 240) :
    Calls Tryz.prog 171 #[.string s, .int .i64 p] w fun x w' => x = .returned (.tuple #[.int .i64 (runeM (ints s) p 2 2048 (b % 16)).1, .int .i64 ((runeM (ints s) p 2 2048 (b % 16)).2 : Nat)]) ∧ w = w' := by
 have e0 := s_at s p hp
 rw [hb] at e0
 have e1 := byte_wrap h0
 have hpi : (p : Int) < s.size := by omega
 have em : bits .and .i64 b 15 = b % 16 := and_15 b h0.1 h0.2
 have hbd : ∀ i, 0 ≤ byteAt (ints s) i ∧ byteAt (ints s) i ≤ 255 := byte_bd s
 have HB : Hid (∀ i, 0 ≤ byteAt (ints s) i ∧ byteAt (ints s) i ≤ 255) := hbd
 clear hbd
 obtain ⟨c0, hc0⟩ : ∃ c, b % 16 = c := ⟨_, rfl⟩
 have hcb : 0 ≤ c0 ∧ c0 ≤ 31 := by omega
 rw [hc0] at em ⊢
 go_enter Tryz.func171, Tryz.ntmps171
 go_wp2
 go_loopw [6, 9] (fun c i wr => ∃ n : Nat, i = .int .i64 ((n : Int) + 1) ∧ n ≤ 2 ∧ c = .int .i64 (accU (ints s) p c0 n) ∧ Hid (∀ k, k < n → contAt (ints s) (p + (k + 1)) = true) ∧ wr = w) (fun c i _ => 2 + 1 - (intOf i).toNat)
 case atStart => exact ⟨0, rfl, by omega, rfl, fun k hk => absurd hk (by omega), rfl⟩
 case round =>
  obtain ⟨n, rfl, hn, rfl, HC, rfl⟩ := hrel
  have hab := acc_bd (ints s) p c0 hcb n (by omega)
  have hab2 : 0 ≤ accU (ints s) p c0 n ∧ accU (ints s) p c0 n ≤ 10000000 := by
   refine ⟨hab.1, ?_⟩
   have : (64 : Int) ^ n ≤ 64 ^ 3 := by
    have := Nat.pow_le_pow_right (n := 64) (by decide) (show n ≤ 3 by omega)
    exact_mod_cast this
   omega
  obtain ⟨A, hA⟩ : ∃ A, accU (ints s) p c0 n = A := ⟨_, rfl⟩
  rw [hA] at hab2 ⊢
  have HA : Hid (accU (ints s) p c0 n = A) := hA
  clear hab hA
  by_cases hnM : n < 2
  · have hsmall : A ≤ 131071 := by
      have h1 := acc_bd (ints s) p c0 hcb n (by omega)
      rw [HA.out] at h1
      have : (64 : Int) ^ n ≤ 64 ^ 2 := by
       have := Nat.pow_le_pow_right (n := 64) (by decide) (show n ≤ 2 by omega)
       exact_mod_cast this
      omega
    have hM1 : (n : Int) + 1 ≤ 2 := by omega
    have HNM : Hid (n < 2) := hnM
    clear hnM
    by_cases hin : p + (n + 1) < s.size
    · have hini : (p : Int) + ((n : Int) + 1) < s.size := by omega
      have e2 := s_at s (p + (n + 1)) hin
      obtain ⟨b1, hb1⟩ : ∃ b1, byteAt (ints s) (p + (n + 1)) = b1 := ⟨_, rfl⟩
      have hbb := HB.out (p + (n + 1))
      rw [hb1] at e2 hbb
      have a1 := and_192 b1 hbb.1 hbb.2
      have a2 := and_63 b1 hbb.1 hbb.2
      have a3 := or_64 A (b1 % 64) hab2.1 (by omega) (by omega) (by omega)
      by_cases hcont : b1 / 64 * 64 = 128
      · have HC1 : Hid (contAt (ints s) (p + (n + 1)) = true) := by show _ = _; unfold contAt; rw [hb1]; exact decide_eq_true (by omega)
        go_wp2
        go_roundw
        case rel =>
         refine ⟨n + 1, by go_num, by omega, ?_, fun k hk => ?_, trivial⟩
         · rw [accU, HA.out, hb1]
         · rcases Nat.lt_or_ge k n with h | h
           · exact HC.out k h
           · obtain rfl : k = n := by omega
             exact HC1.out
        case measure => simp [intOf]; omega
      · have HR : Hid (runeM (ints s) p 2 2048 c0 = (0, 0)) := by
          show _ = _
          unfold runeM
          refine if_neg fun h => ?_
          have := h.1 n HNM.out
          unfold contAt at this
          rw [hb1] at this
          have := of_decide_eq_true this
          omega
        have hne : (b1 / 64 * 64 != 128) = true := by simp [hcont]
        go_wp2
        go_ret2
        rw [HR.out]
        exact ⟨rfl, rfl⟩
    · have hini : ¬ ((p : Int) + ((n : Int) + 1) < s.size) := by omega
      have HR : Hid (runeM (ints s) p 2 2048 c0 = (0, 0)) := by
       show _ = _
       unfold runeM
       refine if_neg fun h => ?_
       have h1 := h.1 n HNM.out
       have h2 : byteAt (ints s) (p + (n + 1)) = 0 := byte_past s (p + (n + 1)) (by omega)
       unfold contAt at h1
       rw [h2] at h1
       exact absurd (of_decide_eq_true h1) (by decide)
      go_wp2
      go_ret2
      rw [HR.out]
      exact ⟨rfl, rfl⟩
  · obtain rfl : n = 2 := by omega
    have hLt := letter_any A hab2.1
    by_cases hl : 2048 ≤ A
    · cases hlet : letterOk A with
      | true =>
       have HR : Hid (runeM (ints s) p 2 2048 c0 = (A, 2 + 1)) := by
        show _ = _
        unfold runeM
        rw [HA.out, if_pos ⟨HC.out, hl, hlet⟩]
       rw [hlet] at hLt
       go_wp2_with (go_at_call 181; refine (hLt _).mono ?_; rintro x w' ⟨rfl, rfl⟩)
       go_ret2
       rw [HR.out]
       exact ⟨rfl, rfl⟩
      | false =>
       have HR : Hid (runeM (ints s) p 2 2048 c0 = (0, 0)) := by
        show _ = _
        unfold runeM
        rw [HA.out, if_neg (fun h => by rw [hlet] at h; cases h.2.2)]
       rw [hlet] at hLt
       go_wp2_with (go_at_call 181; refine (hLt _).mono ?_; rintro x w' ⟨rfl, rfl⟩)
       go_ret2
       rw [HR.out]
       exact ⟨rfl, rfl⟩
    · have HR : Hid (runeM (ints s) p 2 2048 c0 = (0, 0)) := by
        show _ = _
        unfold runeM
        rw [HA.out, if_neg (fun h => hl h.2.1)]
      go_wp2
      go_ret2
      rw [HR.out]
      exact ⟨rfl, rfl⟩
theorem rune_more3 (s : ByteArray) (p : Nat) (w : World) (hp : p < s.size) (hs : s.size ≤ 1000000000) (b : Int) (hb : byteAt (ints s) p = b) (h0 : 0 ≤ b ∧ b ≤ 255) (hlo : 240 ≤ b) (hhi : b < 248) :
    Calls Tryz.prog 171 #[.string s, .int .i64 p] w fun x w' => x = .returned (.tuple #[.int .i64 (runeM (ints s) p 3 65536 (b % 8)).1, .int .i64 ((runeM (ints s) p 3 65536 (b % 8)).2 : Nat)]) ∧ w = w' := by
 have e0 := s_at s p hp
 rw [hb] at e0
 have e1 := byte_wrap h0
 have hpi : (p : Int) < s.size := by omega
 have em : bits .and .i64 b 7 = b % 8 := and_7 b h0.1 h0.2
 have hbd : ∀ i, 0 ≤ byteAt (ints s) i ∧ byteAt (ints s) i ≤ 255 := byte_bd s
 have HB : Hid (∀ i, 0 ≤ byteAt (ints s) i ∧ byteAt (ints s) i ≤ 255) := hbd
 clear hbd
 obtain ⟨c0, hc0⟩ : ∃ c, b % 8 = c := ⟨_, rfl⟩
 have hcb : 0 ≤ c0 ∧ c0 ≤ 31 := by omega
 rw [hc0] at em ⊢
 go_enter Tryz.func171, Tryz.ntmps171
 go_wp2
 go_loopw [6, 9] (fun c i wr => ∃ n : Nat, i = .int .i64 ((n : Int) + 1) ∧ n ≤ 3 ∧ c = .int .i64 (accU (ints s) p c0 n) ∧ Hid (∀ k, k < n → contAt (ints s) (p + (k + 1)) = true) ∧ wr = w) (fun c i _ => 3 + 1 - (intOf i).toNat)
 case atStart => exact ⟨0, rfl, by omega, rfl, fun k hk => absurd hk (by omega), rfl⟩
 case round =>
  obtain ⟨n, rfl, hn, rfl, HC, rfl⟩ := hrel
  have hab := acc_bd (ints s) p c0 hcb n (by omega)
  have hab2 : 0 ≤ accU (ints s) p c0 n ∧ accU (ints s) p c0 n ≤ 10000000 := by
   refine ⟨hab.1, ?_⟩
   have : (64 : Int) ^ n ≤ 64 ^ 3 := by
    have := Nat.pow_le_pow_right (n := 64) (by decide) (show n ≤ 3 by omega)
    exact_mod_cast this
   omega
  obtain ⟨A, hA⟩ : ∃ A, accU (ints s) p c0 n = A := ⟨_, rfl⟩
  rw [hA] at hab2 ⊢
  have HA : Hid (accU (ints s) p c0 n = A) := hA
  clear hab hA
  by_cases hnM : n < 3
  · have hsmall : A ≤ 131071 := by
      have h1 := acc_bd (ints s) p c0 hcb n (by omega)
      rw [HA.out] at h1
      have : (64 : Int) ^ n ≤ 64 ^ 2 := by
       have := Nat.pow_le_pow_right (n := 64) (by decide) (show n ≤ 2 by omega)
       exact_mod_cast this
      omega
    have hM1 : (n : Int) + 1 ≤ 3 := by omega
    have HNM : Hid (n < 3) := hnM
    clear hnM
    by_cases hin : p + (n + 1) < s.size
    · have hini : (p : Int) + ((n : Int) + 1) < s.size := by omega
      have e2 := s_at s (p + (n + 1)) hin
      obtain ⟨b1, hb1⟩ : ∃ b1, byteAt (ints s) (p + (n + 1)) = b1 := ⟨_, rfl⟩
      have hbb := HB.out (p + (n + 1))
      rw [hb1] at e2 hbb
      have a1 := and_192 b1 hbb.1 hbb.2
      have a2 := and_63 b1 hbb.1 hbb.2
      have a3 := or_64 A (b1 % 64) hab2.1 (by omega) (by omega) (by omega)
      by_cases hcont : b1 / 64 * 64 = 128
      · have HC1 : Hid (contAt (ints s) (p + (n + 1)) = true) := by show _ = _; unfold contAt; rw [hb1]; exact decide_eq_true (by omega)
        go_wp2
        go_roundw
        case rel =>
         refine ⟨n + 1, by go_num, by omega, ?_, fun k hk => ?_, trivial⟩
         · rw [accU, HA.out, hb1]
         · rcases Nat.lt_or_ge k n with h | h
           · exact HC.out k h
           · obtain rfl : k = n := by omega
             exact HC1.out
        case measure => simp [intOf]; omega
      · have HR : Hid (runeM (ints s) p 3 65536 c0 = (0, 0)) := by
          show _ = _
          unfold runeM
          refine if_neg fun h => ?_
          have := h.1 n HNM.out
          unfold contAt at this
          rw [hb1] at this
          have := of_decide_eq_true this
          omega
        have hne : (b1 / 64 * 64 != 128) = true := by simp [hcont]
        go_wp2
        go_ret2
        rw [HR.out]
        exact ⟨rfl, rfl⟩
    · have hini : ¬ ((p : Int) + ((n : Int) + 1) < s.size) := by omega
      have HR : Hid (runeM (ints s) p 3 65536 c0 = (0, 0)) := by
       show _ = _
       unfold runeM
       refine if_neg fun h => ?_
       have h1 := h.1 n HNM.out
       have h2 : byteAt (ints s) (p + (n + 1)) = 0 := byte_past s (p + (n + 1)) (by omega)
       unfold contAt at h1
       rw [h2] at h1
       exact absurd (of_decide_eq_true h1) (by decide)
      go_wp2
      go_ret2
      rw [HR.out]
      exact ⟨rfl, rfl⟩
  · obtain rfl : n = 3 := by omega
    have hLt := letter_any A hab2.1
    by_cases hl : 65536 ≤ A
    · cases hlet : letterOk A with
      | true =>
       have HR : Hid (runeM (ints s) p 3 65536 c0 = (A, 3 + 1)) := by
        show _ = _
        unfold runeM
        rw [HA.out, if_pos ⟨HC.out, hl, hlet⟩]
       rw [hlet] at hLt
       go_wp2_with (go_at_call 181; refine (hLt _).mono ?_; rintro x w' ⟨rfl, rfl⟩)
       go_ret2
       rw [HR.out]
       exact ⟨rfl, rfl⟩
      | false =>
       have HR : Hid (runeM (ints s) p 3 65536 c0 = (0, 0)) := by
        show _ = _
        unfold runeM
        rw [HA.out, if_neg (fun h => by rw [hlet] at h; cases h.2.2)]
       rw [hlet] at hLt
       go_wp2_with (go_at_call 181; refine (hLt _).mono ?_; rintro x w' ⟨rfl, rfl⟩)
       go_ret2
       rw [HR.out]
       exact ⟨rfl, rfl⟩
    · have HR : Hid (runeM (ints s) p 3 65536 c0 = (0, 0)) := by
        show _ = _
        unfold runeM
        rw [HA.out, if_neg (fun h => hl h.2.1)]
      go_wp2
      go_ret2
      rw [HR.out]
      exact ⟨rfl, rfl⟩
theorem runeM_1 {t : List Int} {p : Nat} (hb : ∀ i, 0 ≤ byteAt t i ∧ byteAt t i ≤ 255) (h1 : 192 ≤ byteAt t p) (h2 : byteAt t p < 224) : runeAt t p = runeM t p 1 128 (byteAt t p % 32) := by
 have e1 : accU t p (byteAt t p % 32) 1 = byteAt t p % 32 * 64 + byteAt t (p + 1) % 64 := rfl
 have q1 := hb (p + 1)
 unfold runeAt runeM
 rw [e1, if_neg (by omega)]
 by_cases c1 : contAt t (p + 1) = true
 · rw [if_pos (by rw [c1, decide_eq_true (show byteAt t p / 32 = 6 by omega)]; rfl)]
   split
   · rename_i hl
     have hlet : letterOk (byteAt t p % 32 * 64 + byteAt t (p + 1) % 64) = true := by
      unfold letterOk
      simp only [Bool.and_eq_true, Bool.or_eq_true, decide_eq_true_eq]
      omega
     rw [if_pos ⟨fun k hk => (by obtain rfl : k = 0 := (by omega); exact c1), hl, hlet⟩]
   · rename_i hl
     rw [if_neg fun h => hl h.2.1]
 · rw [if_neg (fun h => c1 (Bool.and_eq_true _ _ ▸ h : _ ∧ _).2), decide_eq_false (show ¬ byteAt t p / 16 = 14 by omega), decide_eq_false (show ¬ byteAt t p / 8 = 30 by omega)]
   rw [if_neg (by simp), if_neg (by simp), if_neg fun h => c1 (h.1 0 (by omega))]
theorem runeM_2 {t : List Int} {p : Nat} (h1 : 224 ≤ byteAt t p) (h2 : byteAt t p < 240) : runeAt t p = runeM t p 2 2048 (byteAt t p % 16) := by
 have e1 : accU t p (byteAt t p % 16) 2 = byteAt t p % 16 * 4096 + byteAt t (p + 1) % 64 * 64 + byteAt t (p + 2) % 64 := by
  show (byteAt t p % 16 * 64 + byteAt t (p + 1) % 64) * 64 + byteAt t (p + 2) % 64 = _
  omega
 unfold runeAt runeM
 rw [e1, if_neg (by omega), decide_eq_false (show ¬ byteAt t p / 32 = 6 by omega), decide_eq_true (show byteAt t p / 16 = 14 by omega), decide_eq_false (show ¬ byteAt t p / 8 = 30 by omega), if_neg (by simp)]
 generalize byteAt t p % 16 * 4096 + byteAt t (p + 1) % 64 * 64 + byteAt t (p + 2) % 64 = A
 by_cases c1 : contAt t (p + 1) = true ∧ contAt t (p + 2) = true
 · rw [if_pos (by rw [c1.1, c1.2]; rfl)]
   by_cases hl : 2048 ≤ A ∧ letterOk A = true
   · rw [if_pos (by rw [hl.2, decide_eq_true hl.1]; rfl), if_pos ⟨fun k hk => by
       match k, hk with
       | 0, _ => exact c1.1
       | 1, _ => exact c1.2, hl.1, hl.2⟩]
   · rw [if_neg (fun h => hl (by simpa using h)), if_neg fun h => hl h.2]
 · rw [if_neg (fun h => c1 (by simpa using h)), if_neg (by simp), if_neg fun h => c1 ⟨h.1 0 (by omega), h.1 1 (by omega)⟩]
theorem runeM_3 {t : List Int} {p : Nat} (h1 : 240 ≤ byteAt t p) (h2 : byteAt t p < 248) : runeAt t p = runeM t p 3 65536 (byteAt t p % 8) := by
 have e1 : accU t p (byteAt t p % 8) 3 = byteAt t p % 8 * 262144 + byteAt t (p + 1) % 64 * 4096 + byteAt t (p + 2) % 64 * 64 + byteAt t (p + 3) % 64 := by
  show ((byteAt t p % 8 * 64 + byteAt t (p + 1) % 64) * 64 + byteAt t (p + 2) % 64) * 64 + byteAt t (p + 3) % 64 = _
  omega
 unfold runeAt runeM
 rw [e1, if_neg (by omega), decide_eq_false (show ¬ byteAt t p / 32 = 6 by omega), decide_eq_false (show ¬ byteAt t p / 16 = 14 by omega), decide_eq_true (show byteAt t p / 8 = 30 by omega), if_neg (by simp), if_neg (by simp)]
 generalize byteAt t p % 8 * 262144 + byteAt t (p + 1) % 64 * 4096 + byteAt t (p + 2) % 64 * 64 + byteAt t (p + 3) % 64 = A
 by_cases c1 : contAt t (p + 1) = true ∧ contAt t (p + 2) = true ∧ contAt t (p + 3) = true
 · rw [if_pos (by rw [c1.1, c1.2.1, c1.2.2]; rfl)]
   by_cases hl : 65536 ≤ A ∧ letterOk A = true
   · rw [if_pos (by rw [hl.2, decide_eq_true hl.1]; rfl), if_pos ⟨fun k hk => by
       match k, hk with
       | 0, _ => exact c1.1
       | 1, _ => exact c1.2.1
       | 2, _ => exact c1.2.2, hl.1, hl.2⟩]
   · rw [if_neg (fun h => hl (by simpa using h)), if_neg fun h => hl h.2]
 · rw [if_neg (fun h => c1 (by simp at h; exact ⟨h.1.1, h.1.2, h.2⟩)), if_neg fun h => c1 ⟨h.1 0 (by omega), h.1 1 (by omega), h.1 2 (by omega)⟩]
theorem rune_none {t : List Int} {p : Nat} (h1 : 128 ≤ byteAt t p) (h2 : byteAt t p < 192 ∨ 248 ≤ byteAt t p) : runeAt t p = (0, 0) := by
 unfold runeAt
 rw [if_neg (by omega), decide_eq_false (show ¬ byteAt t p / 32 = 6 by omega), decide_eq_false (show ¬ byteAt t p / 16 = 14 by omega), decide_eq_false (show ¬ byteAt t p / 8 = 30 by omega), if_neg (by simp), if_neg (by simp), if_neg (by simp)]
theorem runes : Runes := fun s p w hp hs => by
 have hbd := byte_bd s
 have h0 := hbd p
 by_cases c1 : byteAt (ints s) p < 128
 · have e : runeAt (ints s) p = (byteAt (ints s) p, 1) := by unfold runeAt; rw [if_pos c1]
   rw [e]
   exact rune_low1 s p w hp _ rfl h0 c1
 by_cases c2 : byteAt (ints s) p < 192 ∨ 248 ≤ byteAt (ints s) p
 · rw [rune_none (by omega) c2]
   exact rune_bad1 s p w hp _ rfl h0 (by omega) c2
 by_cases c3 : byteAt (ints s) p < 224
 · rw [runeM_1 hbd (by omega) c3]
   exact rune_more1 s p w hp hs _ rfl h0 (by omega) c3
 by_cases c4 : byteAt (ints s) p < 240
 · rw [runeM_2 (by omega) c4]
   exact rune_more2 s p w hp hs _ rfl h0 (by omega) c4
 · rw [runeM_3 (by omega) (by omega)]
   exact rune_more3 s p w hp hs _ rfl h0 (by omega) (by omega)
theorem goodK_of {ks : List ByteArray} (h1 : ∀ m, m < ks.length → letters (keyAtK ks m) = true) (h2 : ∀ b, b < ks.length → ∀ a, a < b → keyAtK ks a ≠ keyAtK ks b) : goodK ks = true := by
 unfold goodK
 rw [Bool.and_eq_true]
 constructor
 · rw [List.all_eq_true]
   intro x hx
   obtain ⟨n, hn, rfl⟩ := List.getElem_of_mem hx
   rw [← keyAtK_at hn]
   exact h1 n hn
 · apply pair_noTwice
   rw [List.pairwise_iff_getElem]
   intro a b ha hb hab
   rw [← keyAtK_at ha, ← keyAtK_at hb]
   exact h2 b hb a hab
theorem goodK_not1 {ks : List ByteArray} {m : Nat} (hm : m < ks.length) (h : letters (keyAtK ks m) = false) : goodK ks = false := by
 cases hg : goodK ks with
 | false => rfl
 | true =>
  unfold goodK at hg
  rw [Bool.and_eq_true, List.all_eq_true] at hg
  rw [keyAtK_at hm, hg.1 _ (List.getElem_mem hm)] at h
  cases h
theorem goodK_not2 {ks : List ByteArray} {a b : Nat} (hb : b < ks.length) (hab : a < b) (h : keyAtK ks b = keyAtK ks a) : goodK ks = false := by
 cases hg : goodK ks with
 | false => rfl
 | true =>
  unfold goodK at hg
  rw [Bool.and_eq_true] at hg
  have hp := List.pairwise_iff_getElem.1 (noTwice_pair hg.2) a b (by omega) hb hab
  rw [← keyAtK_at (by omega), ← keyAtK_at hb] at hp
  exact absurd h.symm hp
theorem letters_stray {s : ByteArray} : (letters s = true → badAt (stray (ints s)) = -1) ∧ (letters s = false → ∃ p : Nat, badAt (stray (ints s)) = p) := by
 unfold letters
 cases stray (ints s) with
 | none => exact ⟨fun _ => rfl, fun h => (by cases h)⟩
 | some p => exact ⟨fun h => (by cases h), fun _ => ⟨p, rfl⟩⟩
theorem rkeys_any {O : Nat → Prop} {ks : List ByteArray} {p : Option Addr} {c : Nat} {w : World} (hrd : RdK O w p c ks) (hO : ∀ k, O k → k < w.heap.size) (hl : ks.length ≤ 100000) (hkz : ∀ k ∈ ks, k.size ≤ 1000000000) :
    Calls Tryz.prog 153 #[.slice p ks.length c] w fun x w' => x = .returned (.bool (goodK ks)) ∧ Below w.heap.size w w' := by
 obtain ⟨n, hn⟩ : ∃ n, ks.length = n := ⟨_, rfl⟩
 have HN : Hid (ks.length = n) := hn
 have hcap := hrd.1
 rw [hn] at hl hcap ⊢
 clear hn
 go_enter Tryz.func153, Tryz.ntmps153
 go_wp2
 go_loopw [3] (fun v wr => ∃ m : Nat, v = .int .i64 m ∧ m ≤ n ∧ Hid ((∀ x, x < m → letters (keyAtK ks x) = true) ∧ ∀ b, b < m → ∀ a, a < b → keyAtK ks a ≠ keyAtK ks b) ∧ Below w.heap.size w wr) (fun v _ => n - (intOf v).toNat)
 case atStart => exact ⟨0, rfl, Nat.zero_le _, ⟨fun x hx => absurd hx (by omega), fun x hx => absurd hx (by omega)⟩, Below.refl _ _⟩
 case round =>
  obtain ⟨m, rfl, hm, HI, hbr⟩ := hrel
  by_cases hmn : m < n
  · have hmi : (m : Int) < (n : Int) := by omega
    have hmk : m < ks.length := by rw [HN.out]; exact hmn
    have HMK : Hid (m < ks.length) := hmk
    obtain ⟨ka, hpk, hOa, hcka⟩ := hrd.2 m hmk
    subst hpk
    have hKA : wr.cell? (ka.add m) = some (.string (keyAtK ks m)) := (World.cell?_of_block (by rw [add_block]; exact hbr.block _ (hO _ hOa))).trans hcka
    have HKX : Hid (∀ x, x < n → ∀ W : World, Below w.heap.size w W → W.cell? (ka.add x) = some (.string (keyAtK ks x))) := fun x hx W hW => by
     obtain ⟨a', ha', hOa', hc'⟩ := hrd.2 x (by rw [HN.out]; exact hx)
     cases ha'
     exact (World.cell?_of_block (by rw [add_block]; exact hW.block _ (hO _ hOa'))).trans hc'
    have hz : (keyAtK ks m).size ≤ 1000000000 := by rw [keyAtK_at hmk]; exact hkz _ (List.getElem_mem hmk)
    have hB := bad_any runes (keyAtK ks m) wr hz
    obtain ⟨u, hu⟩ : ∃ u, keyAtK ks m = u := ⟨_, rfl⟩
    have HU : Hid (keyAtK ks m = u) := hu
    rw [hu] at hKA hB
    clear hu hcka hmk hz
    cases hlu : letters u with
    | false =>
     obtain ⟨bp, hbp⟩ := letters_stray.2 hlu
     rw [hbp] at hB
     have HR : Hid (goodK ks = false) := goodK_not1 HMK.out (by rw [HU.out]; exact hlu)
     go_wp2_with (go_at_call 152; refine hB.mono ?_; rintro x w' ⟨rfl, rfl⟩)
     go_ret
     exact ⟨ret_bool HR.out.symm, hbr⟩
    | true =>
     rw [letters_stray.1 hlu] at hB
     have HLU : Hid (letters u = true) := hlu
     clear hlu
     go_wp2_with (go_at_call 152; refine hB.mono ?_; rintro x w' ⟨rfl, rfl⟩)
     clear hB hKA
     go_loopw [4] (fun v w2 => ∃ a : Nat, v = .int .i64 a ∧ a ≤ m ∧ Hid (∀ x, x < a → keyAtK ks x ≠ u) ∧ Below w.heap.size w w2) (fun v _ => m - (intOf v).toNat)
     case atStart => exact ⟨0, rfl, Nat.zero_le _, fun x hx => absurd hx (by omega), hbr⟩
     case round =>
      obtain ⟨a, rfl, ha, HD, hb2⟩ := hrel
      by_cases ham : a < m
      · have hai : (a : Int) < (m : Int) := by omega
        have han : (a : Int) < (n : Int) := by omega
        obtain ⟨v, hv⟩ : ∃ v, keyAtK ks a = v := ⟨_, rfl⟩
        have HV : Hid (keyAtK ks a = v) := hv
        clear hv
        have hC0 : Below w.heap.size w wr.drew := ⟨hb2.os, hb2.tape, hb2.output, hb2.size, hb2.block⟩
        by_cases huv : u = v
        · have heq : (u.toList == v.toList) = true := by rw [huv]; simp
          have HR : Hid (goodK ks = false) := goodK_not2 (a := a) HMK.out ham (by rw [HU.out, HV.out, huv])
          go_wp2
          refine wp_region_in (by kernel_rfl) (fun W => Below w.heap.size w W) ?_
          change wpIn _ _ _ _ _ _ _ _ (World.drew _)
          refine wpIn_tk (i := 0) (d := some 22) rfl ?_
          refine wpIn_tk (i := 1) (d := some 23) rfl ?_
          refine wpIn_tk (i := 2) (d := some 24) rfl ?_
          refine wpIn_tp (i := 3) (d := some 25) rfl (by (intro wq hq; have q0 := HKX.out m hmn wq hq; rw [HU.out] at q0; go_simp; first | done | with_reducible rfl)) ?_
          refine wpIn_tk (i := 4) (d := some 26) rfl ?_
          refine wpIn_tk (i := 5) (d := some 27) rfl ?_
          refine wpIn_tk (i := 6) (d := some 28) rfl ?_
          refine wpIn_tp (i := 7) (d := some 29) rfl (by (intro wq hq; have q0 := HKX.out a (by omega) wq hq; rw [HV.out] at q0; go_simp; first | done | with_reducible rfl)) ?_
          refine wpIn_tk (i := 8) (d := some 30) rfl ?_
          refine wpIn_done hC0 (by kernel_rfl) ?_ _
          go_wp2
          go_ret
          exact ⟨ret_bool HR.out.symm, hC0⟩
        · have heq : (u.toList == v.toList) = false := by rw [beq_eq_false_iff_ne]; intro e; exact huv (toList_inj e)
          go_wp2
          refine wp_region_in (by kernel_rfl) (fun W => Below w.heap.size w W) ?_
          change wpIn _ _ _ _ _ _ _ _ (World.drew _)
          refine wpIn_tk (i := 0) (d := some 22) rfl ?_
          refine wpIn_tk (i := 1) (d := some 23) rfl ?_
          refine wpIn_tk (i := 2) (d := some 24) rfl ?_
          refine wpIn_tp (i := 3) (d := some 25) rfl (by (intro wq hq; have q0 := HKX.out m hmn wq hq; rw [HU.out] at q0; go_simp; first | done | with_reducible rfl)) ?_
          refine wpIn_tk (i := 4) (d := some 26) rfl ?_
          refine wpIn_tk (i := 5) (d := some 27) rfl ?_
          refine wpIn_tk (i := 6) (d := some 28) rfl ?_
          refine wpIn_tp (i := 7) (d := some 29) rfl (by (intro wq hq; have q0 := HKX.out a (by omega) wq hq; rw [HV.out] at q0; go_simp; first | done | with_reducible rfl)) ?_
          refine wpIn_tk (i := 8) (d := some 30) rfl ?_
          refine wpIn_done hC0 (by kernel_rfl) ?_ _
          go_wp2
          go_roundw
          case rel => exact ⟨a + 1, by go_num, ham, fun x hx => (Nat.lt_succ_iff_lt_or_eq.1 hx).elim (HD.out x) fun e => by rw [e, HV.out]; exact fun e' => huv e'.symm, hC0⟩
          case measure => simp [intOf]; omega
      · obtain rfl : a = m := by omega
        go_wp2
        go_roundw
        case rel =>
         refine ⟨a + 1, by go_num, hmn, ⟨fun x hx => ?_, fun b hb x hx => ?_⟩, hb2⟩
         · rcases Nat.lt_succ_iff_lt_or_eq.1 hx with h | h
           · exact HI.out.1 x h
           · rw [h, HU.out]; exact HLU.out
         · rcases Nat.lt_succ_iff_lt_or_eq.1 hb with h | h
           · exact HI.out.2 b h x hx
           · rw [h, HU.out]; exact HD.out x (by omega)
        case measure => simp [intOf]; omega
  · obtain rfl : m = n := by omega
    have HR : Hid (goodK ks = true) := goodK_of (fun x hx => HI.out.1 x (by rw [← HN.out]; exact hx)) (fun b hb => HI.out.2 b (by rw [← HN.out]; exact hb))
    go_wp2
    go_ret
    exact ⟨ret_bool HR.out.symm, hbr⟩
def shapeB (k i : Int) (t : ByteArray) (ks : List ByteArray) (nl : Nat) : Bool := bareB k i t ks.length nl &&
    (if k = 0 then true
     else if k = 1 then decide (i = 0) || decide (i = 1)
     else if k = 2 then decide (-maxInt ≤ i) && decide (i ≤ maxInt)
     else if k = 3 then letters t
     else if k = 4 then true
     else if k = 5 then decide (ks.length = nl) && goodK ks
     else false)
theorem good_shape (d : Nat) (k i : Int) (t : ByteArray) (ks : List ByteArray) (l : List J) : goodJ (d + 1) (.mk k i t ks l) = (shapeB k i t ks l.length && l.all (goodJ d)) := by
 rw [goodJ, bare_eq]
 unfold shapeB goodK
 cases hb : bareB k i t ks.length l.length with
 | false => rfl
 | true =>
  have hl : k ≠ 4 → k ≠ 5 → l = [] := fun h4 h5 => by
   unfold bareB at hb
   simp only [Bool.and_eq_true, Bool.or_eq_true, decide_eq_true_eq] at hb
   exact List.eq_nil_of_length_eq_zero (by omega)
  simp only [Bool.true_and]
  by_cases k0 : k = 0
  · rw [if_pos k0, if_pos k0, hl (by omega) (by omega)]; rfl
  rw [if_neg k0, if_neg k0]
  by_cases k1 : k = 1
  · rw [if_pos k1, if_pos k1, hl (by omega) (by omega)]; simp
  rw [if_neg k1, if_neg k1]
  by_cases k2 : k = 2
  · rw [if_pos k2, if_pos k2, hl (by omega) (by omega)]; simp
  rw [if_neg k2, if_neg k2]
  by_cases k3 : k = 3
  · rw [if_pos k3, if_pos k3, hl (by omega) (by omega)]; simp
  rw [if_neg k3, if_neg k3]
  by_cases k4 : k = 4
  · rw [if_pos k4, if_pos k4]; rfl
  rw [if_neg k4, if_neg k4]
  by_cases k5 : k = 5
  · rw [if_pos k5, if_pos k5]
  · rw [if_neg k5, if_neg k5]; rfl
theorem shape_any {O : Nat → Prop} {w : World} (k i : Int) (t : ByteArray) (ks : List ByteArray) (pk pl : Option Addr) (nk ck nl cl : Nat) (hnk : ks.length = nk) (hrd : RdK O w pk ck ks) (hO : ∀ k, O k → k < w.heap.size) (hl : nk ≤ 100000) (hll : nl ≤ 100000) (hkz : ∀ k ∈ ks, k.size ≤ 1000000000) (htz : t.size ≤ 1000000000) :
    Calls Tryz.prog 127 #[.agg #[.int .i64 k, .int .i64 i, .string t, .slice pk nk ck, .slice pl nl cl]] w fun x w' => x = .returned (.bool (shapeB k i t ks nl)) ∧ Below w.heap.size w w' := by
 have hn := nil_str (t := t)
 have hbA : Below w.heap.size w (w.alloc (.cells #[.int .i64 k, .int .i64 i, .string t, .slice pk nk ck, .slice pl nl cl] 36)) := (Below.refl _ _).alloc (Nat.le_refl _) _
 have hK := rkeys_any (w := w.alloc (.cells #[.int .i64 k, .int .i64 i, .string t, .slice pk nk ck, .slice pl nl cl] 36)) (hrd.carry fun b hb => ⟨hb, hbA.block b (hO b hb)⟩) (fun b hb => Nat.lt_of_lt_of_le (hO b hb) hbA.size) (by rw [hnk]; exact hl) hkz
 rw [hnk] at hK
 have HNK : Hid (ks.length = nk) := hnk
 have hB := bad_any runes t (w.alloc (.cells #[.int .i64 k, .int .i64 i, .string t, .slice pk nk ck, .slice pl nl cl] 36)) htz
 clear hnk hrd hkz
 by_cases hk0 : k = 0
 · skip
   subst hk0
   by_cases hA : nk + nl = 0
   · skip
     obtain rfl : nk = 0 := by omega
     obtain rfl : nl = 0 := by omega
     by_cases hi : i = 0
     · skip
       subst hi
       by_cases hT : t.size = 0
       · skip
         rw [decide_eq_true hT] at hn
         have HB : Hid (shapeB 0 0 t ks 0 = true) := by show _ = _; unfold shapeB bareB; rw [HNK.out]; simp [*]
         go_enter Tryz.func127, Tryz.ntmps127
         go_wp2
         go_ret
         refine ⟨ret_bool ?_, ?_⟩
         · first | exact HB.out.symm | (rw [HB.out]; simp; omega)
         · exact (Below.refl _ _).alloc (Nat.le_refl _) _
       · skip
         rw [decide_eq_false hT] at hn
         have HB : Hid (shapeB 0 0 t ks 0 = false) := by show _ = _; unfold shapeB bareB; rw [HNK.out]; simp [*]
         go_enter Tryz.func127, Tryz.ntmps127
         go_wp2
         go_ret
         refine ⟨ret_bool ?_, ?_⟩
         · first | exact HB.out.symm | (rw [HB.out]; simp; omega)
         · exact (Below.refl _ _).alloc (Nat.le_refl _) _
     · skip
       have HB : Hid (shapeB 0 i t ks 0 = false) := by show _ = _; unfold shapeB bareB; rw [HNK.out]; simp [*]
       go_enter Tryz.func127, Tryz.ntmps127
       go_wp2
       go_ret
       refine ⟨ret_bool ?_, ?_⟩
       · first | exact HB.out.symm | (rw [HB.out]; simp; omega)
       · exact (Below.refl _ _).alloc (Nat.le_refl _) _
   · skip
     have hpos : 0 < nk + nl := by omega
     have HB : Hid (shapeB 0 i t ks nl = false) := by show _ = _; unfold shapeB bareB; rw [HNK.out]; (by_cases hz1 : nk = 0 <;> by_cases hz2 : nl = 0 <;> first | (exfalso; omega) | simp [hz1, hz2])
     go_enter Tryz.func127, Tryz.ntmps127
     go_wp2
     go_ret
     refine ⟨ret_bool ?_, ?_⟩
     · first | exact HB.out.symm | (rw [HB.out]; simp; omega)
     · exact (Below.refl _ _).alloc (Nat.le_refl _) _
 · skip
   by_cases hk1 : k = 1
   · skip
     subst hk1
     by_cases hA : nk + nl = 0
     · skip
       obtain rfl : nk = 0 := by omega
       obtain rfl : nl = 0 := by omega
       by_cases hi : i = 0
       · skip
         subst hi
         by_cases hT : t.size = 0
         · skip
           rw [decide_eq_true hT] at hn
           have HB : Hid (shapeB 1 0 t ks 0 = true) := by show _ = _; unfold shapeB bareB; rw [HNK.out]; simp [*]
           go_enter Tryz.func127, Tryz.ntmps127
           go_wp2
           go_ret
           refine ⟨ret_bool ?_, ?_⟩
           · first | exact HB.out.symm | (rw [HB.out]; simp; omega)
           · exact (Below.refl _ _).alloc (Nat.le_refl _) _
         · skip
           rw [decide_eq_false hT] at hn
           have HB : Hid (shapeB 1 0 t ks 0 = false) := by show _ = _; unfold shapeB bareB; rw [HNK.out]; simp [*]
           go_enter Tryz.func127, Tryz.ntmps127
           go_wp2
           go_ret
           refine ⟨ret_bool ?_, ?_⟩
           · first | exact HB.out.symm | (rw [HB.out]; simp; omega)
           · exact (Below.refl _ _).alloc (Nat.le_refl _) _
       · skip
         by_cases hi1 : i = 1
         · skip
           subst hi1
           by_cases hT : t.size = 0
           · skip
             rw [decide_eq_true hT] at hn
             have HB : Hid (shapeB 1 1 t ks 0 = true) := by show _ = _; unfold shapeB bareB; rw [HNK.out]; simp [*]
             go_enter Tryz.func127, Tryz.ntmps127
             go_wp2
             go_ret
             refine ⟨ret_bool ?_, ?_⟩
             · first | exact HB.out.symm | (rw [HB.out]; simp; omega)
             · exact (Below.refl _ _).alloc (Nat.le_refl _) _
           · skip
             rw [decide_eq_false hT] at hn
             have HB : Hid (shapeB 1 1 t ks 0 = false) := by show _ = _; unfold shapeB bareB; rw [HNK.out]; simp [*]
             go_enter Tryz.func127, Tryz.ntmps127
             go_wp2
             go_ret
             refine ⟨ret_bool ?_, ?_⟩
             · first | exact HB.out.symm | (rw [HB.out]; simp; omega)
             · exact (Below.refl _ _).alloc (Nat.le_refl _) _
         · skip
           have HB : Hid (shapeB 1 i t ks 0 = false) := by show _ = _; unfold shapeB bareB; rw [HNK.out]; simp [*]
           go_enter Tryz.func127, Tryz.ntmps127
           go_wp2
           go_ret
           refine ⟨ret_bool ?_, ?_⟩
           · first | exact HB.out.symm | (rw [HB.out]; simp; omega)
           · exact (Below.refl _ _).alloc (Nat.le_refl _) _
     · skip
       have hpos : 0 < nk + nl := by omega
       have HB : Hid (shapeB 1 i t ks nl = false) := by show _ = _; unfold shapeB bareB; rw [HNK.out]; (by_cases hz1 : nk = 0 <;> by_cases hz2 : nl = 0 <;> first | (exfalso; omega) | simp [hz1, hz2])
       go_enter Tryz.func127, Tryz.ntmps127
       go_wp2
       go_ret
       refine ⟨ret_bool ?_, ?_⟩
       · first | exact HB.out.symm | (rw [HB.out]; simp; omega)
       · exact (Below.refl _ _).alloc (Nat.le_refl _) _
   · skip
     by_cases hk2 : k = 2
     · skip
       subst hk2
       by_cases hA : nk + nl = 0
       · skip
         obtain rfl : nk = 0 := by omega
         obtain rfl : nl = 0 := by omega
         by_cases hlo : -9007199254740991 ≤ i
         · skip
           by_cases hhi : i ≤ 9007199254740991
           · skip
             by_cases hT : t.size = 0
             · skip
               rw [decide_eq_true hT] at hn
               have HB : Hid (shapeB 2 i t ks 0 = true) := by show _ = _; unfold shapeB bareB; rw [HNK.out]; simp [*, maxInt]
               go_enter Tryz.func127, Tryz.ntmps127
               go_wp2
               go_ret
               refine ⟨ret_bool ?_, ?_⟩
               · first | exact HB.out.symm | (rw [HB.out]; simp; omega)
               · exact (Below.refl _ _).alloc (Nat.le_refl _) _
             · skip
               rw [decide_eq_false hT] at hn
               have HB : Hid (shapeB 2 i t ks 0 = false) := by show _ = _; unfold shapeB bareB; rw [HNK.out]; simp [*, maxInt]
               go_enter Tryz.func127, Tryz.ntmps127
               go_wp2
               go_ret
               refine ⟨ret_bool ?_, ?_⟩
               · first | exact HB.out.symm | (rw [HB.out]; simp; omega)
               · exact (Below.refl _ _).alloc (Nat.le_refl _) _
           · skip
             have HB : Hid (shapeB 2 i t ks 0 = false) := by show _ = _; unfold shapeB bareB; rw [HNK.out]; simp [*, maxInt]
             go_enter Tryz.func127, Tryz.ntmps127
             go_wp2
             go_ret
             refine ⟨ret_bool ?_, ?_⟩
             · first | exact HB.out.symm | (rw [HB.out]; simp; omega)
             · exact (Below.refl _ _).alloc (Nat.le_refl _) _
         · skip
           have HB : Hid (shapeB 2 i t ks 0 = false) := by show _ = _; unfold shapeB bareB; rw [HNK.out]; simp [*, maxInt]
           go_enter Tryz.func127, Tryz.ntmps127
           go_wp2
           go_ret
           refine ⟨ret_bool ?_, ?_⟩
           · first | exact HB.out.symm | (rw [HB.out]; simp; omega)
           · exact (Below.refl _ _).alloc (Nat.le_refl _) _
       · skip
         have hpos : 0 < nk + nl := by omega
         have HB : Hid (shapeB 2 i t ks nl = false) := by show _ = _; unfold shapeB bareB; rw [HNK.out]; (by_cases hz1 : nk = 0 <;> by_cases hz2 : nl = 0 <;> first | (exfalso; omega) | simp [hz1, hz2])
         go_enter Tryz.func127, Tryz.ntmps127
         go_wp2
         go_ret
         refine ⟨ret_bool ?_, ?_⟩
         · first | exact HB.out.symm | (rw [HB.out]; simp; omega)
         · exact (Below.refl _ _).alloc (Nat.le_refl _) _
     · skip
       by_cases hk3 : k = 3
       · skip
         subst hk3
         by_cases hA : nk + nl = 0
         · skip
           obtain rfl : nk = 0 := by omega
           obtain rfl : nl = 0 := by omega
           by_cases hi : i = 0
           · skip
             subst hi
             cases hlt : letters t with
             | true =>
              rw [letters_stray.1 hlt] at hB
              have HB : Hid (shapeB 3 0 t ks 0 = true) := by show _ = _; unfold shapeB bareB; rw [HNK.out]; simp [*]
              go_enter Tryz.func127, Tryz.ntmps127
              go_wp2_with (go_at_call 152; refine hB.mono ?_; rintro x w2 ⟨rfl, rfl⟩)
              go_ret
              refine ⟨ret_bool ?_, ?_⟩
              · first | exact HB.out.symm | (rw [HB.out]; simp; omega)
              · exact (Below.refl _ _).alloc (Nat.le_refl _) _
             | false =>
              obtain ⟨bp, hbp⟩ := letters_stray.2 hlt
              rw [hbp] at hB
              have HB : Hid (shapeB 3 0 t ks 0 = false) := by show _ = _; unfold shapeB bareB; rw [HNK.out]; simp [*]
              go_enter Tryz.func127, Tryz.ntmps127
              go_wp2_with (go_at_call 152; refine hB.mono ?_; rintro x w2 ⟨rfl, rfl⟩)
              go_ret
              refine ⟨ret_bool ?_, ?_⟩
              · first | exact HB.out.symm | (rw [HB.out]; simp; omega)
              · exact (Below.refl _ _).alloc (Nat.le_refl _) _
           · skip
             have HB : Hid (shapeB 3 i t ks 0 = false) := by show _ = _; unfold shapeB bareB; rw [HNK.out]; simp [*]
             go_enter Tryz.func127, Tryz.ntmps127
             go_wp2
             go_ret
             refine ⟨ret_bool ?_, ?_⟩
             · first | exact HB.out.symm | (rw [HB.out]; simp; omega)
             · exact (Below.refl _ _).alloc (Nat.le_refl _) _
         · skip
           have hpos : 0 < nk + nl := by omega
           have HB : Hid (shapeB 3 i t ks nl = false) := by show _ = _; unfold shapeB bareB; rw [HNK.out]; (by_cases hz1 : nk = 0 <;> by_cases hz2 : nl = 0 <;> first | (exfalso; omega) | simp [hz1, hz2])
           go_enter Tryz.func127, Tryz.ntmps127
           go_wp2
           go_ret
           refine ⟨ret_bool ?_, ?_⟩
           · first | exact HB.out.symm | (rw [HB.out]; simp; omega)
           · exact (Below.refl _ _).alloc (Nat.le_refl _) _
       · skip
         by_cases hk4 : k = 4
         · skip
           subst hk4
           by_cases hA : nk = 0
           · skip
             subst hA
             by_cases hi : i = 0
             · skip
               subst hi
               by_cases hT : t.size = 0
               · skip
                 rw [decide_eq_true hT] at hn
                 have HB : Hid (shapeB 4 0 t ks nl = true) := by show _ = _; unfold shapeB bareB; rw [HNK.out]; simp [*]
                 go_enter Tryz.func127, Tryz.ntmps127
                 go_wp2
                 go_ret
                 refine ⟨ret_bool ?_, ?_⟩
                 · first | exact HB.out.symm | (rw [HB.out]; simp; omega)
                 · exact (Below.refl _ _).alloc (Nat.le_refl _) _
               · skip
                 rw [decide_eq_false hT] at hn
                 have HB : Hid (shapeB 4 0 t ks nl = false) := by show _ = _; unfold shapeB bareB; rw [HNK.out]; simp [*]
                 go_enter Tryz.func127, Tryz.ntmps127
                 go_wp2
                 go_ret
                 refine ⟨ret_bool ?_, ?_⟩
                 · first | exact HB.out.symm | (rw [HB.out]; simp; omega)
                 · exact (Below.refl _ _).alloc (Nat.le_refl _) _
             · skip
               have HB : Hid (shapeB 4 i t ks nl = false) := by show _ = _; unfold shapeB bareB; rw [HNK.out]; simp [*]
               go_enter Tryz.func127, Tryz.ntmps127
               go_wp2
               go_ret
               refine ⟨ret_bool ?_, ?_⟩
               · first | exact HB.out.symm | (rw [HB.out]; simp; omega)
               · exact (Below.refl _ _).alloc (Nat.le_refl _) _
           · skip
             have hpos : 0 < nk := by omega
             have HB : Hid (shapeB 4 i t ks nl = false) := by show _ = _; unfold shapeB bareB; rw [HNK.out]; simp [*]
             go_enter Tryz.func127, Tryz.ntmps127
             go_wp2
             go_ret
             refine ⟨ret_bool ?_, ?_⟩
             · first | exact HB.out.symm | (rw [HB.out]; simp; omega)
             · exact (Below.refl _ _).alloc (Nat.le_refl _) _
         · skip
           by_cases hk5 : k = 5
           · skip
             subst hk5
             by_cases hA : nk = nl
             · skip
               subst hA
               by_cases hi : i = 0
               · skip
                 subst hi
                 by_cases hT : t.size = 0
                 · skip
                   rw [decide_eq_true hT] at hn
                   have HB : Hid (shapeB 5 0 t ks nk = goodK ks) := by show _ = _; unfold shapeB bareB; rw [HNK.out]; simp [*]
                   go_enter Tryz.func127, Tryz.ntmps127
                   go_wp2_with (go_at_call 153; refine hK.mono ?_; rintro x w2 ⟨rfl, hb2⟩)
                   go_ret
                   refine ⟨ret_bool ?_, ?_⟩
                   · first | exact HB.out.symm | (rw [HB.out]; simp; omega)
                   · exact below_in ((Below.refl _ _).alloc (Nat.le_refl _) _) hb2
                 · skip
                   rw [decide_eq_false hT] at hn
                   have HB : Hid (shapeB 5 0 t ks nk = false) := by show _ = _; unfold shapeB bareB; rw [HNK.out]; simp [*]
                   go_enter Tryz.func127, Tryz.ntmps127
                   go_wp2
                   go_ret
                   refine ⟨ret_bool ?_, ?_⟩
                   · first | exact HB.out.symm | (rw [HB.out]; simp; omega)
                   · exact (Below.refl _ _).alloc (Nat.le_refl _) _
               · skip
                 have HB : Hid (shapeB 5 i t ks nk = false) := by show _ = _; unfold shapeB bareB; rw [HNK.out]; simp [*]
                 go_enter Tryz.func127, Tryz.ntmps127
                 go_wp2
                 go_ret
                 refine ⟨ret_bool ?_, ?_⟩
                 · first | exact HB.out.symm | (rw [HB.out]; simp; omega)
                 · exact (Below.refl _ _).alloc (Nat.le_refl _) _
             · skip
               have HB : Hid (shapeB 5 i t ks nl = false) := by show _ = _; unfold shapeB bareB; rw [HNK.out]; simp [*]
               go_enter Tryz.func127, Tryz.ntmps127
               go_wp2
               go_ret
               refine ⟨ret_bool ?_, ?_⟩
               · first | exact HB.out.symm | (rw [HB.out]; simp; omega)
               · exact (Below.refl _ _).alloc (Nat.le_refl _) _
           · skip
             have HB : Hid (shapeB k i t ks nl = false) := by show _ = _; unfold shapeB bareB; rw [HNK.out]; simp [*]
             go_enter Tryz.func127, Tryz.ntmps127
             go_wp2
             go_ret
             refine ⟨ret_bool ?_, ?_⟩
             · first | exact HB.out.symm | (rw [HB.out]; simp; omega)
             · exact (Below.refl _ _).alloc (Nat.le_refl _) _
def Rgoods (d : Nat) : Prop := ∀ (w : World) (O : Nat → Prop) (j : J) (k i most : Int) (t : ByteArray) (pk pl : Option Addr) (nk ck nl cl : Nat), (∀ x, O x → x < w.heap.size) → most = (d : Int) → d ≤ 100 → szJ d j = true →
 isJ O w j [.int .i64 k, .int .i64 i, .string t, .slice pk nk ck, .slice pl nl cl] →
 Calls Tryz.prog 96 #[.agg #[.int .i64 k, .int .i64 i, .string t, .slice pk nk ck, .slice pl nl cl], .int .i64 most] w fun x w' => x = .returned (.bool (goodJ d j)) ∧ Below w.heap.size w w'
theorem rgood_zero : Rgoods 0 := by
 intro w O j k i most t pk pl nk ck nl cl hO hm _ _ _
 subst hm
 go_enter Tryz.func96, Tryz.ntmps96
 go_wp2
 go_ret
 exact ⟨by unfold goodJ; rfl, (Below.refl _ _).alloc (Nat.le_refl _) _⟩
theorem rgood_step {d : Nat} (V : Rgoods d) : Rgoods (d + 1) := by
 intro w O j k i most t pk pl nk ck nl cl hO hm hd hsz hj
 obtain ⟨kx, ix, tx, ks, l⟩ := j
 unfold isJ at hj
 obtain ⟨pk', ck', pl', cl', e, hk, hl, hs⟩ := hj
 simp only [List.cons.injEq, Value.int.injEq, Value.string.injEq, Value.slice.injEq, true_and, and_true] at e
 obtain ⟨rfl, rfl, rfl, ⟨rfl, rfl, rfl⟩, rfl, rfl, rfl⟩ := e
 unfold szJ at hsz
 simp only [Bool.and_eq_true, decide_eq_true_eq] at hsz
 obtain ⟨htz, hks, hkz, hll, hlsz⟩ := hsz
 have HLS : Hid (l.all (szJ d) = true) := hlsz
 have hm1 : 1 ≤ most := by omega
 have hm2 : most ≤ 101 := by omega
 have HM : Hid (most - 1 = (d : Int)) := by show _ = _; omega
 have HDL : Hid (d ≤ 100) := by show _ ≤ _; omega
 have HGS : Hid (goodJ (d + 1) (.mk k i t ks l) = (shapeB k i t ks l.length && l.all (goodJ d))) := good_shape d k i t ks l
 clear hm hd hlsz
 obtain ⟨nk, hnk⟩ : ∃ n, ks.length = n := ⟨_, rfl⟩
 obtain ⟨nl, hnl⟩ : ∃ n, l.length = n := ⟨_, rfl⟩
 have HNL : Hid (l.length = nl) := hnl
 rw [hnl] at HGS
 obtain ⟨wB, hwB⟩ : ∃ wB, wB = w.alloc (.cells #[.int .i64 k, .int .i64 i, .string t, .slice pk nk ck, .slice pl nl cl] 36) := ⟨_, rfl⟩
 have hbA : Below w.heap.size w wB := by rw [hwB]; exact (Below.refl _ _).alloc (Nat.le_refl _) _
 have hA : wB.heap[w.heap.size]? = some (.cells #[.int .i64 k, .int .i64 i, .string t, .slice pk nk ck, .slice pl nl cl] 36 (0, 0)) := by rw [hwB]; exact heap_alloc_new _ _
 have hsB : w.heap.size < wB.heap.size := (Array.getElem?_eq_some_iff.1 hA).1
 have hSh := shape_any (w := wB) (O := O) k i t ks pk pl nk ck nl cl hnk (hk.carry fun b hb => ⟨hb, hbA.block b (hO b hb)⟩) (fun b hb => Nat.lt_of_lt_of_le (hO b hb) hbA.size) (by rw [← hnk]; exact hks) (by rw [← hnl]; exact hll) (fun x hx => of_decide_eq_true (List.all_eq_true.1 hkz x hx)) htz
 rw [hnk, hnl]
 have hnlz : nl ≤ 100000 := by rw [← hnl]; exact hll
 have hlc : nl ≤ cl := by rw [← hnl]; exact hl
 have HCA : Hid (∀ W : World, Below wB.heap.size wB W → ∀ n v, [Value.int .i64 k, .int .i64 i, .string t, .slice pk nk ck, .slice pl nl cl][n]? = some v → W.cell? ⟨w.heap.size, n, none⟩ = some v) := fun W hW n v hv =>
  (World.cell?_of_block (a := ⟨w.heap.size, n, none⟩) (hW.block w.heap.size hsB)).trans (cell_row (cur := [.int .i64 k, .int .i64 i, .string t, .slice pk nk ck, .slice pl nl cl]) hA n v hv)
 clear hnk hnl hks hkz hll htz hk hl hA
 cases hsb : shapeB k i t ks nl with
 | false =>
  rw [hsb] at hSh HGS
  rw [hwB] at hSh
  go_enter Tryz.func96, Tryz.ntmps96
  go_wp2_with (go_at_call 127; refine hSh.mono ?_; rintro x w2 ⟨rfl, hb2⟩)
  go_ret
  rw [← hwB] at hb2
  exact ⟨ret_bool HGS.out.symm, below_in hbA hb2⟩
 | true =>
  rw [hsb, Bool.true_and] at HGS
  rw [hsb, hwB] at hSh
  go_enter Tryz.func96, Tryz.ntmps96
  go_wp2_with (go_at_call 127; refine hSh.mono ?_; rintro x w2 ⟨rfl, hb2⟩)
  rw [← hwB] at hb2
  clear hwB hSh hsb
  go_loopw [5] (fun v wr => ∃ m : Nat, v = .int .i64 m ∧ m ≤ nl ∧ Hid ((l.take m).all (goodJ d) = true) ∧ Below wB.heap.size wB wr) (fun v _ => nl - (intOf v).toNat)
  case atStart => exact ⟨0, rfl, Nat.zero_le _, rfl, hb2⟩
  case round =>
   obtain ⟨m, rfl, hm, HT, hb3⟩ := hrel
   have a4 := HCA.out wr hb3 4 _ rfl
   by_cases hml : m < nl
   · have hmi : (m : Int) < (nl : Int) := by omega
     have hml1 : m < l.length := by rw [HNL.out]; exact hml
     have HML : Hid (m < l.length) := hml1
     obtain ⟨lb, lo, cs, hpl, hOl, hcells, hyj⟩ := isJs.at l 0 m hs hml1
     subst hpl
     obtain ⟨x0, x1, x2, p3, n3, c3, p4, n4, c4, rfl⟩ := isJ_shape hyj
     have hB3 := below_cat hbA (by omega) hb3
     have hblk := hB3.block lb (hO _ hOl)
     have cc : ∀ n v, [Value.int .i64 x0, .int .i64 x1, .string x2, .slice p3 n3 c3, .slice p4 n4 c4][n]? = some v → wr.cell? ⟨lb, lo + m * 5 + n, none⟩ = some v := fun n v h => by
      have := hcells n v h
      rw [Nat.zero_add] at this
      exact (World.cell?_of_block (a := ⟨lb, lo + m * 5 + n, none⟩) hblk).trans this
     have y0 : wr.cell? ⟨lb, lo + m * 5, none⟩ = some (.int .i64 x0) := cc 0 _ rfl
     have y1 := cc 1 _ rfl
     have y2 := cc 2 _ rfl
     have y3 := cc 3 _ rfl
     have y4 := cc 4 _ rfl
     have hV := V wr O (l.getD m J.zero) x0 x1 (most - 1) x2 p3 p4 n3 c3 n4 c4 (fun b hb => Nat.lt_of_lt_of_le (hO b hb) hB3.size) HM.out HDL.out (all_at HLS.out hml1) (hyj.carry fun b hb => ⟨hb, hB3.block b (hO b hb)⟩)
     clear cc hcells hml1 hyj hblk
     cases hgj : goodJ d (l.getD m J.zero) with
     | true =>
      rw [hgj] at hV
      go_wp2_with (go_at_call 96; refine hV.mono ?_; rintro x w4 ⟨rfl, hb4⟩)
      go_roundw
      case rel => exact ⟨m + 1, by go_num, hml, by show _ = _; rw [all_take HML.out, HT.out, hgj]; rfl, below_cat hb3 hb3.size hb4⟩
      case measure => simp [intOf]; omega
     | false =>
      rw [hgj] at hV
      go_wp2_with (go_at_call 96; refine hV.mono ?_; rintro x w4 ⟨rfl, hb4⟩)
      go_ret
      exact ⟨ret_bool (by rw [HGS.out]; exact (all_not HML.out hgj).symm), below_cat hbA (by omega) (below_cat hb3 hb3.size hb4)⟩
   · obtain rfl : m = nl := by omega
     go_wp2
     go_ret
     have ht := HT.out
     rw [List.take_of_length_le (by rw [HNL.out]; omega)] at ht
     exact ⟨ret_bool (by rw [HGS.out]; exact ht.symm), below_cat hbA (by omega) hb3⟩
theorem rgoods : ∀ d, Rgoods d
 | 0 => rgood_zero
 | d + 1 => rgood_step (rgoods d)
theorem rGood_any {w : World} {O : Nat → Prop} {j : J} {k i : Int} {t : ByteArray} {pk pl : Option Addr} {nk ck nl cl : Nat} (hO : ∀ x, O x → x < w.heap.size) (hsz : szJ 12 j = true)
    (hj : isJ O w j [.int .i64 k, .int .i64 i, .string t, .slice pk nk ck, .slice pl nl cl]) :
    Calls Tryz.prog 66 #[.agg #[.int .i64 k, .int .i64 i, .string t, .slice pk nk ck, .slice pl nl cl]] w fun x w' => x = .returned (.bool (goodJ 12 j)) ∧ Below w.heap.size w w' := by
 have hbA : Below w.heap.size w (w.alloc (.cells #[.int .i64 k, .int .i64 i, .string t, .slice pk nk ck, .slice pl nl cl] 36)) := (Below.refl _ _).alloc (Nat.le_refl _) _
 have hV := rgoods 12 (w.alloc (.cells #[.int .i64 k, .int .i64 i, .string t, .slice pk nk ck, .slice pl nl cl] 36)) O j k i 12 t pk pl nk ck nl cl (fun b hb => Nat.lt_of_lt_of_le (hO b hb) hbA.size) rfl (by decide) hsz (hj.carry fun b hb => ⟨hb, hbA.block b (hO b hb)⟩)
 go_enter Tryz.func66, Tryz.ntmps66
 go_wp2_with (go_at_call 96; refine hV.mono ?_; rintro x w4 ⟨rfl, hb4⟩)
 go_ret
 exact ⟨rfl, below_in hbA hb4⟩
theorem len_le : ∀ (n : Nat) (P : List Nat), P.Nodup → (∀ i ∈ P, i < n) → P.length ≤ n
 | 0, P, _, h => by
  cases P with
  | nil => exact Nat.le_refl _
  | cons x r => exact absurd (h x (by simp)) (by omega)
 | n + 1, P, hnd, h => by
  have h1 : (P.erase n).length ≤ n := len_le n (P.erase n) (hnd.erase n) fun i hi => by
   have h2 := h i (List.mem_of_mem_erase hi)
   have h3 : i ≠ n := fun e => by subst e; exact (hnd.not_mem_erase) hi
   omega
  have h4 := List.length_erase (a := n) (l := P)
  split at h4 <;> omega
theorem cover_len : ∀ (n : Nat) (P : List Nat), (∀ j, j < n → j ∈ P) → n ≤ P.length
 | 0, _, _ => Nat.zero_le _
 | n + 1, P, h => by
  have h1 : n ≤ (P.erase n).length := cover_len n (P.erase n) fun j hj => (List.mem_erase_of_ne (by omega)).2 (h j (by omega))
  have h2 := List.length_erase_of_mem (h n (by omega))
  have h3 : 0 < P.length := List.length_pos_of_mem (h n (by omega))
  omega
theorem perm_range : ∀ (n : Nat) (P : List Nat), P.Nodup → (∀ i ∈ P, i < n) → P.length = n → P.Perm (List.range n)
 | 0, P, _, _, h => by
  obtain rfl : P = [] := List.eq_nil_of_length_eq_zero h
  exact List.Perm.refl _
 | n + 1, P, hnd, hlt, hl => by
  have hmem : n ∈ P := by
   refine Classical.byContradiction fun hn => ?_
   have := len_le n P hnd fun i hi => by
    have := hlt i hi
    have : i ≠ n := fun e => hn (e ▸ hi)
    omega
   omega
  have h1 := perm_range n (P.erase n) (hnd.erase n) (fun i hi => by
   have h2 := hlt i (List.mem_of_mem_erase hi)
   have h3 : i ≠ n := fun e => by subst e; exact (hnd.not_mem_erase) hi
   omega) (by rw [List.length_erase_of_mem hmem]; omega)
  rw [List.range_succ]
  exact (List.perm_cons_erase hmem).trans ((h1.cons n).trans (List.perm_append_singleton n (List.range n)).symm)
structure Pick (ks : List ByteArray) (P : List Nat) : Prop where
 nd : P.Nodup
 lt : ∀ i ∈ P, i < ks.length
 up : P.Pairwise (fun i j => ltK (keyAtK ks i) (keyAtK ks j) = true)
 over : ∀ i ∈ P, ∀ j, j < ks.length → j ∉ P → ltK (keyAtK ks i) (keyAtK ks j) = true
theorem Pick.nil (ks : List ByteArray) : Pick ks [] := ⟨List.nodup_nil, fun i h => (by cases h), List.Pairwise.nil, fun i h => (by cases h)⟩
theorem Pick.snoc {ks : List ByteArray} {P : List Nat} (h : Pick ks P) {m : Nat} (hm : m < ks.length) (hn : m ∉ P) (hmin : ∀ j, j < ks.length → j ∉ P → j = m ∨ ltK (keyAtK ks m) (keyAtK ks j) = true) : Pick ks (P ++ [m]) := by
 refine ⟨?_, fun i hi => ?_, ?_, fun i hi j hj hnj => ?_⟩
 · unfold List.Nodup
   rw [List.pairwise_append]
   exact ⟨h.nd, List.pairwise_singleton _ _, fun a ha b hb => by rw [List.mem_singleton.1 hb]; exact fun e => hn (e ▸ ha)⟩
 · rcases List.mem_append.1 hi with hi | hi
   · exact h.lt i hi
   · rw [List.mem_singleton.1 hi]; exact hm
 · rw [List.pairwise_append]
   exact ⟨h.up, List.pairwise_singleton _ _, fun a ha b hb => by rw [List.mem_singleton.1 hb]; exact h.over a ha m hm hn⟩
 · have hnP : j ∉ P := fun e => hnj (List.mem_append_left _ e)
   rcases List.mem_append.1 hi with hi | hi
   · exact h.over i hi j hj hnP
   · rw [List.mem_singleton.1 hi]
     rcases hmin j hj hnP with e | e
     · exact absurd (by rw [e]; simp) hnj
     · exact e
theorem Pick.full {ks : List ByteArray} {P : List Nat} {l : List J} (h : Pick ks P) (hlen : P.length = ks.length) (hll : ks.length = l.length) (hd : ks.Pairwise (· ≠ ·)) : sel ks l P = sortK (ks.zip l) := by
 have hp := perm_range ks.length P h.nd h.lt hlen
 have hperm : (sel ks l P).Perm (ks.zip l) := by
  rw [← sel_range ks l hll]
  exact hp.map _
 have hpw : (ks.zip l).Pairwise fun x y => x.1 ≠ y.1 := by
  have : ((ks.zip l).map (·.1)).Pairwise (· ≠ ·) := by rw [List.map_fst_zip (by omega)]; exact hd
  exact List.pairwise_map.1 this
 refine rises_eq _ _ ?_ (sortK_rises' _ hpw) (hperm.trans (sortK_perm _).symm)
 unfold sel
 rw [List.map_map]
 exact rises_of _ P h.up
def LeastTo (ks : List ByteArray) (P : List Nat) (i : Nat) (v : Int) : Prop :=
 (v = -1 ∧ ∀ j, j < i → j ∈ P) ∨ ∃ m : Nat, v = m ∧ m < i ∧ m ∉ P ∧ ∀ j, j < i → j ∉ P → j = m ∨ ltK (keyAtK ks m) (keyAtK ks j) = true
section
variable {ks : List ByteArray} {P : List Nat} {i : Nat} {v : Int}
theorem LeastTo.zero : LeastTo ks P 0 (-1) := .inl ⟨rfl, fun j h => absurd h (by omega)⟩
theorem LeastTo.skip (h : LeastTo ks P i v) (hi : i ∈ P) : LeastTo ks P (i + 1) v := by
 rcases h with ⟨h1, h2⟩ | ⟨m, h1, h2, h3, h4⟩
 · refine .inl ⟨h1, fun j hj => ?_⟩
   by_cases e : j = i
   · rw [e]; exact hi
   · exact h2 j (by omega)
 · refine .inr ⟨m, h1, by omega, h3, fun j hj hn => ?_⟩
   by_cases e : j = i
   · exact absurd (e ▸ hi) hn
   · exact h4 j (by omega) hn
theorem LeastTo.first (h : LeastTo ks P i (-1)) (hi : i ∉ P) : LeastTo ks P (i + 1) i := by
 rcases h with ⟨_, h2⟩ | ⟨m, h1, _⟩
 · refine .inr ⟨i, rfl, by omega, hi, fun j hj hn => .inl ?_⟩
   by_cases e : j = i
   · exact e
   · exact absurd (h2 j (by omega)) hn
 · omega
theorem LeastTo.less {m : Nat} (h : LeastTo ks P i m) (hi : i ∉ P) (hl : ltK (keyAtK ks i) (keyAtK ks m) = true) : LeastTo ks P (i + 1) i := by
 rcases h with ⟨h1, _⟩ | ⟨m', h1, h2, h3, h4⟩
 · omega
 · obtain rfl : m = m' := by omega
   refine .inr ⟨i, rfl, by omega, hi, fun j hj hn => ?_⟩
   by_cases e : j = i
   · exact .inl e
   · right
     rcases h4 j (by omega) hn with e' | e'
     · rw [e']; exact hl
     · exact ltK_trans hl e'
theorem LeastTo.same {m : Nat} (h : LeastTo ks P i m) (hl : ltK (keyAtK ks i) (keyAtK ks m) = false) (hne : m < i → keyAtK ks m ≠ keyAtK ks i) : LeastTo ks P (i + 1) m := by
 rcases h with ⟨h1, _⟩ | ⟨m', h1, h2, h3, h4⟩
 · omega
 · obtain rfl : m = m' := by omega
   refine .inr ⟨m, rfl, by omega, h3, fun j hj hn => ?_⟩
   by_cases e : j = i
   · right
     rw [e]
     rcases ltK_total (hne h2) with h' | h'
     · exact h'
     · rw [h'] at hl; cases hl
   · exact h4 j (by omega) hn
theorem LeastTo.done (h : LeastTo ks P ks.length v) (hP : Pick ks P) (hlen : P.length < ks.length) : ∃ m : Nat, v = m ∧ m < ks.length ∧ m ∉ P ∧ Pick ks (P ++ [m]) := by
 rcases h with ⟨_, h2⟩ | ⟨m, h1, h2, h3, h4⟩
 · have := cover_len ks.length P h2
   omega
 · exact ⟨m, h1, h2, h3, hP.snoc h2 h3 h4⟩
end
theorem bytesLess_eq : ∀ x y : List UInt8, Op.bytesLess x y = lessB x y
 | [], [] => rfl
 | [], _ :: _ => rfl
 | _ :: _, [] => rfl
 | a :: x, b :: y => by
  unfold Op.bytesLess lessB
  rw [bytesLess_eq x y]
  cases h : decide (a = b) <;> simp_all
theorem less_ltK (a b : ByteArray) : Op.bytesLess a.toList b.toList = ltK a b := by
 rw [bytesLess_eq]
 unfold ltK
 rw [Lib.toList_data, Lib.toList_data]
end Go.Proofs.YtimhpglfolbomaaGreat

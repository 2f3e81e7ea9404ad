/-
  The document's has and ready.
-/
import Derived.Test.YtmkppbcngpgkdaaOSame
namespace Go.Proofs.Ytmkppbcngpgkdaa
open Go.RowKit Go.Maps

set_option maxHeartbeats 2000000 in
theorem has_any {O : Nat → Prop} (x : Int) (l : List Int) (p : Option Addr) (c : Nat) (w : World) (r : RdI O w p c l) (hl : l.length ≤ 1000000) :
    Calls Try.prog 26 #[.int .i64 x, .slice p l.length c] w fun e w' => e = .returned (.bool (decide (x ∈ l))) ∧ w = w' := by
  obtain ⟨n, hn⟩ : ∃ n, l.length = n := ⟨_, rfl⟩
  have HN : Hid (l.length = n) := hn
  rw [hn] at hl ⊢
  clear hn
  go_enter Try.func26, Try.ntmps26
  go_wp2
  go_loopw [5] (fun i wr => ∃ k : Nat, k ≤ n ∧ i = .int .i64 k ∧ wr = w ∧ Hid (x ∉ l.take k)) (fun i _ => n - (intOf i).toNat)
  case atStart => exact ⟨0, Nat.zero_le _, rfl, rfl, by show _ ∉ _; simp⟩
  case round =>
    obtain ⟨k, hk, rfl, rfl, HA⟩ := hrel
    by_cases hlt : k < n
    · have hkl : k < l.length := by rw [HN.out]; exact hlt
      obtain ⟨ad, rfl, _, hc⟩ := r.at k 0 hkl
      have HT : Hid (l.take (k + 1) = l.take k ++ [l.getD k 0]) := take_snoc l k 0 hkl
      have HM : Hid (l.getD k 0 ∈ l) := getD_inm hkl
      generalize l.getD k 0 = y at *
      by_cases e : y = x
      · subst e
        go_wp2
        go_ret
        exact ⟨ret_bool (decide_eq_true HM.out).symm, rfl⟩
      · have e' : (y == x) = false := by simpa using e
        go_wp2
        go_roundw
        case rel => exact ⟨k + 1, by omega, by go_num, by first | rfl | trivial, by show _ ∉ _; rw [HT.out, List.mem_append, List.mem_singleton]; exact fun h => h.elim HA.out fun h => e h.symm⟩
        case measure => simp [intOf]; omega
    · obtain rfl : k = n := by omega
      have HF : Hid (x ∉ l) := by have := HA.out; rw [← HN.out, List.take_length] at this; exact this
      go_wp2
      go_ret
      exact ⟨ret_bool (decide_eq_false HF.out).symm, rfl⟩
set_option maxHeartbeats 2000000 in
theorem ready_any {O : Nat → Prop} (q l : List Int) (p p' : Option Addr) (c c' : Nat) (w : World) (r : RdI O w p c q) (r' : RdI O w p' c' l) (hq : q.length ≤ 1000000) (hl : l.length ≤ 1000000) :
    Calls Try.prog 27 #[.slice p q.length c, .slice p' l.length c'] w fun e w' => e = .returned (.bool (decide (∀ x ∈ q, x ∈ l))) ∧ w = w' := by
  have HH : Hid (∀ x, _) := fun x => has_any x l p' c' w r' hl
  obtain ⟨n, hn⟩ : ∃ n, q.length = n := ⟨_, rfl⟩
  have HN : Hid (q.length = n) := hn
  rw [hn] at hq ⊢
  clear hn r'
  go_enter Try.func27, Try.ntmps27
  go_wp2
  go_loopw [5] (fun i wr => ∃ k : Nat, k ≤ n ∧ i = .int .i64 k ∧ wr = w ∧ Hid (∀ x ∈ q.take k, x ∈ l)) (fun i _ => n - (intOf i).toNat)
  case atStart => exact ⟨0, Nat.zero_le _, rfl, rfl, by show ∀ _ ∈ _, _; simp⟩
  case round =>
    obtain ⟨k, hk, rfl, rfl, HA⟩ := hrel
    by_cases hlt : k < n
    · have hkl : k < q.length := by rw [HN.out]; exact hlt
      obtain ⟨ad, rfl, _, hc⟩ := r.at k 0 hkl
      have HT : Hid (q.take (k + 1) = q.take k ++ [q.getD k 0]) := take_snoc q k 0 hkl
      have HM : Hid (q.getD k 0 ∈ q) := getD_inm hkl
      generalize q.getD k 0 = y at *
      have hh := HH.out y
      by_cases e : y ∈ l
      · have HE : Hid (y ∈ l) := e
        rw [decide_eq_true e] at hh
        clear e
        go_wp2_with (first
          | (go_at_call 26; refine hh.mono ?_; rintro e w' ⟨rfl, rfl⟩))
        go_roundw
        case rel =>
          refine ⟨k + 1, by omega, by go_num, by first | rfl | trivial, fun z hz => ?_⟩
          rw [HT.out, List.mem_append, List.mem_singleton] at hz
          exact hz.elim (HA.out z) fun h => h ▸ HE.out
        case measure => simp [intOf]; omega
      · have HE : Hid (¬ ∀ x ∈ q, x ∈ l) := fun h => e (h y HM.out)
        rw [decide_eq_false e] at hh
        clear e
        go_wp2_with (first
          | (go_at_call 26; refine hh.mono ?_; rintro e w' ⟨rfl, rfl⟩))
        go_ret
        exact ⟨ret_bool (decide_eq_false HE.out).symm, rfl⟩
    · obtain rfl : k = n := by omega
      have HF : Hid (∀ x ∈ q, x ∈ l) := by have := HA.out; rw [← HN.out, List.take_length] at this; exact this
      go_wp2
      go_ret
      exact ⟨ret_bool (decide_eq_true HF.out).symm, rfl⟩
end Go.Proofs.Ytmkppbcngpgkdaa

/-
  The document's Missing; rows held against one another; what is few: by contracts.
-/
import Derived.Test.YtbjeaogblpjpeabGRefW
namespace Go.Proofs.Ytbjeaogblpjpeab
open Go.RowKit Go.Maps
set_option maxHeartbeats 2000000 in
theorem ints_any {O O' : Nat → Prop} (a b : List Int) (p q : Option Addr) (c c' : Nat) (w : World) (r : RdI O w p c a) (s : RdI O' w q c' b) (ha : a.length ≤ 1000) (_hb : b.length ≤ 1000) :
    Calls Try.prog 26 #[.slice p a.length c, .slice q b.length c'] w fun e w' => e = .returned (.bool (decide (a = b))) ∧ ∃ n, w' = w.drewN n := by
  have hrc := r.1
  have hsc := s.1
  by_cases hl : a.length = b.length
  · have HL : Hid (a.length = b.length) := hl
    rw [hl] at ha hrc ⊢
    clear hl
    go_enter Try.func26, Try.ntmps26
    go_wp2
    go_loopw [5] (fun i wr => ∃ k : Nat, k ≤ b.length ∧ i = .int .i64 k ∧ a.take k = b.take k ∧ ∃ n, wr = w.drewN n) (fun i _ => b.length - (intOf i).toNat)
    case atStart => exact ⟨0, Nat.zero_le _, rfl, by simp, 0, rfl⟩
    case round =>
      obtain ⟨k, hk, rfl, heq, n, rfl⟩ := hrel
      have HA : Hid (a.take k = b.take k) := heq
      clear heq
      by_cases hlt : k < b.length
      · have hka : k < a.length := by rw [HL.out]; exact hlt
        obtain ⟨ad, rfl, _, hc1⟩ := r.at k 0 hka
        obtain ⟨ad', rfl, _, hc2⟩ := s.at k 0 hlt
        have HTA : Hid (a.take (k + 1) = a.take k ++ [a.getD k 0]) := take_next a k _ hka
        have HTB : Hid (b.take (k + 1) = b.take k ++ [b.getD k 0]) := take_next b k _ hlt
        have HX : Hid (a.getD k 0 ≠ b.getD k 0 → a ≠ b) := fun h e => h (by rw [e])
        generalize a.getD k 0 = x at *
        generalize b.getD k 0 = y at *
        clear hka
        by_cases hxy : x = y
        · subst hxy
          have HN : Hid (a.take (k + 1) = b.take (k + 1)) := by show _ = _; rw [HTA.out, HTB.out, HA.out]
          go_wp2
          go_quiet (fail)
          go_wp2
          go_roundw
          case rel => exact ⟨k + 1, by omega, by go_num, HN.out, _, rfl⟩
          case measure => simp [intOf]; omega
        · have HN : Hid (decide (a = b) = false) := decide_eq_false (HX.out hxy)
          go_wp2
          go_quiet (fail)
          go_wp2
          go_ret
          exact ⟨ret_bool HN.out.symm, _, World.drewN_drewN _ _ _⟩
      · obtain rfl : k = b.length := by omega
        have HE : Hid (decide (a = b) = true) := by
          have := HA.out
          rw [List.take_length, ← HL.out, List.take_length] at this
          exact decide_eq_true this
        go_wp2
        go_ret
        exact ⟨ret_bool HE.out.symm, _, rfl⟩
  · have HE : Hid (decide (a = b) = false) := decide_eq_false fun e => hl (by rw [e])
    go_enter Try.func26, Try.ntmps26
    go_wp2
    go_ret
    exact ⟨ret_bool HE.out.symm, 0, rfl⟩
theorem below_drewN (w : World) (n : Nat) : Below w.heap.size w (w.drewN n) := ⟨rfl, rfl, rfl, Nat.le_refl _, fun _ _ => rfl⟩
/-- Few and small names. -/
def shortB (l : List ByteArray) : Bool := decide (l.length ≤ 10) && l.all fun s => decide (s.size ≤ 100)
theorem short_iff {l : List ByteArray} : shortB l = true ↔ l.length ≤ 10 ∧ ∀ s ∈ l, s.size ≤ 100 := by simp [shortB]
set_option maxHeartbeats 2000000 in
theorem short_any {O : Nat → Prop} (l : List ByteArray) (p : Option Addr) (c : Nat) (w : World) (r : RdS O w p c l) (hl : l.length ≤ 9223372036854775807) (hs : ∀ s ∈ l, s.size ≤ 9223372036854775807) :
    Calls Try.prog 16 #[.slice p l.length c] w fun e w' => e = .returned (.bool (shortB l)) ∧ w = w' := by
  have HS : Hid (∀ s ∈ l, s.size ≤ 9223372036854775807) := hs
  clear hs
  by_cases hlen : l.length ≤ 10
  · go_enter Try.func16, Try.ntmps16
    go_wp2
    go_loop [3] (fun i => ∃ k : Nat, k ≤ l.length ∧ i = .int .i64 k ∧ ∀ s ∈ l.take k, s.size ≤ 100) (fun i => l.length - (intOf i).toNat)
    case atStart => exact ⟨0, Nat.zero_le _, rfl, by simp⟩
    case round =>
      obtain ⟨k, hk, rfl, hall⟩ := hrel
      have HA : Hid (∀ s ∈ l.take k, s.size ≤ 100) := hall
      clear hall
      by_cases hlt : k < l.length
      · obtain ⟨ad, rfl, _, hcell⟩ := r.at k ⟨#[]⟩ hlt
        have HM : Hid (l.getD k ⟨#[]⟩ ∈ l) := getD_inm hlt
        have hx := HS.out _ HM.out
        have HT : Hid (l.take (k + 1) = l.take k ++ [l.getD k ⟨#[]⟩]) := take_next l k _ hlt
        generalize l.getD k ⟨#[]⟩ = x at *
        by_cases hb : x.size ≤ 100
        · have HX : Hid (∀ s ∈ l.take (k + 1), s.size ≤ 100) := by
            intro s hs
            rw [HT.out, List.mem_append, List.mem_singleton] at hs
            rcases hs with hs | rfl
            · exact HA.out s hs
            · exact hb
          go_wp2
          go_round
          case rel => exact ⟨k + 1, by omega, by go_num, HX.out⟩
          case measure => simp [intOf]; omega
        · have HX : Hid (shortB l = false) := by
            show _ = _
            rw [Bool.eq_false_iff]
            intro h
            exact hb ((short_iff.1 h).2 x HM.out)
          go_wp2
          go_ret
          exact ⟨ret_bool HX.out.symm, rfl⟩
      · obtain rfl : k = l.length := by omega
        have HX : Hid (shortB l = true) := by
          have := HA.out
          rw [List.take_length] at this
          exact short_iff.2 ⟨hlen, this⟩
        go_wp2
        go_ret
        exact ⟨ret_bool HX.out.symm, rfl⟩
  · have HX : Hid (shortB l = false) := by
      show _ = _
      rw [Bool.eq_false_iff]
      intro h
      exact hlen (short_iff.1 h).1
    go_enter Try.func16, Try.ntmps16
    go_wp2
    go_ret
    exact ⟨ret_bool HX.out.symm, rfl⟩

end Go.Proofs.Ytbjeaogblpjpeab

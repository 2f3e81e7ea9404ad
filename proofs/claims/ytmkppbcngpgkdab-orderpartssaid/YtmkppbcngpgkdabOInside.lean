/-
  Are all parents things?
-/
import Derived.Test.YtmkppbcngpgkdabOTake
namespace Go.Proofs.Ytmkppbcngpgkdab
open Go.RowKit Go.Maps

/-- All of a row are places of n things. -/
def rowB (n : Nat) (r : List Int) : Bool := r.all fun p => decide (0 ≤ p ∧ p < (n : Int))
def insB (n : Nat) (P : List (List Int)) : Bool := P.all (rowB n)
theorem all_next {α : Type} (f : α → Bool) (l : List α) (k : Nat) (d : α) (hk : k < l.length) : (l.take (k + 1)).all f = ((l.take k).all f && f (l.getD k d)) := by
  rw [take_snoc l k d hk, List.all_append]
  simp
theorem all_bad {α : Type} {f : α → Bool} {l : List α} {k : Nat} {d : α} (hk : k < l.length) (h : f (l.getD k d) = false) : l.all f = false := by
  rw [List.all_eq_false]
  exact ⟨_, getD_inm hk, by rw [h]; simp⟩

set_option maxHeartbeats 4000000 in
theorem inside_any (P : List (List Int)) (p : Option Addr) (c : Nat) (w : World) (r : RdR (· < w.heap.size) w p c P) (hP : P.length ≤ 1000) (hl : ∀ x ∈ P, x.length ≤ 1000) :
    Calls Try.prog 15 #[.slice p P.length c] w fun e w' => e = .returned (.bool (insB P.length P)) ∧ w = w' := by
  have HL : Hid (∀ x ∈ P, x.length ≤ 1000) := hl
  clear hl
  obtain ⟨n, hn⟩ : ∃ n, P.length = n := ⟨_, rfl⟩
  have HN : Hid (P.length = n) := hn
  rw [hn] at hP ⊢
  clear hn
  go_enter Try.func15, Try.ntmps15
  go_wp2
  go_loopw [9] (fun i wr => ∃ k : Nat, k ≤ n ∧ i = .int .i64 k ∧ wr = w ∧ Hid ((P.take k).all (rowB n) = true)) (fun i _ => n - (intOf i).toNat)
  case atStart => exact ⟨0, Nat.zero_le _, rfl, rfl, by show _ = _; simp⟩
  case round =>
    obtain ⟨k, hk, rfl, rfl, HA⟩ := hrel
    by_cases hlt : k < n
    · obtain ⟨ad, p1, c1, rfl, _, hcell, hr⟩ := r.at k (by rw [HN.out]; exact hlt)
      have hrl := HL.out _ (getD_inm (l := P) (j := k) (d := []) (by rw [HN.out]; exact hlt))
      have HT := all_next (rowB n) P k [] (by rw [HN.out]; exact hlt)
      have HB : Hid (rowB n (P.getD k []) = false → insB n P = false) := fun h => all_bad (by rw [HN.out]; exact hlt) h
      rw [HA.out, Bool.true_and] at HT
      have HT' : Hid _ := HT
      clear HT HA
      generalize P.getD k [] = row at *
      go_wp2
      go_loopw [15] (fun i wx => ∃ j : Nat, j ≤ row.length ∧ i = .int .i64 j ∧ wx = wr ∧ Hid ((row.take j).all (fun p => decide (0 ≤ p ∧ p < (n : Int))) = true)) (fun i _ => row.length - (intOf i).toNat)
      case atStart => exact ⟨0, Nat.zero_le _, rfl, rfl, by show _ = _; simp⟩
      case round =>
        obtain ⟨j, hj, rfl, rfl, HA⟩ := hrel
        by_cases hjt : j < row.length
        · obtain ⟨ad, rfl, _, hc1⟩ := hr.at j 0 hjt
          have HT2 : Hid _ := all_next (fun p => decide (0 ≤ p ∧ p < (n : Int))) row j 0 hjt
          have HB2 : Hid ((decide (0 ≤ row.getD j 0 ∧ row.getD j 0 < (n : Int))) = false → rowB n row = false) := fun h => all_bad (d := 0) hjt h
          generalize row.getD j 0 = x at *
          by_cases h0 : x < 0
          · have d0 : decide (x < 0) = true := decide_eq_true h0
            have HF : Hid (insB n P = false) := HB.out (HB2.out (by simp; omega))
            go_wp2
            go_ret
            exact ⟨ret_bool HF.out.symm, rfl⟩
          · have d0 : decide (x < 0) = false := decide_eq_false h0
            by_cases h1 : (n : Int) ≤ x
            · have HF : Hid (insB n P = false) := HB.out (HB2.out (by simp; omega))
              go_wp2
              go_ret
              exact ⟨ret_bool HF.out.symm, rfl⟩
            · go_wp2
              go_roundw
              case rel => exact ⟨j + 1, by omega, by go_num, by first | rfl | trivial, by show _ = _; rw [HT2.out, HA.out]; simp; omega⟩
              case measure => simp [intOf]; omega
        · obtain rfl : j = row.length := by omega
          rw [List.take_length] at HA
          go_wp2
          go_roundw
          case rel => exact ⟨k + 1, by omega, by go_num, by first | rfl | trivial, HT'.out.trans HA.out⟩
          case measure => simp [intOf]; omega
    · obtain rfl : k = n := by omega
      have HF : Hid (insB k P = true) := by
        have := HA.out
        rw [← HN.out, List.take_length] at this
        rw [← HN.out]
        exact this
      go_wp2
      go_ret
      exact ⟨ret_bool HF.out.symm, rfl⟩
end Go.Proofs.Ytmkppbcngpgkdab

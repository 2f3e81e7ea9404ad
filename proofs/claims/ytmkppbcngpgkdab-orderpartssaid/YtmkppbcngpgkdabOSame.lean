/-
  The statements' own helpers: few, same, at.
-/
import Derived.Test.YtmkppbcngpgkdabOInside
namespace Go.Proofs.Ytmkppbcngpgkdab
open Go.RowKit Go.Maps

/-- Rows, few and short. -/
def fewB (P : List (List Int)) : Bool := decide (P.length ≤ 40) && P.all fun r => decide (r.length ≤ 40)
theorem few_iff {P : List (List Int)} : fewB P = true ↔ P.length ≤ 40 ∧ ∀ r ∈ P, r.length ≤ 40 := by unfold fewB; simp
set_option maxHeartbeats 2000000 in
theorem few_any (P : List (List Int)) (p : Option Addr) (c : Nat) (w : World) (r : RdR (· < w.heap.size) w p c P) (hP : P.length ≤ 9223372036854775807) (hl : ∀ x ∈ P, x.length ≤ 9223372036854775807) :
    Calls Try.prog 4 #[.slice p P.length c] w fun e w' => e = .returned (.bool (fewB P)) ∧ w = w' := by
  have HL : Hid (∀ x ∈ P, x.length ≤ 9223372036854775807) := hl
  obtain ⟨n, hn⟩ : ∃ n, P.length = n := ⟨_, rfl⟩
  have HN : Hid (P.length = n) := hn
  rw [hn] at hP ⊢
  clear hn hl
  by_cases hb : n ≤ 40
  · go_enter Try.func4, Try.ntmps4
    go_wp2
    go_loopw [3] (fun i wr => ∃ k : Nat, k ≤ n ∧ i = .int .i64 k ∧ wr = w ∧ Hid (((P.take k).all fun r => decide (r.length ≤ 40)) = true)) (fun i _ => n - (intOf i).toNat)
    case atStart => exact ⟨0, Nat.zero_le _, rfl, rfl, by show _ = _; simp⟩
    case round =>
      obtain ⟨k, hk, rfl, rfl, HA⟩ := hrel
      by_cases hlt : k < n
      · have hkl : k < P.length := by rw [HN.out]; exact hlt
        obtain ⟨ad, p1, c1, rfl, _, hcell, hr⟩ := r.at k hkl
        have HT : Hid _ := all_next (fun r : List Int => decide (r.length ≤ 40)) P k [] hkl
        have HB : Hid (decide ((P.getD k []).length ≤ 40) = false → P.all (fun r => decide (r.length ≤ 40)) = false) := fun h => all_bad (f := fun r : List Int => decide (r.length ≤ 40)) (d := []) hkl h
        have hml := HL.out _ (getD_inm (d := []) hkl)
        generalize (P.getD k []).length = m at *
        by_cases hm : m ≤ 40
        · go_wp2
          go_roundw
          case rel => exact ⟨k + 1, by omega, by go_num, by first | rfl | trivial, by show _ = _; rw [HT.out, HA.out]; simpa using hm⟩
          case measure => simp [intOf]; omega
        · have HF : Hid (fewB P = false) := by
            show _ = _
            unfold fewB
            rw [HB.out (decide_eq_false hm), Bool.and_false]
          go_wp2
          go_ret
          exact ⟨ret_bool HF.out.symm, rfl⟩
      · obtain rfl : k = n := by omega
        have HF : Hid (fewB P = true) := by
          show _ = _
          have := HA.out
          rw [← HN.out, List.take_length] at this
          unfold fewB
          rw [this, HN.out, decide_eq_true hb]
          rfl
        go_wp2
        go_ret
        exact ⟨ret_bool HF.out.symm, rfl⟩
  · have HF : Hid (fewB P = false) := by
      show _ = _
      unfold fewB
      rw [HN.out, decide_eq_false hb, Bool.false_and]
    go_enter Try.func4, Try.ntmps4
    go_wp2
    go_ret
    exact ⟨ret_bool HF.out.symm, rfl⟩
/-- The place of a number, or -1. -/
def atZ (x : Int) (l : List Int) : Int := if x ∈ l then (l.idxOf x : Int) else -1
theorem idx_at {l : List Int} {k : Nat} (hk : k < l.length) (hn : l.getD k 0 ∉ l.take k) : l.idxOf (l.getD k 0) = k := by
  have h1 := List.take_append_drop k l
  have h2 : l.drop k = l.getD k 0 :: l.drop (k + 1) := by rw [getD_in hk]; exact List.drop_eq_getElem_cons hk
  generalize l.getD k 0 = x at *
  rw [h2] at h1
  rw [← h1, List.idxOf_append, if_neg hn]
  simp
  omega
set_option maxHeartbeats 2000000 in
theorem at_any {O : Nat → Prop} (x : Int) (l : List Int) (p : Option Addr) (c : Nat) (w : World) (r : RdI O w p c l) (hl : l.length ≤ 1000000) :
    Calls Try.prog 8 #[.int .i64 x, .slice p l.length c] w fun e w' => e = .returned (.int .i64 (atZ x l)) ∧ w = w' := by
  obtain ⟨n, hn⟩ : ∃ n, l.length = n := ⟨_, rfl⟩
  have HN : Hid (l.length = n) := hn
  rw [hn] at hl ⊢
  clear hn
  go_enter Try.func8, Try.ntmps8
  go_wp2
  go_loopw [5] (fun i wr => ∃ k : Nat, k ≤ n ∧ i = .int .i64 k ∧ wr = w ∧ Hid (x ∉ l.take k)) (fun i _ => n - (intOf i).toNat)
  case atStart => exact ⟨0, Nat.zero_le _, rfl, rfl, by show _ ∉ _; simp⟩
  case round =>
    obtain ⟨k, hk, rfl, rfl, HA⟩ := hrel
    by_cases hlt : k < n
    · have hkl : k < l.length := by rw [HN.out]; exact hlt
      obtain ⟨ad, rfl, _, hc⟩ := r.at k 0 hkl
      have HT : Hid (l.take (k + 1) = l.take k ++ [l.getD k 0]) := take_snoc l k 0 hkl
      have HM : Hid (l.getD k 0 ∈ l) := getD_inm hkl
      have HX : Hid (l.getD k 0 ∉ l.take k → l.idxOf (l.getD k 0) = k) := idx_at hkl
      generalize l.getD k 0 = y at *
      by_cases e : y = x
      · subst e
        have HF : Hid ((k : Int) = atZ y l) := by
          show _ = _
          unfold atZ
          rw [if_pos HM.out, HX.out HA.out]
        go_wp2
        go_ret
        exact ⟨ret_int HF.out, rfl⟩
      · have e' : (y == x) = false := by simpa using e
        go_wp2
        go_roundw
        case rel => exact ⟨k + 1, by omega, by go_num, by first | rfl | trivial, by show _ ∉ _; rw [HT.out, List.mem_append, List.mem_singleton]; exact fun h => h.elim HA.out fun h => e h.symm⟩
        case measure => simp [intOf]; omega
    · obtain rfl : k = n := by omega
      have HF : Hid ((-1 : Int) = atZ x l) := by
        have := HA.out
        rw [← HN.out, List.take_length] at this
        show _ = _
        unfold atZ
        rw [if_neg this]
      go_wp2
      go_ret
      exact ⟨ret_int HF.out, rfl⟩
theorem take_ext {a b : List Int} (h : a.length = b.length) : (∀ k, k < a.length → a.getD k 0 = b.getD k 0) → a = b := by
  intro hk
  apply List.ext_getElem h
  intro i h1 h2
  have := hk i h1
  rw [getD_in h1, getD_in h2] at this
  exact this
set_option maxHeartbeats 4000000 in
theorem same_any {O O' : Nat → Prop} (a b : List Int) (p q : Option Addr) (c d : Nat) (w : World) (ra : RdI O w p c a) (rb : RdI O' w q d b) (ha : a.length ≤ 1000000) (_hb : b.length ≤ 1000000) :
    Calls Try.prog 9 #[.slice p a.length c, .slice q b.length d] w fun e w' => e = .returned (.bool (decide (a = b))) ∧ Keep (fun _ => False) w w' := by
  by_cases hab : a.length = b.length
  · have HX : Hid ((∀ k, k < a.length → a.getD k 0 = b.getD k 0) → a = b) := take_ext hab
    rw [← hab]
    obtain ⟨n, hn⟩ : ∃ n, a.length = n := ⟨_, rfl⟩
    have HN : Hid (a.length = n) := hn
    have HN' : Hid (b.length = n) := hab.symm.trans hn
    rw [hn] at ha HX ⊢
    clear hn hab
    go_enter Try.func9, Try.ntmps9
    go_wp2
    go_loopw [5] (fun i wr => ∃ k : Nat, k ≤ n ∧ i = .int .i64 k ∧ Keep (fun _ => False) w wr ∧ wr.heap = w.heap ∧ Hid (∀ j, j < k → a.getD j 0 = b.getD j 0)) (fun i _ => n - (intOf i).toNat)
    case atStart => exact ⟨0, Nat.zero_le _, rfl, Keep.refl _ _, rfl, fun j hj => absurd hj (by omega)⟩
    case round =>
      obtain ⟨k, hk, rfl, hkp, hheap, HA⟩ := hrel
      have hS : ∀ O : Nat → Prop, Same O w wr := fun O k _ => by rw [hheap]
      by_cases hlt : k < n
      · obtain ⟨ad, rfl, _, hca⟩ := (ra.same (hS O)).at k 0 (by rw [HN.out]; exact hlt)
        obtain ⟨ad', rfl, _, hcb⟩ := (rb.same (hS O')).at k 0 (by rw [HN'.out]; exact hlt)
        have HE : Hid (a = b → a.getD k 0 = b.getD k 0) := fun h => by rw [h]
        have HA2 : Hid (a.getD k 0 = b.getD k 0 → ∀ j, j < k + 1 → a.getD j 0 = b.getD j 0) := fun h j hj => by
          rcases Nat.lt_or_ge j k with h' | h'
          · exact HA.out j h'
          · rw [show j = k by omega]; exact h
        have hk1 : ∀ (wx : World) (k : Nat), Keep (fun _ => False) w wx → Keep (fun _ => False) w (wx.drewN k) := fun wx k h => ⟨h.os, h.tape, h.output, h.size, h.block⟩
        generalize a.getD k 0 = x at *
        generalize b.getD k 0 = y at *
        clear hS HA
        have HHp : Hid (wr.heap = w.heap) := hheap
        clear hheap
        by_cases e : x = y
        · subst e
          have HB := HA2.out rfl
          have HB' : Hid _ := HB
          clear HA2 HE HB
          go_wp2_with fail
          go_quiet (fail)
          go_wp2_with fail
          go_roundw
          case rel => exact ⟨k + 1, by omega, by go_num, hk1 _ _ hkp, HHp.out, HB'⟩
          case measure => simp [intOf]; omega
        · have e' : (x == y) = false := by simpa using e
          have HF : Hid (¬ a = b) := fun h => e (HE.out h)
          clear HA2 HE
          go_wp2_with fail
          go_quiet (fail)
          go_wp2_with fail
          go_ret
          exact ⟨ret_bool (decide_eq_false HF.out).symm, hk1 _ _ hkp⟩
      · obtain rfl : k = n := by omega
        have HF : Hid (a = b) := HX.out HA.out
        clear HX HA
        go_wp2_with fail
        go_ret
        exact ⟨ret_bool (decide_eq_true HF.out).symm, hkp⟩
  · have HF : Hid (¬ a = b) := fun h => hab (by rw [h])
    have hab' : ((a.length : Int) == (b.length : Int)) = false := by rw [beq_eq_false_iff_ne]; omega
    generalize a.length = n at *
    generalize b.length = m at *
    go_enter Try.func9, Try.ntmps9
    go_wp2
    go_ret
    exact ⟨ret_bool (decide_eq_false HF.out).symm, Keep.refl _ _⟩
end Go.Proofs.Ytmkppbcngpgkdab

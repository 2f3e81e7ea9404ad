/-
  Who stands behind whom, as plain lists.
-/
import Derived.Test.YtmkppbcngpgkdabOMath
namespace Go.Proofs.Ytmkppbcngpgkdab

/-- Those of the first k things that stand behind p, each as often as p stands among its parents. -/
def kidR (Q : List (List Nat)) : Nat → Nat → List Nat
  | 0, _ => []
  | k + 1, p => kidR Q k p ++ List.replicate ((par Q k).count p) k
/-- And of thing k the first j parents. -/
def kidJ (Q : List (List Nat)) (k j p : Nat) : List Nat := kidR Q k p ++ List.replicate (((par Q k).take j).count p) k
theorem kidJ_zero (Q : List (List Nat)) (k p : Nat) : kidJ Q k 0 p = kidR Q k p := by simp [kidJ]
theorem kidJ_all (Q : List (List Nat)) (k p : Nat) : kidJ Q k (par Q k).length p = kidR Q (k + 1) p := by simp [kidJ, kidR]
theorem kidJ_same (Q : List (List Nat)) (k j : Nat) (hj : j < (par Q k).length) : kidJ Q k (j + 1) ((par Q k).getD j 0) = kidJ Q k j ((par Q k).getD j 0) ++ [k] := by
  unfold kidJ
  rw [take_snoc _ j 0 hj, List.count_append, List.append_assoc]
  congr 1
  rw [show List.count ((par Q k).getD j 0) [(par Q k).getD j 0] = 1 by simp, List.replicate_succ']
theorem kidJ_other (Q : List (List Nat)) (k j p : Nat) (hj : j < (par Q k).length) (hp : p ≠ (par Q k).getD j 0) : kidJ Q k (j + 1) p = kidJ Q k j p := by
  unfold kidJ
  rw [take_snoc _ j 0 hj, List.count_append]
  congr 2
  have : List.count p [(par Q k).getD j 0] = 0 := by
    rw [List.count_eq_zero]
    simpa using hp
  omega
theorem kidR_mem {Q : List (List Nat)} {p x : Nat} : ∀ {k : Nat}, x ∈ kidR Q k p → x < k ∧ p ∈ par Q x
  | 0, h => by simp [kidR] at h
  | k + 1, h => by
    rw [kidR, List.mem_append] at h
    rcases h with h | h
    · obtain ⟨h1, h2⟩ := kidR_mem h
      exact ⟨by omega, h2⟩
    · rw [List.mem_replicate] at h
      refine ⟨by omega, ?_⟩
      rw [h.2]
      exact List.count_pos_iff.1 (by omega)
theorem kidR_count {Q : List (List Nat)} {p j : Nat} : ∀ {k : Nat}, j < k → (kidR Q k p).count j = (par Q j).count p
  | 0, h => absurd h (by omega)
  | k + 1, h => by
    rw [kidR, List.count_append, List.count_replicate]
    rcases Nat.lt_or_ge j k with h' | h'
    · rw [kidR_count h', if_neg (by simp; omega)]
      rfl
    · have e : j = k := by omega
      subst e
      rw [if_pos (by simp), List.count_eq_zero.2 (fun hm => by have := (kidR_mem hm).1; omega)]
      omega
theorem kidR_len {Q : List (List Nat)} {p m : Nat} (hm : ∀ i, (par Q i).length ≤ m) : ∀ k, (kidR Q k p).length ≤ k * m
  | 0 => by simp [kidR]
  | k + 1 => by
    have h1 := kidR_len (p := p) hm k
    have h2 := hm k
    have h3 : (par Q k).count p ≤ (par Q k).length := List.count_le_length
    rw [kidR, List.length_append, List.length_replicate, Nat.succ_mul]
    omega
theorem kidJ_len {Q : List (List Nat)} {p m : Nat} (hm : ∀ i, (par Q i).length ≤ m) (k j : Nat) : (kidJ Q k j p).length ≤ k * m + m := by
  have h1 := kidR_len (p := p) hm k
  have h2 := hm k
  have h3 : ((par Q k).take j).count p ≤ ((par Q k).take j).length := List.count_le_length
  have h4 : ((par Q k).take j).length ≤ (par Q k).length := by rw [List.length_take]; omega
  unfold kidJ
  rw [List.length_append, List.length_replicate]
  omega
/-- How many parents the first k things have, the others not yet. -/
def wl (Q : List (List Nat)) (n k : Nat) : List Int := (List.range n).map fun i => if i < k then ((par Q i).length : Int) else 0
theorem wl_len (Q : List (List Nat)) (n k : Nat) : (wl Q n k).length = n := by simp [wl]
theorem wl_zero (Q : List (List Nat)) (n : Nat) : wl Q n 0 = List.replicate n 0 := by
  apply List.ext_getElem
  · simp [wl]
  · intro i h1 h2
    simp [wl]
theorem wl_set (Q : List (List Nat)) (n k : Nat) : (wl Q n k).set k ((par Q k).length : Int) = wl Q n (k + 1) := by
  apply List.ext_getElem
  · simp [wl]
  · intro i h1 h2
    rw [List.getElem_set]
    simp only [wl, List.getElem_map, List.getElem_range]
    by_cases e : k = i
    · subst e
      rw [if_pos rfl, if_pos (by omega)]
    · rw [if_neg e]
      by_cases h : i < k
      · rw [if_pos h, if_pos (by omega)]
      · rw [if_neg h, if_neg (by omega)]
theorem wl_at (Q : List (List Nat)) (n i : Nat) (hi : i < n) : (wl Q n n).getD i 0 = ((par Q i).length : Int) := by
  rw [getD_in (by rw [wl_len]; exact hi)]
  simp [wl, hi]
end Go.Proofs.Ytmkppbcngpgkdab

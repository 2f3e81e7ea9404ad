/-
  The parts of a name with a sign ahead, as a plain function, and where its colon stands.
-/
import Derived.Test.YtfblafpcdlmbjaaKinds
namespace Go.Proofs.Ytfblafpcdlmbjaa
open Go.RowKit

def nix : ByteArray := ⟨#[]⟩
/-- The local name, the server's name, and whether it is a name of that sign. -/
def parts (c : Int) (s : ByteArray) : ByteArray × ByteArray × Bool :=
  if 0 < s.size ∧ (ints s).getD 0 0 = c ∧ ((ints s).drop 1).findIdx (· == 58) + 1 < s.size ∧ loc (s.extract 1 (((ints s).drop 1).findIdx (· == 58) + 1)) = true ∧ srv (s.extract (((ints s).drop 1).findIdx (· == 58) + 2) s.size) = true
  then (s.extract 1 (((ints s).drop 1).findIdx (· == 58) + 1), s.extract (((ints s).drop 1).findIdx (· == 58) + 2) s.size, true) else (nix, nix, false)

theorem getD_drop1 (l : List Int) (j : Nat) : (l.drop 1).getD j 0 = l.getD (j + 1) 0 := by
  simp [List.getD_eq_getElem?_getD]
theorem find_hit (l : List Int) (k : Nat) (hk : k < l.length) (hc : l.getD k 0 = 58) (ha : ∀ j, j < k → l.getD j 0 ≠ 58) : l.findIdx (· == 58) = k := by
  induction l generalizing k with
  | nil => simp at hk
  | cons a l ih =>
    rw [List.findIdx_cons]
    match k with
    | 0 => simp at hc; simp [hc]
    | k + 1 =>
      have h0 := ha 0 (by omega)
      simp only [List.getD_cons_zero] at h0
      have h1 : (a == 58) = false := by simp [h0]
      rw [h1]
      simp only [cond_false]
      rw [ih k (by simpa using hk) (by simpa using hc) (fun j hj => by simpa using ha (j + 1) (by omega))]
theorem find_miss (l : List Int) (ha : ∀ j, j < l.length → l.getD j 0 ≠ 58) : l.findIdx (· == 58) = l.length := by
  induction l with
  | nil => rfl
  | cons a l ih =>
    have h0 := ha 0 (by simp)
    simp only [List.getD_cons_zero] at h0
    have h1 : (a == 58) = false := by simp [h0]
    rw [List.findIdx_cons, h1]
    simp only [cond_false]
    rw [ih (fun j hj => by simpa using ha (j + 1) (by simpa using hj))]
    simp
theorem idx_hit (l : List UInt8) (k : Nat) (hk : k < l.length) (hc : (l.map fun c => (c.toNat : Int)).getD k 0 = 58) (ha : ∀ j, j < k → (l.map fun c => (c.toNat : Int)).getD j 0 ≠ 58) : Lib.indexByte l 58 = k := by
  induction l generalizing k with
  | nil => simp at hk
  | cons a l ih =>
    unfold Lib.indexByte
    match k with
    | 0 =>
      have : a = 58 := by
        simp at hc
        exact UInt8.toNat_inj.1 (by simpa using (by omega : a.toNat = 58))
      simp [this]
    | k + 1 =>
      have h0 := ha 0 (by omega)
      have h1 : (a == 58) = false := by
        simp only [List.map_cons, List.getD_cons_zero] at h0
        simp only [beq_eq_false_iff_ne, ne_eq]
        intro h; subst h; exact h0 rfl
      rw [h1, ih k (by simpa using hk) (by simpa using hc) (fun j hj => by simpa using ha (j + 1) (by omega))]
      have h2 : ((k : Int) == -1) = false := by simp
      simp [h2]
theorem idx_miss (l : List UInt8) (ha : ∀ j, j < l.length → (l.map fun c => (c.toNat : Int)).getD j 0 ≠ 58) : Lib.indexByte l 58 = -1 := by
  induction l with
  | nil => rfl
  | cons a l ih =>
    unfold Lib.indexByte
    have h0 := ha 0 (by simp)
    have h1 : (a == 58) = false := by
      simp only [List.map_cons, List.getD_cons_zero] at h0
      simp only [beq_eq_false_iff_ne, ne_eq]
      intro h; subst h; exact h0 rfl
    rw [h1, ih (fun j hj => by simpa using ha (j + 1) (by simpa using hj))]
    simp
theorem parts_hit (c : Int) (s : ByteArray) (k : Nat) (h0 : (ints s).getD 0 0 = c) (h1 : 1 ≤ k) (hk : k < s.size) (hc : (ints s).getD k 0 = 58) (ha : ∀ j, 1 ≤ j → j < k → (ints s).getD j 0 ≠ 58) :
    parts c s = if loc (s.extract 1 k) = true ∧ srv (s.extract (k + 1) s.size) = true then (s.extract 1 k, s.extract (k + 1) s.size, true) else (nix, nix, false) := by
  have hf : ((ints s).drop 1).findIdx (· == 58) = k - 1 := by
    refine find_hit _ _ (by simp [ints_length]; omega) ?_ fun j hj => ?_
    · rw [getD_drop1, Nat.sub_add_cancel h1]; exact hc
    · rw [getD_drop1]; exact ha (j + 1) (by omega) (by omega)
  unfold parts
  rw [hf]
  have e1 : k - 1 + 1 = k := by omega
  have e2 : k - 1 + 2 = k + 1 := by omega
  rw [e1, e2]
  by_cases hl : loc (s.extract 1 k) = true ∧ srv (s.extract (k + 1) s.size) = true
  · rw [if_pos hl, if_pos ⟨by omega, h0, hk, hl.1, hl.2⟩]
  · rw [if_neg hl, if_neg fun h => hl ⟨h.2.2.2.1, h.2.2.2.2⟩]
theorem parts_other (c : Int) (s : ByteArray) (h : s.size = 0 ∨ (ints s).getD 0 0 ≠ c ∨ ∀ j, 1 ≤ j → j < s.size → (ints s).getD j 0 ≠ 58) : parts c s = (nix, nix, false) := by
  unfold parts
  rw [if_neg]
  intro ⟨g0, g1, g2, _⟩
  rcases h with h | h | h
  · omega
  · exact h g1
  · have : ((ints s).drop 1).findIdx (· == 58) = ((ints s).drop 1).length := find_miss _ fun j hj => by
      rw [getD_drop1]; exact h (j + 1) (by omega) (by simp [ints_length] at hj; omega)
    rw [this] at g2
    simp [ints_length] at g2
    omega
theorem colon_cases (s : ByteArray) : (∃ k, 1 ≤ k ∧ k < s.size ∧ (ints s).getD k 0 = 58 ∧ ∀ j, 1 ≤ j → j < k → (ints s).getD j 0 ≠ 58) ∨ ∀ j, 1 ≤ j → j < s.size → (ints s).getD j 0 ≠ 58 := by
  have : ∀ n, (∃ k, 1 ≤ k ∧ k < n ∧ (ints s).getD k 0 = 58 ∧ ∀ j, 1 ≤ j → j < k → (ints s).getD j 0 ≠ 58) ∨ ∀ j, 1 ≤ j → j < n → (ints s).getD j 0 ≠ 58 := by
    intro n
    induction n with
    | zero => exact .inr fun j _ hj => by omega
    | succ n ih =>
      rcases ih with ⟨k, h1, h2, h3, h4⟩ | h
      · exact .inl ⟨k, h1, by omega, h3, h4⟩
      · by_cases hn : 1 ≤ n ∧ (ints s).getD n 0 = 58
        · exact .inl ⟨n, hn.1, by omega, hn.2, h⟩
        · refine .inr fun j h1 h2 => ?_
          by_cases e : j = n
          · subst e; exact fun he => hn ⟨h1, he⟩
          · exact h j h1 (by omega)
  exact this s.size
theorem cut_name (s : ByteArray) (k : Nat) (h1 : 1 ≤ k) (hk : k ≤ s.size) : (s.extract 1 s.size).extract 0 (k - 1) = s.extract 1 k := by
  rw [ByteArray.extract_extract]
  congr 1
  omega
theorem cut_server (s : ByteArray) (k : Nat) : (s.extract 1 s.size).extract k (s.extract 1 s.size).size = s.extract (k + 1) s.size := by
  rw [ByteArray.extract_extract]
  simp
  congr 1
  all_goals omega
end Go.Proofs.Ytfblafpcdlmbjaa

/-
  Letters and bytes are one thing: enc and dec are each other's inverse, and enc goes along with rows of threes.
-/
import Derived.Test.YtjgogmlmcebgpaaMath
import Derived.Laws.BytesArg
namespace Go.Proofs.Ytjgogmlmcebgpaa

theorem enc_append (zs ys : List Int) (h : zs.length % 3 = 0) : enc (zs ++ ys) = enc zs ++ enc ys := by
  induction zs using enc.induct with
  | case1 => rfl
  | case2 a => simp at h
  | case3 a b => simp at h
  | case4 a b c r ih => simp only [List.cons_append, enc]; rw [ih (by simp at h; omega)]
theorem ints_str (l : List Int) (h : ∀ x ∈ l, 0 ≤ x ∧ x ≤ 255) : ints (strOfNums l) = l := by
  simp only [ints, strOfNums, List.map_map]
  conv => rhs; rw [← List.map_id l]
  refine List.map_congr_left fun x hx => ?_
  have := h x hx
  simp only [Function.comp, id_eq]
  have hx : x.toNat < 256 := by omega
  rw [UInt8.toNat_ofNat_of_lt' hx]
  omega
theorem str_ints (s : ByteArray) : strOfNums (ints s) = s := by
  cases s with
  | mk d =>
    simp only [ints, strOfNums, List.map_map]
    have e : ((fun n : Int => UInt8.ofNat n.toNat) ∘ fun c : UInt8 => (c.toNat : Int)) = id := by
      funext c
      simp
    rw [e, List.map_id]
theorem str_size (l : List Int) : (strOfNums l).size = l.length := by
  show (strOfNums l).data.size = _
  simp [strOfNums]
theorem str_append (a b : List Int) : strOfNums a ++ strOfNums b = strOfNums (a ++ b) := by
  apply ByteArray.ext
  rw [ByteArray.data_append]
  simp [strOfNums]
theorem num0_ltr (n : Int) (h0 : 0 ≤ n) (h1 : n ≤ 63) : num0 (ltr n) = n := by
  unfold num0; rw [num_ltr n h0 h1, if_pos h0]
theorem isLet_ltr (n : Int) (h0 : 0 ≤ n) (h1 : n ≤ 63) : isLet (ltr n) = true := by
  unfold isLet; rw [num_ltr n h0 h1]; simp [h0]
theorem dec_enc (zs : List Int) (h : ∀ x ∈ zs, 0 ≤ x ∧ x ≤ 255) : dec (enc zs) = zs := by
  induction zs using enc.induct with
  | case1 => rfl
  | case2 a =>
    have ha := h a (by simp)
    simp only [enc, dec]
    rw [num0_ltr _ (by omega) (by omega), num0_ltr _ (by omega) (by omega)]
    congr 1; omega
  | case3 a b =>
    have ha := h a (by simp)
    have hb := h b (by simp)
    simp only [enc, dec]
    rw [num0_ltr _ (by omega) (by omega), num0_ltr _ (by omega) (by omega), num0_ltr _ (by omega) (by omega)]
    congr 1
    · omega
    · congr 1; omega
  | case4 a b c r ih =>
    have ha := h a (by simp)
    have hb := h b (by simp)
    have hc := h c (by simp)
    simp only [enc, dec]
    rw [num0_ltr _ (by omega) (by omega), num0_ltr _ (by omega) (by omega), num0_ltr _ (by omega) (by omega), num0_ltr _ (by omega) (by omega), ih (fun y hy => h y (by simp [hy]))]
    congr 1
    · omega
    · congr 1
      · omega
      · congr 1; omega
end Go.Proofs.Ytjgogmlmcebgpaa

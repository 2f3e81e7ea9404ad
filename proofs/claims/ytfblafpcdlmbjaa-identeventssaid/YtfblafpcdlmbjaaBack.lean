/-
  Letters and bytes are one thing: enc and dec are each other's inverse, and enc goes along with rows of threes.
-/
import Derived.Test.YtfblafpcdlmbjaaMath
import Derived.Laws.BytesArg
namespace Go.Proofs.Ytfblafpcdlmbjaa

theorem enc_append (zs ys : List Int) (h : zs.length % 3 = 0) : enc (zs ++ ys) = enc zs ++ enc ys := by
  induction zs using enc.induct with
  | case1 => rfl
  | case2 a => simp at h
  | case3 a b => simp at h
  | case4 a b c r ih => simp only [List.cons_append, enc]; rw [ih (by simp at h; omega)]
theorem ints_str (l : List Int) (h : ∀ x ∈ l, 0 ≤ x ∧ x ≤ 255) : ints (strOfNums l) = l := by
  simp only [ints, strOfNums, List.map_map]
  conv => rhs; rw [← List.map_id l]
  refine List.map_congr_left fun x hx => ?_
  have := h x hx
  simp only [Function.comp, id_eq]
  have hx : x.toNat < 256 := by omega
  rw [UInt8.toNat_ofNat_of_lt' hx]
  omega
theorem str_ints (s : ByteArray) : strOfNums (ints s) = s := by
  cases s with
  | mk d =>
    simp only [ints, strOfNums, List.map_map]
    have e : ((fun n : Int => UInt8.ofNat n.toNat) ∘ fun c : UInt8 => (c.toNat : Int)) = id := by
      funext c
      simp
    rw [e, List.map_id]
theorem str_size (l : List Int) : (strOfNums l).size = l.length := by
  show (strOfNums l).data.size = _
  simp [strOfNums]
theorem str_append (a b : List Int) : strOfNums a ++ strOfNums b = strOfNums (a ++ b) := by
  apply ByteArray.ext
  rw [ByteArray.data_append]
  simp [strOfNums]
theorem num0_ltr (n : Int) (h0 : 0 ≤ n) (h1 : n ≤ 63) : num0 (ltr n) = n := by
  unfold num0; rw [num_ltr n h0 h1, if_pos h0]
theorem isLet_ltr (n : Int) (h0 : 0 ≤ n) (h1 : n ≤ 63) : isLet (ltr n) = true := by
  unfold isLet; rw [num_ltr n h0 h1]; simp [h0]
theorem dec_enc (zs : List Int) (h : ∀ x ∈ zs, 0 ≤ x ∧ x ≤ 255) : dec (enc zs) = zs := by
  induction zs using enc.induct with
  | case1 => rfl
  | case2 a =>
    have ha := h a (by simp)
    simp only [enc, dec]
    rw [num0_ltr _ (by omega) (by omega), num0_ltr _ (by omega) (by omega)]
    congr 1; omega
  | case3 a b =>
    have ha := h a (by simp)
    have hb := h b (by simp)
    simp only [enc, dec]
    rw [num0_ltr _ (by omega) (by omega), num0_ltr _ (by omega) (by omega), num0_ltr _ (by omega) (by omega)]
    congr 1
    · omega
    · congr 1; omega
  | case4 a b c r ih =>
    have ha := h a (by simp)
    have hb := h b (by simp)
    have hc := h c (by simp)
    simp only [enc, dec]
    rw [num0_ltr _ (by omega) (by omega), num0_ltr _ (by omega) (by omega), num0_ltr _ (by omega) (by omega), num0_ltr _ (by omega) (by omega), ih (fun y hy => h y (by simp [hy]))]
    congr 1
    · omega
    · congr 1
      · omega
      · congr 1; omega
theorem good_enc (zs : List Int) (h : ∀ x ∈ zs, 0 ≤ x ∧ x ≤ 255) : good (enc zs) = (enc zs).length := by
  induction zs using enc.induct with
  | case1 => rfl
  | case2 a =>
    have ha := h a (by simp)
    simp only [enc, good, List.takeWhile_cons]
    rw [isLet_ltr _ (by omega) (by omega), isLet_ltr _ (by omega) (by omega)]
    simp
  | case3 a b =>
    have ha := h a (by simp)
    have hb := h b (by simp)
    simp only [enc, good, List.takeWhile_cons]
    rw [isLet_ltr _ (by omega) (by omega), isLet_ltr _ (by omega) (by omega), isLet_ltr _ (by omega) (by omega)]
    simp
  | case4 a b c r ih =>
    have ha := h a (by simp)
    have hb := h b (by simp)
    have hc := h c (by simp)
    have := ih (fun y hy => h y (by simp [hy]))
    simp only [enc, good, List.takeWhile_cons] at this ⊢
    rw [isLet_ltr _ (by omega) (by omega), isLet_ltr _ (by omega) (by omega), isLet_ltr _ (by omega) (by omega), isLet_ltr _ (by omega) (by omega)]
    simp [this]
theorem spar_cons4 (a b c d : Int) (r : List Int) : spar (a :: b :: c :: d :: r) = spar r := by
  unfold spar
  cases r with
  | nil => simp
  | cons x y =>
    have e : (a :: b :: c :: d :: x :: y).length % 4 = (x :: y).length % 4 := by simp only [List.length_cons]; omega
    have e2 : (a :: b :: c :: d :: x :: y).getD ((a :: b :: c :: d :: x :: y).length - 1) 0 = (x :: y).getD ((x :: y).length - 1) 0 := by simp [List.getD_eq_getElem?_getD]
    rw [e, e2]
theorem spar_enc (zs : List Int) (h : ∀ x ∈ zs, 0 ≤ x ∧ x ≤ 255) : spar (enc zs) = 0 := by
  induction zs using enc.induct with
  | case1 => rfl
  | case2 a =>
    have ha := h a (by simp)
    simp only [enc, spar, List.length_cons, List.length_nil]
    simp
    rw [num0_ltr _ (by omega) (by omega)]
    omega
  | case3 a b =>
    have hb := h b (by simp)
    simp only [enc, spar, List.length_cons, List.length_nil]
    simp
    rw [num0_ltr _ (by omega) (by omega)]
    omega
  | case4 a b c r ih =>
    simp only [enc]
    rw [spar_cons4]
    exact ih (fun y hy => h y (by simp [hy]))
theorem enc_mod4 (zs : List Int) : (enc zs).length % 4 ≠ 1 := by
  have := enc_length zs
  unfold siz lets at this
  repeat' split at this
  all_goals omega
theorem flt_enc (zs : List Int) (h : ∀ x ∈ zs, 0 ≤ x ∧ x ≤ 255) : flt (enc zs) = (0, 0) := by
  unfold flt
  rw [good_enc zs h, if_neg (by omega), if_neg (enc_mod4 zs), if_neg (by simp [spar_enc zs h])]
theorem num_of_let (c : Int) (h : isLet c = true) : num0 c = num c ∧ ltr (num c) = c := by
  unfold isLet at h
  have h' : 0 ≤ num c := by simpa using h
  exact ⟨by unfold num0; rw [if_pos h'], ltr_num c h'⟩
theorem good_cons (a : Int) (r : List Int) (h : good (a :: r) = (a :: r).length) : isLet a = true ∧ good r = r.length := by
  unfold good at h
  rw [List.takeWhile_cons] at h
  split at h
  · exact ⟨by assumption, by simpa [good] using h⟩
  · simp at h
theorem enc_dec_all (zs : List Int) (hg : good zs = zs.length) (h4 : zs.length % 4 ≠ 1) (hs : spar zs = 0) : enc (dec zs) = zs := by
  induction zs using dec.induct with
  | case1 => rfl
  | case2 a => simp at h4
  | case3 a b =>
    obtain ⟨la, hg⟩ := good_cons _ _ hg
    obtain ⟨lb, hg⟩ := good_cons _ _ hg
    obtain ⟨na, ea⟩ := num_of_let a la
    obtain ⟨nb, eb⟩ := num_of_let b lb
    have := num0_lo a; have := num0_hi a; have := num0_lo b; have := num0_hi b
    have hsb : num0 b % 16 = 0 := by simpa [spar] using hs
    simp only [dec, enc]
    rw [show (num0 a * 4 + num0 b / 16) / 4 = num a by omega, show (num0 a * 4 + num0 b / 16) % 4 * 16 = num b by omega, ea, eb]
  | case4 a b c =>
    obtain ⟨la, hg⟩ := good_cons _ _ hg
    obtain ⟨lb, hg⟩ := good_cons _ _ hg
    obtain ⟨lc, hg⟩ := good_cons _ _ hg
    obtain ⟨na, ea⟩ := num_of_let a la
    obtain ⟨nb, eb⟩ := num_of_let b lb
    obtain ⟨nc, ec⟩ := num_of_let c lc
    have := num0_lo a; have := num0_hi a; have := num0_lo b; have := num0_hi b; have := num0_lo c; have := num0_hi c
    have hsb : num0 c % 4 = 0 := by simpa [spar] using hs
    simp only [dec, enc]
    rw [show (num0 a * 4 + num0 b / 16) / 4 = num a by omega, show (num0 a * 4 + num0 b / 16) % 4 * 16 + (num0 b % 16 * 16 + num0 c / 4) / 16 = num b by omega,
      show (num0 b % 16 * 16 + num0 c / 4) % 16 * 4 = num c by omega, ea, eb, ec]
  | case5 a b c d r ih =>
    obtain ⟨la, hg⟩ := good_cons _ _ hg
    obtain ⟨lb, hg⟩ := good_cons _ _ hg
    obtain ⟨lc, hg⟩ := good_cons _ _ hg
    obtain ⟨ld, hg⟩ := good_cons _ _ hg
    obtain ⟨na, ea⟩ := num_of_let a la
    obtain ⟨nb, eb⟩ := num_of_let b lb
    obtain ⟨nc, ec⟩ := num_of_let c lc
    obtain ⟨nd, ed⟩ := num_of_let d ld
    have := num0_lo a; have := num0_hi a; have := num0_lo b; have := num0_hi b; have := num0_lo c; have := num0_hi c; have := num0_lo d; have := num0_hi d
    simp only [dec, enc]
    rw [show (num0 a * 4 + num0 b / 16) / 4 = num a by omega, show (num0 a * 4 + num0 b / 16) % 4 * 16 + (num0 b % 16 * 16 + num0 c / 4) / 16 = num b by omega,
      show (num0 b % 16 * 16 + num0 c / 4) % 16 * 4 + (num0 c % 4 * 64 + num0 d) / 64 = num c by omega, show (num0 c % 4 * 64 + num0 d) % 64 = num d by omega, ea, eb, ec, ed,
      ih hg (by simp only [List.length_cons] at h4; omega) (by rw [← spar_cons4 a b c d]; exact hs)]
theorem enc_dec (zs : List Int) (h : (flt zs).1 = 0) : enc (dec zs) = zs :=
  enc_dec_all zs (flt_ok zs h).1 (flt_ok zs h).2.1 (flt_ok zs h).2.2
end Go.Proofs.Ytfblafpcdlmbjaa

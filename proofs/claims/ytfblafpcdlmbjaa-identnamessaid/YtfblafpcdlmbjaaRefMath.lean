/-
  The document's answer, bit by bit, as plain functions on lists, and that it tells the same letters and bytes.
-/
import Derived.Test.YtfblafpcdlmbjaaBack
namespace Go.Proofs.Ytfblafpcdlmbjaa

/-- Bit k of a number. -/
def bitAt (n : Int) (k : Nat) : Int := n / 2 ^ k % 2
/-- The bits of a byte, the highest first. -/
def b8 (n : Int) : List Int := [n / 128 % 2, n / 64 % 2, n / 32 % 2, n / 16 % 2, n / 8 % 2, n / 4 % 2, n / 2 % 2, n % 2]
/-- The bits of a letter's number, the highest first. -/
def b6 (n : Int) : List Int := [n / 32 % 2, n / 16 % 2, n / 8 % 2, n / 4 % 2, n / 2 % 2, n % 2]
/-- The letters of bits, six by six. -/
def six : List Int → List Int
  | x0 :: x1 :: x2 :: x3 :: x4 :: x5 :: r => ltr (2 * (2 * (2 * (2 * (2 * x0 + x1) + x2) + x3) + x4) + x5) :: six r
  | _ => []
/-- How many bits are wanting to a multiple of six. -/
def pad (n : Nat) : Nat := (6 - n % 6) % 6
def allBits (zs : List Int) : List Int := zs.flatMap b8

theorem bitAt_bd (n : Int) (k : Nat) : 0 ≤ bitAt n k ∧ bitAt n k ≤ 1 := by unfold bitAt; omega
theorem div_bd (z : Int) (u : Nat) (h : 0 ≤ z) : 0 ≤ z / 2 ^ u ∧ z / 2 ^ u ≤ z := by
  have hp : (0 : Int) < 2 ^ u := Int.pow_pos (by decide)
  exact ⟨Int.ediv_nonneg h (by omega), Int.ediv_le_self _ h⟩
theorem bit_u8 (z : Int) (u : Nat) (h0 : 0 ≤ z) (h1 : z ≤ 255) : bits .and .u8 (z / 2 ^ u) 1 = bitAt z u := by
  have h := div_bd z u h0
  exact bits_mask .u8 8 (by decide) wraps_u8 1 (by decide) (z / 2 ^ u) h.1 (by omega)
theorem wraps_i64 (n : Int) (h₀ : 0 ≤ n) (h₁ : n < 2 ^ 63) : IntKind.i64.wrap n = n := by rw [IntKind.wrap_i64]; omega
theorem bit_i64 (z : Int) (u : Nat) (h0 : 0 ≤ z) (h1 : z ≤ 255) : bits .and .i64 (z / 2 ^ u) 1 = bitAt z u := by
  have h := div_bd z u h0
  exact bits_mask .i64 63 (by decide) wraps_i64 1 (by decide) (z / 2 ^ u) h.1 (by omega)
theorem take_b8 (z : Int) (j : Nat) (h : j < 8) : (b8 z).take (j + 1) = (b8 z).take j ++ [bitAt z (7 - j)] := by
  match j, h with
  | 0, _ => simp [b8, bitAt]
  | 1, _ => simp [b8, bitAt]
  | 2, _ => simp [b8, bitAt]
  | 3, _ => simp [b8, bitAt]
  | 4, _ => simp [b8, bitAt]
  | 5, _ => simp [b8, bitAt]
  | 6, _ => simp [b8, bitAt]
  | 7, _ => simp [b8, bitAt]
theorem take_b6 (z : Int) (j : Nat) (h : j < 6) : (b6 z).take (j + 1) = (b6 z).take j ++ [bitAt z (5 - j)] := by
  match j, h with
  | 0, _ => simp [b6, bitAt]
  | 1, _ => simp [b6, bitAt]
  | 2, _ => simp [b6, bitAt]
  | 3, _ => simp [b6, bitAt]
  | 4, _ => simp [b6, bitAt]
  | 5, _ => simp [b6, bitAt]
theorem take_snoc (zs : List Int) (k : Nat) (h : k < zs.length) : zs.take (k + 1) = zs.take k ++ [zs.getD k 0] := by
  rw [List.take_succ_eq_append_getElem h, List.getD_eq_getElem?_getD, List.getElem?_eq_getElem h]
  rfl
theorem allBits_snoc (l : List Int) (z : Int) : allBits (l ++ [z]) = allBits l ++ b8 z := by simp [allBits]
theorem allBits_length (zs : List Int) : (allBits zs).length = 8 * zs.length := by
  induction zs with
  | nil => rfl
  | cons z r ih => simp only [allBits, List.flatMap_cons, List.length_append, List.length_cons] at ih ⊢; rw [ih]; simp [b8]; omega
theorem six_step (P : List Int) (m : Nat) (x0 x1 x2 x3 x4 x5 : Int) (h : m + 6 ≤ P.length) (h0 : P.getD m 0 = x0) (h1 : P.getD (m + 1) 0 = x1) (h2 : P.getD (m + 2) 0 = x2) (h3 : P.getD (m + 3) 0 = x3) (h4 : P.getD (m + 4) 0 = x4) (h5 : P.getD (m + 5) 0 = x5) :
    six (P.drop m) = ltr (2 * (2 * (2 * (2 * (2 * x0 + x1) + x2) + x3) + x4) + x5) :: six (P.drop (m + 6)) := by
  have e : P.drop m = x0 :: x1 :: x2 :: x3 :: x4 :: x5 :: P.drop (m + 6) := by
    rw [List.drop_eq_getElem_cons (by omega), List.drop_eq_getElem_cons (by omega), List.drop_eq_getElem_cons (by omega), List.drop_eq_getElem_cons (by omega), List.drop_eq_getElem_cons (by omega), List.drop_eq_getElem_cons (by omega)]
    rw [List.getD_eq_getElem?_getD, List.getElem?_eq_getElem (by omega)] at h0 h1 h2 h3 h4 h5
    simp only [Option.getD_some] at h0 h1 h2 h3 h4 h5
    rw [h0, h1, h2, h3, h4, h5]
  rw [e, six]
theorem allBits_bd (zs : List Int) : ∀ x ∈ allBits zs, 0 ≤ x ∧ x ≤ 1 := by
  intro x hx
  simp only [allBits, List.mem_flatMap] at hx
  obtain ⟨z, _, hz⟩ := hx
  simp only [b8, List.mem_cons, List.not_mem_nil, or_false] at hz
  omega
theorem getD_bit {P : List Int} (h : ∀ x ∈ P, 0 ≤ x ∧ x ≤ 1) (j : Nat) : 0 ≤ P.getD j 0 ∧ P.getD j 0 ≤ 1 := by
  rw [List.getD_eq_getElem?_getD]
  rcases Nat.lt_or_ge j P.length with hj | hj
  · rw [List.getElem?_eq_getElem hj]; exact h _ (List.getElem_mem hj)
  · rw [List.getElem?_eq_none hj]; simp
theorem six_bits (zs : List Int) (h : ∀ x ∈ zs, 0 ≤ x ∧ x ≤ 255) : six (allBits zs ++ List.replicate (pad (8 * zs.length)) 0) = enc zs := by
  induction zs using enc.induct with
  | case1 => rfl
  | case2 a =>
    have ha := h a (by simp)
    simp only [allBits, List.flatMap_cons, List.flatMap_nil, b8, pad, List.length_cons, List.length_nil, List.append_nil, enc]
    simp only [List.cons_append, List.nil_append, Nat.zero_add, Nat.mul_one, Nat.reduceMod, Nat.reduceSub, List.replicate, six]
    congr 1
    · congr 1; omega
    · congr 1
      congr 1; omega
  | case3 a b =>
    have ha := h a (by simp)
    have hb := h b (by simp)
    simp only [allBits, List.flatMap_cons, List.flatMap_nil, b8, pad, List.length_cons, List.length_nil, List.append_nil, enc]
    simp only [List.cons_append, List.nil_append, Nat.zero_add, Nat.reduceAdd, Nat.reduceMul, Nat.reduceMod, Nat.reduceSub, List.replicate, six]
    congr 1
    · congr 1; omega
    · congr 1
      · congr 1; omega
      · congr 1
        congr 1; omega
  | case4 a b c r ih =>
    have ha := h a (by simp)
    have hb := h b (by simp)
    have hc := h c (by simp)
    have ih' := ih (fun y hy => h y (by simp [hy]))
    have hp : pad (8 * (a :: b :: c :: r).length) = pad (8 * r.length) := by simp only [pad, List.length_cons]; omega
    rw [hp]
    simp only [allBits, List.flatMap_cons, b8, enc] at ih' ⊢
    simp only [List.cons_append, List.nil_append, six]
    rw [ih']
    congr 1
    · congr 1; omega
    · congr 1
      · congr 1; omega
      · congr 1
        · congr 1; omega
        · congr 1
          congr 1; omega
/-- The bytes of bits, eight by eight. -/
def eight : List Int → List Int
  | x0 :: x1 :: x2 :: x3 :: x4 :: x5 :: x6 :: x7 :: r => (2 * (2 * (2 * (2 * (2 * (2 * (2 * x0 + x1) + x2) + x3) + x4) + x5) + x6) + x7) :: eight r
  | _ => []
/-- The bits of letters' numbers. -/
def allB6 (zs : List Int) : List Int := zs.flatMap fun z => b6 (num0 z)
theorem allB6_length (zs : List Int) : (allB6 zs).length = 6 * zs.length := by
  induction zs with
  | nil => rfl
  | cons z r ih => simp only [allB6, List.flatMap_cons, List.length_append, List.length_cons] at ih ⊢; rw [ih]; simp [b6]; omega
theorem allB6_snoc (l : List Int) (z : Int) : allB6 (l ++ [z]) = allB6 l ++ b6 (num0 z) := by simp [allB6]
theorem allB6_bd (zs : List Int) : ∀ x ∈ allB6 zs, 0 ≤ x ∧ x ≤ 1 := by
  intro x hx
  simp only [allB6, List.mem_flatMap] at hx
  obtain ⟨z, _, hz⟩ := hx
  simp only [b6, List.mem_cons, List.not_mem_nil, or_false] at hz
  omega
theorem eight_step (P : List Int) (m : Nat) (x0 x1 x2 x3 x4 x5 x6 x7 : Int) (h : m + 8 ≤ P.length) (h0 : P.getD m 0 = x0) (h1 : P.getD (m + 1) 0 = x1) (h2 : P.getD (m + 2) 0 = x2) (h3 : P.getD (m + 3) 0 = x3) (h4 : P.getD (m + 4) 0 = x4) (h5 : P.getD (m + 5) 0 = x5) (h6 : P.getD (m + 6) 0 = x6) (h7 : P.getD (m + 7) 0 = x7) :
    eight (P.drop m) = (2 * (2 * (2 * (2 * (2 * (2 * (2 * x0 + x1) + x2) + x3) + x4) + x5) + x6) + x7) :: eight (P.drop (m + 8)) := by
  have e : P.drop m = x0 :: x1 :: x2 :: x3 :: x4 :: x5 :: x6 :: x7 :: P.drop (m + 8) := by
    rw [List.drop_eq_getElem_cons (by omega), List.drop_eq_getElem_cons (by omega), List.drop_eq_getElem_cons (by omega), List.drop_eq_getElem_cons (by omega), List.drop_eq_getElem_cons (by omega), List.drop_eq_getElem_cons (by omega), List.drop_eq_getElem_cons (by omega), List.drop_eq_getElem_cons (by omega)]
    rw [List.getD_eq_getElem?_getD, List.getElem?_eq_getElem (by omega)] at h0 h1 h2 h3 h4 h5 h6 h7
    simp only [Option.getD_some] at h0 h1 h2 h3 h4 h5 h6 h7
    rw [h0, h1, h2, h3, h4, h5, h6, h7]
  rw [e, eight]
theorem eight_short (P : List Int) (h : P.length < 8) : eight P = [] := by
  unfold eight
  split
  · simp at h; omega
  · rfl
theorem eight_dec (zs : List Int) (h4 : zs.length % 4 ≠ 1) : eight (allB6 zs) = dec zs := by
  induction zs using dec.induct with
  | case1 => rfl
  | case2 a => simp at h4
  | case3 a b =>
    have := num0_lo a; have := num0_hi a; have := num0_lo b; have := num0_hi b
    simp only [allB6, List.flatMap_cons, List.flatMap_nil, b6, List.append_nil, List.cons_append, List.nil_append, eight, dec]
    congr 1; omega
  | case4 a b c =>
    have := num0_lo a; have := num0_hi a; have := num0_lo b; have := num0_hi b; have := num0_lo c; have := num0_hi c
    simp only [allB6, List.flatMap_cons, List.flatMap_nil, b6, List.append_nil, List.cons_append, List.nil_append, eight, dec]
    congr 1
    · omega
    · congr 1; omega
  | case5 a b c d r ih =>
    have := num0_lo a; have := num0_hi a; have := num0_lo b; have := num0_hi b; have := num0_lo c; have := num0_hi c; have := num0_lo d; have := num0_hi d
    have ih' := ih (by simp only [List.length_cons] at h4; omega)
    simp only [allB6, List.flatMap_cons, b6, dec] at ih' ⊢
    simp only [List.cons_append, List.nil_append, eight]
    rw [ih']
    congr 1
    · omega
    · congr 1
      · omega
      · congr 1; omega
theorem tail_spar (zs : List Int) (h4 : zs.length % 4 ≠ 1) : (∀ x ∈ (allB6 zs).drop (8 * (dec zs).length), x = 0) ↔ spar zs = 0 := by
  induction zs using dec.induct with
  | case1 => simp [allB6, spar]
  | case2 a => simp at h4
  | case3 a b =>
    have := num0_lo b; have := num0_hi b
    simp only [allB6, List.flatMap_cons, List.flatMap_nil, b6, List.append_nil, List.cons_append, List.nil_append, dec, List.length_cons, List.length_nil, Nat.zero_add, Nat.mul_one, List.drop_succ_cons, List.drop_zero]
    simp [spar]
    omega
  | case4 a b c =>
    have := num0_lo c; have := num0_hi c
    simp only [allB6, List.flatMap_cons, List.flatMap_nil, b6, List.append_nil, List.cons_append, List.nil_append, dec, List.length_cons, List.length_nil, Nat.zero_add, Nat.reduceAdd, Nat.reduceMul, List.drop_succ_cons, List.drop_zero]
    simp [spar]
    omega
  | case5 a b c d r ih =>
    have ih' := ih (by simp only [List.length_cons] at h4; omega)
    rw [spar_cons4, ← ih']
    have e : (allB6 (a :: b :: c :: d :: r)).drop (8 * (dec (a :: b :: c :: d :: r)).length) = (allB6 r).drop (8 * (dec r).length) := by
      simp only [allB6, List.flatMap_cons, b6, dec, List.length_cons, List.cons_append, List.nil_append]
      rw [show 8 * ((dec r).length + 1 + 1 + 1) = 8 * (dec r).length + 24 by omega]
      simp only [List.drop_succ_cons]
    rw [e]
end Go.Proofs.Ytfblafpcdlmbjaa

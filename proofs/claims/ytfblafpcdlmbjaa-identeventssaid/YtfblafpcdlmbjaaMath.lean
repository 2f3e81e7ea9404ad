/-
  The letters of bytes and the bytes of letters, as plain functions on lists of integers: what base.Encode and base.Decode tell.
-/
import Derived.Laws.BitsLemmas
namespace Go.Proofs.Ytfblafpcdlmbjaa

/-- The number of a letter, or -1. -/
def num (c : Int) : Int :=
  if 65 ≤ c ∧ c ≤ 90 then c - 65 else if 97 ≤ c ∧ c ≤ 122 then c - 71 else if 48 ≤ c ∧ c ≤ 57 then c + 4
  else if c = 43 then 62 else if c = 47 then 63 else -1

/-- The same, nought where it is none. -/
def num0 (c : Int) : Int := if 0 ≤ num c then num c else 0

/-- Is it a letter. -/
def isLet (c : Int) : Bool := decide (0 ≤ num c)

/-- The letter of a number. -/
def ltr (n : Int) : Int :=
  if n < 26 then n + 65 else if n < 52 then n + 71 else if n < 62 then n - 4 else if n = 62 then 43 else 47

theorem num_hi (c : Int) : num c ≤ 63 := by unfold num; repeat' split
                                            all_goals omega
theorem num_lo (c : Int) : -1 ≤ num c := by unfold num; repeat' split
                                            all_goals omega
theorem num0_lo (c : Int) : 0 ≤ num0 c := by unfold num0; split <;> omega
theorem num0_hi (c : Int) : num0 c ≤ 63 := by have := num_hi c; unfold num0; split <;> omega
theorem ltr_num (c : Int) (h : 0 ≤ num c) : ltr (num c) = c := by
  unfold num at h ⊢; unfold ltr
  repeat' split
  all_goals omega
theorem num_ltr (n : Int) (h0 : 0 ≤ n) (h1 : n ≤ 63) : num (ltr n) = n := by
  unfold ltr num
  repeat' split
  all_goals omega
theorem ltr_lo (n : Int) (h0 : 0 ≤ n) : 0 ≤ ltr n := by unfold ltr; repeat' split
                                                        all_goals omega
theorem ltr_hi (n : Int) (h1 : n ≤ 63) : ltr n ≤ 122 := by unfold ltr; repeat' split
                                                           all_goals omega

/-- How many letters a group of so many bytes has. -/
def lets (n : Int) : Int := if n = 0 then 0 else n + 1
/-- How many bytes a group of so many letters has. -/
def byts (n : Int) : Int := if n ≤ 1 then 0 else n - 1
/-- How many letters so many bytes have. -/
def siz (n : Int) : Int := if n < 0 then 0 else n / 3 * 4 + lets (n % 3)
theorem lets_bd (n : Int) (h0 : 0 ≤ n) (h1 : n ≤ 3) : 0 ≤ lets n ∧ lets n ≤ 4 := by unfold lets; split <;> omega
theorem byts_bd (n : Int) (h1 : n ≤ 4) : 0 ≤ byts n ∧ byts n ≤ 3 := by unfold byts; split <;> omega
/-- The bytes of a text, as numbers. -/
def ints (s : ByteArray) : List Int := s.data.toList.map fun c => (c.toNat : Int)
theorem ints_length (s : ByteArray) : (ints s).length = s.size := by simp [ints]
theorem ints_getD (s : ByteArray) (k : Nat) (h : k < s.size) : (ints s).getD k 0 = (s[k].toNat : Int) := by
  have h' : k < s.data.toList.length := by simpa using h
  simp only [ints, List.getD_eq_getElem?_getD, List.getElem?_map, List.getElem?_eq_getElem h', Option.map_some, Option.getD_some]
  rfl
theorem ints_bd (s : ByteArray) : ∀ x ∈ ints s, 0 ≤ x ∧ x ≤ 255 := by
  intro x hx
  simp only [ints, List.mem_map] at hx
  obtain ⟨c, _, rfl⟩ := hx
  have := c.toNat_lt
  omega

theorem ints_extract (s : ByteArray) (k : Nat) : ints (s.extract k s.size) = (ints s).drop k := by
  simp only [ints, ByteArray.data_extract, Array.toList_extract, List.extract_eq_take_drop, List.map_take, List.map_drop]
  rw [List.take_of_length_le]
  have : (List.drop k (List.map (fun c : UInt8 => (c.toNat : Int)) s.data.toList)).length = s.size - k := by simp
  omega

/-- The bits of the last letter that no byte has: of so many letters. -/
def spar (zs : List Int) : Int :=
  if zs.length % 4 = 2 then num0 (zs.getD (zs.length - 1) 0) % 16 else if zs.length % 4 = 3 then num0 (zs.getD (zs.length - 1) 0) % 4 else 0
/-- How many letters stand ahead of the first byte that is none. -/
def good (zs : List Int) : Nat := (zs.takeWhile isLet).length
/-- The first error of a text, and its place. -/
def flt (zs : List Int) : Int × Int :=
  if good zs < zs.length then (20, good zs) else if zs.length % 4 = 1 then (22, zs.length) else if spar zs ≠ 0 then (21, zs.length - 1) else (0, 0)
theorem flt_ok (zs : List Int) (h : (flt zs).1 = 0) : good zs = zs.length ∧ zs.length % 4 ≠ 1 ∧ spar zs = 0 := by
  have hl : good zs ≤ zs.length := (List.takeWhile_sublist _).length_le
  unfold flt at h
  split at h
  · simp at h
  split at h
  · simp at h
  split at h
  · simp at h
  · exact ⟨by omega, by assumption, by simp_all⟩
theorem good_le (zs : List Int) : good zs ≤ zs.length := (List.takeWhile_sublist _).length_le
theorem good_at (zs : List Int) (k : Nat) (hk : k < zs.length) (h : ∀ j, j < k → isLet (zs.getD j 0) = true) (hb : isLet (zs.getD k 0) = false) : good zs = k := by
  induction zs generalizing k with
  | nil => simp at hk
  | cons z r ih =>
    cases k with
    | zero => simp at hb; simp [good, hb]
    | succ k =>
      have h0 := h 0 (by omega)
      simp at h0
      have := ih k (by simpa using hk) (fun j hj => by have := h (j + 1) (by omega); simpa using this) (by simpa using hb)
      simp only [good, List.takeWhile_cons, h0, if_true, List.length_cons] at this ⊢
      omega
theorem good_all (zs : List Int) (h : ∀ j, j < zs.length → isLet (zs.getD j 0) = true) : good zs = zs.length := by
  induction zs with
  | nil => rfl
  | cons z r ih =>
    have h0 := h 0 (by simp)
    simp at h0
    have := ih (fun j hj => by have := h (j + 1) (by simpa using hj); simpa using this)
    simp only [good, List.takeWhile_cons, h0, if_true, List.length_cons] at this ⊢
    omega
/-- The letters of bytes. -/
def enc : List Int → List Int
  | [] => []
  | [a] => [ltr (a / 4), ltr (a % 4 * 16)]
  | [a, b] => [ltr (a / 4), ltr (a % 4 * 16 + b / 16), ltr (b % 16 * 4)]
  | a :: b :: c :: r => ltr (a / 4) :: ltr (a % 4 * 16 + b / 16) :: ltr (b % 16 * 4 + c / 64) :: ltr (c % 64) :: enc r

theorem enc_step (rs : List Int) (m : Nat) (a b c : Int) (h0 : 0 < rs.length) (hm : m = min rs.length 3) (ha : rs.getD 0 0 = a) (hb : rs.getD 1 0 = b) (hc : rs.getD 2 0 = c) :
    enc rs = [ltr (a / 4), ltr (a % 4 * 16 + b / 16), ltr (b % 16 * 4 + c / 64), ltr (c % 64)].take (m + 1) ++ enc (rs.drop m) := by
  match rs, h0 with
  | [x], _ => simp at ha hb hc hm; subst ha hb hc hm; simp [enc]
  | [x, y], _ => simp at ha hb hc hm; subst ha hb hc hm; simp [enc]
  | x :: y :: z :: r, _ =>
    simp at ha hb hc
    have hm3 : m = 3 := by simp at hm; omega
    subst ha hb hc hm3
    simp [enc]
theorem enc_length (zs : List Int) : ((enc zs).length : Int) = siz zs.length := by
  induction zs using enc.induct with
  | case1 => rfl
  | case2 a => simp [enc, siz, lets]
  | case3 a b => simp [enc, siz, lets]
  | case4 a b c r ih =>
    simp only [enc, List.length_cons, siz, lets] at ih ⊢
    repeat' split at ih
    all_goals repeat' split
    all_goals omega
theorem siz_le (n : Nat) : siz n ≤ 2 * n := by
  unfold siz lets
  repeat' split
  all_goals omega
theorem enc_le (zs : List Int) : (enc zs).length ≤ 2 * zs.length := by
  have h1 := enc_length zs
  have h2 := siz_le zs.length
  omega
theorem enc_bd (zs : List Int) (h : ∀ x ∈ zs, 0 ≤ x ∧ x ≤ 255) : ∀ x ∈ enc zs, 0 ≤ x ∧ x ≤ 255 := by
  induction zs using enc.induct with
  | case1 => intro x hx; simp [enc] at hx
  | case2 a =>
    have ha := h a (by simp)
    intro x hx
    simp only [enc, List.mem_cons, List.not_mem_nil, or_false] at hx
    rcases hx with rfl | rfl
    · exact ⟨ltr_lo _ (by omega), by have := ltr_hi (a / 4) (by omega); omega⟩
    · exact ⟨ltr_lo _ (by omega), by have := ltr_hi (a % 4 * 16) (by omega); omega⟩
  | case3 a b =>
    have ha := h a (by simp)
    have hb := h b (by simp)
    intro x hx
    simp only [enc, List.mem_cons, List.not_mem_nil, or_false] at hx
    rcases hx with rfl | rfl | rfl
    · exact ⟨ltr_lo _ (by omega), by have := ltr_hi (a / 4) (by omega); omega⟩
    · exact ⟨ltr_lo _ (by omega), by have := ltr_hi (a % 4 * 16 + b / 16) (by omega); omega⟩
    · exact ⟨ltr_lo _ (by omega), by have := ltr_hi (b % 16 * 4) (by omega); omega⟩
  | case4 a b c r ih =>
    have ha := h a (by simp)
    have hb := h b (by simp)
    have hc := h c (by simp)
    intro x hx
    simp only [enc, List.mem_cons] at hx
    rcases hx with rfl | rfl | rfl | rfl | hx
    · exact ⟨ltr_lo _ (by omega), by have := ltr_hi (a / 4) (by omega); omega⟩
    · exact ⟨ltr_lo _ (by omega), by have := ltr_hi (a % 4 * 16 + b / 16) (by omega); omega⟩
    · exact ⟨ltr_lo _ (by omega), by have := ltr_hi (b % 16 * 4 + c / 64) (by omega); omega⟩
    · exact ⟨ltr_lo _ (by omega), by have := ltr_hi (c % 64) (by omega); omega⟩
    · exact ih (fun y hy => h y (by simp [hy])) x hx
/-- The bytes of letters. -/
def dec : List Int → List Int
  | [] => []
  | [_] => []
  | [a, b] => [num0 a * 4 + num0 b / 16]
  | [a, b, c] => [num0 a * 4 + num0 b / 16, num0 b % 16 * 16 + num0 c / 4]
  | a :: b :: c :: d :: r => (num0 a * 4 + num0 b / 16) :: (num0 b % 16 * 16 + num0 c / 4) :: (num0 c % 4 * 64 + num0 d) :: dec r

theorem dec_step (rs : List Int) (m : Nat) (a b c d : Int) (hm1 : 1 ≤ m) (hm : m + 1 = min rs.length 4) (ha : rs.getD 0 0 = a) (hb : rs.getD 1 0 = b) (hc : rs.getD 2 0 = c) (hd : rs.getD 3 0 = d) :
    dec rs = [num0 a * 4 + num0 b / 16, num0 b % 16 * 16 + num0 c / 4, num0 c % 4 * 64 + num0 d].take m ++ dec (rs.drop (m + 1)) := by
  match rs with
  | [] => simp at hm
  | [_] => simp at hm; omega
  | [x, y] => simp at ha hb hc hd hm; subst ha hb hc hd hm; simp [dec]
  | [x, y, z] => simp at ha hb hc hd hm; subst ha hb hc hd hm; simp [dec]
  | x :: y :: z :: u :: r =>
    simp at ha hb hc hd
    have hm3 : m = 3 := by simp at hm; omega
    subst ha hb hc hd hm3
    simp [dec]
theorem dec_length (zs : List Int) : ((dec zs).length : Int) = (zs.length : Int) / 4 * 3 + byts ((zs.length : Int) % 4) := by
  induction zs using dec.induct with
  | case1 => rfl
  | case2 a => simp [dec, byts]
  | case3 a b => simp [dec, byts]
  | case4 a b c => simp [dec, byts]
  | case5 a b c d r ih =>
    simp only [dec, List.length_cons, byts] at ih ⊢
    repeat' split at ih
    all_goals repeat' split
    all_goals omega
theorem dec_pos (zs : List Int) (h : zs.length % 4 ≠ 1) : 0 < (dec zs).length ↔ 0 < zs.length := by
  have h1 := dec_length zs
  unfold byts at h1
  split at h1 <;> omega
theorem dec_bd (zs : List Int) : ∀ x ∈ dec zs, 0 ≤ x ∧ x ≤ 255 := by
  induction zs using dec.induct with
  | case1 => intro x hx; simp [dec] at hx
  | case2 a => intro x hx; simp [dec] at hx
  | case3 a b =>
    have := num0_lo a; have := num0_hi a; have := num0_lo b; have := num0_hi b
    intro x hx
    simp only [dec, List.mem_cons, List.not_mem_nil, or_false] at hx
    omega
  | case4 a b c =>
    have := num0_lo a; have := num0_hi a; have := num0_lo b; have := num0_hi b; have := num0_lo c; have := num0_hi c
    intro x hx
    simp only [dec, List.mem_cons, List.not_mem_nil, or_false] at hx
    omega
  | case5 a b c d r ih =>
    have := num0_lo a; have := num0_hi a; have := num0_lo b; have := num0_hi b; have := num0_lo c; have := num0_hi c; have := num0_lo d; have := num0_hi d
    intro x hx
    simp only [dec, List.mem_cons] at hx
    rcases hx with hx | hx | hx | hx
    · omega
    · omega
    · omega
    · exact ih x hx
end Go.Proofs.Ytfblafpcdlmbjaa

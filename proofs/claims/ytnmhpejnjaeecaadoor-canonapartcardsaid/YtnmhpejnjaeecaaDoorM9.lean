/-
  What is decoded is of letters: the texts.
  What is decoded is good, and in order.
  What is read of a text is read of it within another, where a blank stands behind it.
  What is read of a text is read of it within another: values.
  Blanks around a text, and a list of two texts: what is decoded.
  An error is never 0; and its place is within the bytes.
-/
import Derived.Test.YtnmhpejnjaeecaaDoorM7
namespace Go.Proofs.YtnmhpejnjaeecaaDoor
open Go.RowKit

theorem Fair.next {t : List Int} {p wd : Nat} {c : Int} (h : Fair t p) (hp : p < t.length) (hr : runeAt t p = (c, wd)) : wd ≠ 0 ∧ Fair t (p + wd) := by
  have key : ∀ m, (if wd = 0 then some p else strayL t m (p + wd)) = none := fun m => by
    have := h (m + 1)
    unfold strayL at this
    rw [if_pos hp, hr] at this
    exact this
  have h0 : wd ≠ 0 := fun e => by
    have := key 0
    rw [if_pos e] at this
    cases this
  refine ⟨h0, fun m => ?_⟩
  have := key m
  rw [if_neg h0] at this
  exact this
theorem fair_fuel {t : List Int} : ∀ (m p : Nat), t.length ≤ p + m → strayL t m p = none → Fair t p
  | 0, p, h, _ => Fair.end (by omega)
  | m + 1, p, h, hs => by
    by_cases hp : p < t.length
    · obtain ⟨⟨c, wd⟩, hr⟩ : ∃ r, runeAt t p = r := ⟨_, rfl⟩
      unfold strayL at hs
      rw [if_pos hp, hr] at hs
      simp only at hs
      by_cases h0 : wd = 0
      · rw [if_pos h0] at hs; cases hs
      · rw [if_neg h0] at hs
        exact Fair.step hr h0 (fair_fuel m (p + wd) (by omega) hs)
    · exact Fair.end (by omega)
theorem fair_of_stray {t : List Int} (h : stray t = none) : Fair t 0 := fair_fuel t.length 0 (by omega) h
theorem Fair.one {t : List Int} {p : Nat} (h : Fair t p) (hb : byteAt t p < 128) : Fair t (p + 1) := by
  by_cases hp : p < t.length
  · exact (h.next hp (rune_low hb)).2
  · exact Fair.end (by omega)
theorem Fair.run {t : List Int} : ∀ (n p : Nat), Fair t p → (∀ i, i < n → byteAt t (p + i) < 128) → Fair t (p + n)
  | 0, _, h, _ => h
  | n + 1, p, h, hb => by
    have h1 := Fair.run n (p + 1) (h.one (hb 0 (by omega))) fun i hi => by
      have := hb (i + 1) (by omega)
      rwa [show p + (i + 1) = p + 1 + i by omega] at this
    rwa [show p + 1 + n = p + (n + 1) by omega] at h1
theorem take_all {t : List Int} {p : Nat} {f : Int → Bool} : ∀ i, i < ((t.drop p).takeWhile f).length → f (byteAt t (p + i)) = true := fun i hi => by
  have hm : ((t.drop p).takeWhile f)[i] ∈ (t.drop p).takeWhile f := List.getElem_mem hi
  have h1 := List.all_eq_true.1 (List.all_takeWhile (l := t.drop p) (p := f)) _ hm
  have h2 : ((t.drop p).takeWhile f)[i]? = (t.drop p)[i]? := by
    have hpre : (t.drop p).takeWhile f <+: t.drop p := List.takeWhile_prefix f
    obtain ⟨r, hr⟩ := hpre
    conv => rhs; rw [← hr]
    rw [List.getElem?_append_left hi]
  have h3 : byteAt t (p + i) = ((t.drop p).takeWhile f)[i] := by
    unfold byteAt
    rw [List.getD_eq_getElem?_getD, ← List.getElem?_drop, ← h2, List.getElem?_eq_getElem hi]
    rfl
  rw [h3]
  exact h1
theorem Fair.blanks {t : List Int} {p : Nat} (h : Fair t p) : Fair t (blanks t p) := by
  unfold Go.Proofs.YtnmhpejnjaeecaaDoor.blanks
  refine Fair.run _ p h fun i hi => ?_
  have := take_all (f := isBlank) i hi
  unfold isBlank at this
  simp only [Bool.or_eq_true, decide_eq_true_eq] at this
  omega
theorem Fair.digs {t : List Int} {p : Nat} (h : Fair t p) : Fair t (p + ((t.drop p).takeWhile isDig).length) := by
  refine Fair.run _ p h fun i hi => ?_
  have := take_all (f := isDig) i hi
  unfold isDig at this
  simp only [Bool.and_eq_true, decide_eq_true_eq] at this
  omega
theorem must_fair {t : List Int} {c : Int} {p q : Nat} {u : Unit} (h : Fair t p) (hc : c < 128) (hm : must t c p = .ok u q) : Fair t q := by
  unfold must at hm
  split at hm
  · rename_i hb
    cases hm
    exact h.one (by omega)
  · cases hm
theorem word_fair {t : List Int} : ∀ (l : List Int) (p q : Nat) (u : Unit), Fair t p → (∀ c ∈ l, c < 128) → word t l p = .ok u q → Fair t q
  | [], p, q, u, h, _, hw => by
    unfold word at hw
    cases hw
    exact h
  | c :: l, p, q, u, h, hc, hw => by
    unfold word at hw
    cases hm : must t c p with
    | bad e a => rw [hm] at hw; cases hw
    | ok v r =>
      rw [hm] at hw
      exact word_fair l r q u (must_fair h (hc c (by simp)) hm) (fun x hx => hc x (by simp [hx])) hw
theorem hex_low {c d : Int} (h : hexDig c = some d) : c < 128 := by
  unfold hexDig isDig at h
  split at h
  · rename_i h1; simp only [Bool.and_eq_true, decide_eq_true_eq] at h1; omega
  · split at h
    · omega
    · split at h
      · omega
      · cases h
theorem hexL_low (t : List Int) (i : Nat) : ∀ m k n x, k ≤ x → x < (hexL t i m k n).2 → byteAt t (i + x) < 128
  | 0, k, n, x, h0, h1 => by unfold hexL at h1; simp only at h1; omega
  | m + 1, k, n, x, h0, h1 => by
    unfold hexL at h1
    split at h1
    · simp only at h1; omega
    · rename_i d hd
      by_cases hx : x = k
      · subst hx; exact hex_low hd
      · exact hexL_low t i m (k + 1) _ x (by omega) h1
theorem hex_fair {t : List Int} {p : Nat} (h : Fair t p) (h4 : (hexAt t p).2 = 4) : Fair t (p + 4) := by
  refine Fair.run 4 p h fun i hi => hexL_low t p 4 0 0 i (by omega) ?_
  unfold hexAt at h4
  omega
theorem escape_fair {t : List Int} {p q : Nat} {l : Int} (h : Fair t p) (hp : byteAt t p = 92) (he : escape t p = .ok l q) : Fair t q := by
  have h1 : Fair t (p + 1) := h.one (by omega)
  have two : byteAt t (p + 1) < 128 → Fair t (p + 2) := fun hb => h1.one hb
  unfold escape at he
  simp only at he
  split at he
  · cases he; exact two (by omega)
  split at he
  · cases he; exact two (by omega)
  split at he
  · cases he; exact two (by omega)
  split at he
  · cases he; exact two (by omega)
  split at he
  · cases he; exact two (by omega)
  split at he
  · cases he; exact two (by omega)
  split at he
  · have h2 := two (by omega)
    unfold coded at he
    have hle := (hexL_le t (p + 2) 4 0 0).2.1
    split at he
    · cases he
    · rename_i hn
      have h6 : Fair t (p + 6) := hex_fair h2 (by unfold hexAt at hn ⊢; omega)
      split at he
      · cases he; exact h6
      · split at he
        · cases he
        · split at he
          · cases he
          · rename_i v hv
            cases he
            unfold lowAt at hv
            split at hv
            · rename_i hc
              split at hv
              · rename_i hk
                exact hex_fair (p := p + 8) ((h6.one (by omega)).one (by omega)) hk.1
              · cases hv
            · cases hv
  · cases he
/-- The bytes of a letter of a text. -/
theorem pure_rune {t : List Int} {p wd : Nat} {c : Int} (hr : runeAt t p = (c, wd)) (h0 : wd ≠ 0) (hl : p + wd ≤ t.length) : Pure ((t.drop p).take wd) := fun t' r q hd hf => by
  have hlen : ((t.drop p).take wd).length = wd := by simp; omega
  rw [hlen] at hf
  refine Fair.step (rune_same hr h0 fun i hi => ?_) h0 hf
  rw [byte_at_drop hd (by omega)]
  unfold byteAt
  rw [List.getD_eq_getElem?_getD, List.getElem?_take, if_pos hi, List.getElem?_drop, ← List.getD_eq_getElem?_getD]
theorem pure_enc_rune (r : Int) : Pure (Lib.encodeRuneZ r) := fun t r' q hd hf => by
  have g : ∀ i, i < (Lib.encodeRuneZ r).length → byteAt t (q + i) = (Lib.encodeRuneZ r).getD i 0 := fun i hi => byte_at_drop hd hi
  by_cases h1 : 0 ≤ r ∧ r ≤ 127
  · rw [Lib.encodeRuneZ_one h1.1 h1.2] at g hf
    have g0 := g 0 (by simp)
    simp at g0
    exact Fair.step (c := r) (wd := 1) (by rw [rune_low (by omega), g0]) (by decide) hf
  · by_cases h2 : 128 ≤ r ∧ r ≤ 2047
    · rw [Lib.encodeRuneZ_two h2.1 h2.2] at g hf
      have g0 := g 0 (by simp)
      have g1 := g 1 (by simp)
      simp at g0 g1
      refine Fair.step (c := r) (wd := 2) ?_ (by decide) hf
      unfold runeAt contAt
      rw [g0, g1, if_neg (by omega), if_pos (by simp only [Bool.and_eq_true, decide_eq_true_eq]; omega), if_pos (by omega)]
      simp only [Prod.mk.injEq, and_true]
      omega
    · by_cases h3 : (2048 ≤ r ∧ r < 55296) ∨ (57343 < r ∧ r ≤ 65535)
      · rw [Lib.encodeRuneZ_three h3] at g hf
        have g0 := g 0 (by simp)
        have g1 := g 1 (by simp)
        have g2 := g 2 (by simp)
        simp at g0 g1 g2
        refine Fair.step (c := r) (wd := 3) ?_ (by decide) hf
        unfold runeAt contAt
        have e : (224 + r / 4096) % 16 * 4096 + (128 + r / 64 % 64) % 64 * 64 + (128 + r % 64) % 64 = r := by omega
        rw [g0, g1, g2, e, if_neg (by omega), if_neg (by simp only [Bool.and_eq_true, decide_eq_true_eq]; omega), if_pos (by simp only [Bool.and_eq_true, decide_eq_true_eq]; omega), if_pos (by
          unfold letterOk
          simp only [Bool.and_eq_true, Bool.or_eq_true, decide_eq_true_eq]; omega)]
      · by_cases h4 : 65536 ≤ r ∧ r ≤ 1114111
        · rw [Lib.encodeRuneZ_four h4.1 h4.2] at g hf
          have g0 := g 0 (by simp)
          have g1 := g 1 (by simp)
          have g2 := g 2 (by simp)
          have g3 := g 3 (by simp)
          simp at g0 g1 g2 g3
          refine Fair.step (c := r) (wd := 4) ?_ (by decide) hf
          unfold runeAt contAt
          have e : (240 + r / 262144) % 8 * 262144 + (128 + r / 4096 % 64) % 64 * 4096 + (128 + r / 64 % 64) % 64 * 64 + (128 + r % 64) % 64 = r := by omega
          rw [g0, g1, g2, g3, e, if_neg (by omega), if_neg (by simp only [Bool.and_eq_true, decide_eq_true_eq]; omega), if_neg (by simp only [Bool.and_eq_true, decide_eq_true_eq]; omega), if_pos (by simp only [Bool.and_eq_true, decide_eq_true_eq]; omega), if_pos (by
            unfold letterOk
            simp only [Bool.and_eq_true, Bool.or_eq_true, decide_eq_true_eq]; omega)]
        · rw [Lib.encodeRuneZ_bad (by omega)] at g hf
          have g0 := g 0 (by simp)
          have g1 := g 1 (by simp)
          have g2 := g 2 (by simp)
          simp at g0 g1 g2
          exact Fair.step (rune_fffd t q g0 g1 g2) (by decide) hf
theorem quo_skip {t : List Int} : ∀ (wd m p : Nat) (out : List Int), (∀ i, i < wd → 128 ≤ byteAt t (p + i)) → quoL t (m + wd) p out = quoL t m (p + wd) (out ++ (t.drop p).take wd)
  | 0, m, p, out, _ => by simp
  | wd + 1, m, p, out, h => by
    have h0 := h 0 (by omega)
    rw [Nat.add_zero] at h0
    have hp : p < t.length := byteAt_lt (by omega)
    rw [show m + (wd + 1) = (m + wd) + 1 by omega, quoL_succ, if_neg (by omega), if_neg (by omega), if_neg (by omega), quo_skip wd m (p + 1) _ fun i hi => by
      have := h (i + 1) (by omega)
      rwa [show p + (i + 1) = p + 1 + i by omega] at this]
    have e : t.drop p = byteAt t p :: t.drop (p + 1) := by
      rw [List.drop_eq_getElem_cons hp]
      unfold byteAt
      rw [List.getD_eq_getElem?_getD, List.getElem?_eq_getElem hp]; rfl
    rw [e, List.take_succ_cons, List.append_assoc, List.singleton_append, show p + 1 + wd = p + (wd + 1) by omega]
theorem quo_short {t : List Int} : ∀ (m p : Nat) (out : List Int), (∀ i, i < m → 128 ≤ byteAt t (p + i)) → quoL t m p out = .bad 99 0
  | 0, _, _, _ => rfl
  | m + 1, p, out, h => by
    have h0 := h 0 (by omega)
    rw [Nat.add_zero] at h0
    rw [quoL_succ, if_neg (by omega), if_neg (by omega), if_neg (by omega)]
    exact quo_short m (p + 1) _ fun i hi => by
      have := h (i + 1) (by omega)
      rwa [show p + (i + 1) = p + 1 + i by omega] at this
theorem quo_pure {t : List Int} (N : Nat) : ∀ (m p : Nat) (out s : List Int) (q : Nat), m ≤ N → Fair t p → Pure out → quoL t m p out = .ok s q → Pure s ∧ Fair t q ∧ s.length ≤ out.length + 4 * m := by
  induction N with
  | zero =>
    intro m p out s q hm _ _ h
    obtain rfl : m = 0 := by omega
    unfold quoL at h
    cases h
  | succ N ih =>
    intro m p out s q hm hf ho h
    cases m with
    | zero => unfold quoL at h; cases h
    | succ m =>
      by_cases hb : byteAt t p < 128
      · rw [quoL_succ] at h
        split at h
        · cases h
          exact ⟨ho, hf.one hb, by omega⟩
        · split at h
          · rename_i _ h92
            cases he : escape t p with
            | bad e a => rw [he] at h; cases h
            | ok l r =>
              rw [he] at h
              obtain ⟨h1, h2, h3⟩ := ih m r _ s q (by omega) (escape_fair hf h92 he) (ho.app (pure_enc_rune l)) h
              refine ⟨h1, h2, ?_⟩
              have := (Lib.encodeRuneZ_length l).2
              rw [List.length_append] at h3
              omega
          · split at h
            · cases h
            · have hge : 0 ≤ byteAt t p := by omega
              obtain ⟨h1, h2, h3⟩ := ih m (p + 1) _ s q (by omega) (hf.one hb) (ho.app (Pure.one ⟨hge, hb⟩)) h
              refine ⟨h1, h2, ?_⟩
              rw [List.length_append] at h3
              simp at h3
              omega
      · have hp : p < t.length := byteAt_lt (by omega)
        obtain ⟨⟨c, wd⟩, hr⟩ : ∃ r, runeAt t p = r := ⟨_, rfl⟩
        obtain ⟨h0, hf'⟩ := hf.next hp hr
        have hhi := rune_hi hr hb
        by_cases hw : wd ≤ m + 1
        · have hl : p + wd ≤ t.length := by
            have := hhi (wd - 1) (by omega)
            have := byteAt_lt (t := t) (p := p + (wd - 1)) (by omega)
            omega
          rw [show m + 1 = (m + 1 - wd) + wd by omega, quo_skip wd _ p out hhi] at h
          obtain ⟨h1, h2, h3⟩ := ih (m + 1 - wd) (p + wd) _ s q (by omega) hf' (ho.app (pure_rune hr h0 hl)) h
          refine ⟨h1, h2, ?_⟩
          rw [List.length_append, List.length_take, List.length_drop] at h3
          omega
        · rw [quo_short (m + 1) p out fun i hi => hhi i (by omega)] at h
          cases h
theorem quoted_pure {t s : List Int} {p q : Nat} (hf : Fair t p) (hb : byteAt t p = 34) (h : quoted t p = .ok s q) : Pure s ∧ Fair t q ∧ s.length ≤ 4 * (t.length + 1) := by
  unfold quoted at h
  have := quo_pure (t := t) (t.length + 1) (t.length + 1) (p + 1) [] s q (Nat.le_refl _) (hf.one (by omega)) Pure.nil h
  simpa using this
theorem pure_stray {l : List Int} (h : Pure l) : stray l = none := by
  have := h l [] 0 (by simp) (Fair.end (by omega))
  exact this l.length
theorem quoL_bytes {t : List Int} (hb : Bytes t) : ∀ (m p : Nat) (out s : List Int) (q : Nat), Bytes out → quoL t m p out = .ok s q → Bytes s
  | 0, _, _, _, _, _, h => by unfold quoL at h; cases h
  | m + 1, p, out, s, q, ho, h => by
    rw [quoL_succ] at h
    split at h
    · cases h; exact ho
    · split at h
      · cases he : escape t p with
        | bad e a => rw [he] at h; cases h
        | ok l r =>
          rw [he] at h
          exact quoL_bytes hb m r _ s q (ho.app fun c hc => by have := Lib.encodeRuneZ_byte l c hc; omega) h
      · split at h
        · cases h
        · refine quoL_bytes hb m (p + 1) _ s q (ho.app (Bytes.cons ?_ Bytes.nil)) h
          unfold byteAt
          rw [List.getD_eq_getElem?_getD]
          cases hx : t[p]? with
          | none => exact ⟨by decide, by decide⟩
          | some x => exact hb x (List.mem_of_getElem? hx)
theorem quoted_letters {t s : List Int} {p q : Nat} (ht : Bytes t) (hf : Fair t p) (hb : byteAt t p = 34) (h : quoted t p = .ok s q) : letters (strOfNums s) = true ∧ Fair t q ∧ (strOfNums s).size ≤ 4 * (t.length + 1) := by
  obtain ⟨h1, h2, h3⟩ := quoted_pure hf hb h
  refine ⟨?_, h2, by rw [str_size]; exact h3⟩
  unfold letters
  rw [ints_str s (quoL_bytes ht _ _ _ _ _ Bytes.nil h), pure_stray h1]
  rfl
end Go.Proofs.YtnmhpejnjaeecaaDoor
namespace Go.Proofs.YtnmhpejnjaeecaaDoor
open Go.RowKit

theorem map_good {d : Nat} {ks : List ByteArray} {l : List J} (hlen : ks.length = l.length) (hlet : ks.all letters = true) (hp : ks.Pairwise (· ≠ ·)) (hl : l.all (goodJ d) = true) : goodJ (d + 1) (mapOf ks l) = true := by
  have pk := sorted_keys hlen
  have pv := sorted_vals hlen
  unfold mapOf
  rw [goodJ]
  have e1 : ((sortK (ks.zip l)).map (·.1)).all letters = true := by
    rw [List.all_eq_true] at hlet ⊢
    exact fun x hx => hlet x (pk.mem_iff.1 hx)
  have e2 : noKeyTwice ((sortK (ks.zip l)).map (·.1)) = true := pair_noTwice (pk.symm.pairwise hp fun {_ _} h => h.symm)
  have e3 : ((sortK (ks.zip l)).map (·.2)).all (goodJ d) = true := by
    rw [List.all_eq_true] at hl ⊢
    exact fun x hx => hl x (pv.mem_iff.1 hx)
  rw [e1, e2, e3]
  simp [bare, nix, ByteArray.size]
theorem map_inOrd {ks : List ByteArray} {l : List J} (hlen : ks.length = l.length) (hp : ks.Pairwise (· ≠ ·)) (hl : ∀ x ∈ l, inOrd x = true) : inOrd (mapOf ks l) = true := by
  have pv := sorted_vals hlen
  unfold mapOf
  rw [inOrd, Bool.and_eq_true, inOrdL_all]
  refine ⟨sortK_rises' _ ?_, fun x hx => hl x (pv.mem_iff.1 hx)⟩
  have : ((ks.zip l).map (·.1)).Pairwise (· ≠ ·) := by rw [List.map_fst_zip (by omega)]; exact hp
  exact List.pairwise_map.1 this
theorem map_sz {d : Nat} {ks : List ByteArray} {l : List J} (hlen : ks.length = l.length) (hks : ks.all (fun k => decide (k.size ≤ 1000000000)) = true) (hl : l.all (szJ d) = true) (hn : l.length ≤ 100000) : szJ (d + 1) (mapOf ks l) = true := by
  have pk := sorted_keys hlen
  have pv := sorted_vals hlen
  unfold mapOf szJ
  have e1 : ((sortK (ks.zip l)).map (·.1)).all (fun k => decide (k.size ≤ 1000000000)) = true := by
    rw [List.all_eq_true] at hks ⊢
    exact fun x hx => hks x (pk.mem_iff.1 hx)
  have e3 : ((sortK (ks.zip l)).map (·.2)).all (szJ d) = true := by
    rw [List.all_eq_true] at hl ⊢
    exact fun x hx => hl x (pv.mem_iff.1 hx)
  rw [e1, e3, pk.length_eq, pv.length_eq, decide_eq_true hn, decide_eq_true (by omega : ks.length ≤ 100000)]
  rfl
/-- A value is as it should be. -/
def Fit (d : Nat) (j : J) : Prop := goodJ d j = true ∧ inOrd j = true ∧ szJ d j = true
theorem Fit.list {d : Nat} {l : List J} (h : ∀ x ∈ l, Fit d x) (hn : l.length ≤ 100000) : Fit (d + 1) (.mk 4 0 nix [] l) := by
  refine ⟨?_, ?_, ?_⟩
  · rw [goodJ]
    have : l.all (goodJ d) = true := List.all_eq_true.2 fun x hx => (h x hx).1
    rw [this]
    simp [bare, nix, ByteArray.size]
  · rw [inOrd, Bool.and_eq_true, inOrdL_all]
    exact ⟨rfl, fun x hx => (h x hx).2.1⟩
  · unfold szJ
    have : l.all (szJ d) = true := List.all_eq_true.2 fun x hx => (h x hx).2.2
    rw [this, decide_eq_true hn]
    rfl
theorem Fit.map {d : Nat} {ks : List ByteArray} {l : List J} (hlen : ks.length = l.length) (hk : ∀ k ∈ ks, letters k = true ∧ k.size ≤ 1000000000) (hp : ks.Pairwise (· ≠ ·)) (h : ∀ x ∈ l, Fit d x) (hn : l.length ≤ 100000) : Fit (d + 1) (mapOf ks l) :=
  ⟨map_good hlen (List.all_eq_true.2 fun k hk' => (hk k hk').1) hp (List.all_eq_true.2 fun x hx => (h x hx).1), map_inOrd hlen hp fun x hx => (h x hx).2.1,
   map_sz hlen (List.all_eq_true.2 fun k hk' => decide_eq_true (hk k hk').2) (List.all_eq_true.2 fun x hx => (h x hx).2.2) hn⟩
theorem list_fit {t : List Int} {d : Nat} {f : Nat → Res J} (hf : ∀ p j q, Fair t p → f p = .ok j q → Fit d j ∧ Fair t q) :
    ∀ (m p : Nat) (acc : List J) (j : J) (q : Nat), Fair t p → (∀ x ∈ acc, Fit d x) → acc.length + m ≤ 100000 → listL t f m p acc = .ok j q → Fit (d + 1) j ∧ Fair t q
  | 0, _, _, _, _, _, _, _, h => by unfold listL at h; cases h
  | m + 1, p, acc, j, q, hp, ha, hn, h => by
    rw [listL_succ] at h
    cases hv : f (blanks t p) with
    | bad e a => rw [hv] at h; cases h
    | ok v r =>
      rw [hv] at h
      obtain ⟨hF, hr⟩ := hf _ v r hp.blanks hv
      have hr' := hr.blanks
      have ha' : ∀ x ∈ acc ++ [v], Fit d x := fun x hx => by
        rcases List.mem_append.1 hx with hx | hx
        · exact ha x hx
        · rw [List.mem_singleton.1 hx]; exact hF
      simp only [Res.bind] at h
      split at h
      · rename_i h93
        cases h
        exact ⟨Fit.list ha' (by simp; omega), hr'.one (by omega)⟩
      · split at h
        · exact list_fit hf m _ (acc ++ [v]) j q (hr'.one (by omega)) ha' (by simp; omega) h
        · cases h
theorem key_fit {t : List Int} (ht : Bytes t) (htl : t.length ≤ 20000) {ks : List ByteArray} {p q : Nat} {k : ByteArray} (hp : Fair t p) (h : keyAt t ks p = .ok k q) : letters k = true ∧ k.size ≤ 1000000000 ∧ (∀ x ∈ ks, x ≠ k) ∧ Fair t q := by
  unfold keyAt at h
  split at h
  · rename_i hb
    cases hq : quoted t p with
    | bad e a => rw [hq] at h; cases h
    | ok s r =>
      rw [hq] at h
      obtain ⟨h1, h2, h3⟩ := quoted_letters ht hp hb hq
      simp only [Res.bind] at h
      split at h
      · cases h
      · rename_i hany
        cases hm : must t 58 (blanks t r) with
        | bad e a => rw [hm] at h; cases h
        | ok u r2 =>
          rw [hm] at h
          cases h
          refine ⟨h1, by omega, fun x hx hxk => hany ?_, (must_fair h2.blanks (by omega) hm).blanks⟩
          exact List.any_eq_true.2 ⟨x, hx, decide_eq_true (by rw [hxk])⟩
  · cases h
theorem pairs_fit {t : List Int} (ht : Bytes t) (htl : t.length ≤ 20000) {d : Nat} {f : Nat → Res J} (hf : ∀ p j q, Fair t p → f p = .ok j q → Fit d j ∧ Fair t q) :
    ∀ (m p : Nat) (ks : List ByteArray) (acc : List J) (j : J) (q : Nat), Fair t p → ks.length = acc.length → (∀ k ∈ ks, letters k = true ∧ k.size ≤ 1000000000) → ks.Pairwise (· ≠ ·) → (∀ x ∈ acc, Fit d x) → acc.length + m ≤ 100000 → pairsL t f m p ks acc = .ok j q → Fit (d + 1) j ∧ Fair t q
  | 0, _, _, _, _, _, _, _, _, _, _, _, h => by unfold pairsL at h; cases h
  | m + 1, p, ks, acc, j, q, hp, hlen, hk, hd, ha, hn, h => by
    rw [pairsL_succ] at h
    cases hkey : keyAt t ks (blanks t p) with
    | bad e a => rw [hkey] at h; cases h
    | ok k r0 =>
      rw [hkey] at h
      obtain ⟨k1, k2, k3, k4⟩ := key_fit ht htl hp.blanks hkey
      simp only [Res.bind] at h
      cases hv : f r0 with
      | bad e a => rw [hv] at h; cases h
      | ok v r =>
        rw [hv] at h
        obtain ⟨hF, hr⟩ := hf _ v r k4 hv
        have hr' := hr.blanks
        have ha' : ∀ x ∈ acc ++ [v], Fit d x := fun x hx => by
          rcases List.mem_append.1 hx with hx | hx
          · exact ha x hx
          · rw [List.mem_singleton.1 hx]; exact hF
        have hk' : ∀ x ∈ ks ++ [k], letters x = true ∧ x.size ≤ 1000000000 := fun x hx => by
          rcases List.mem_append.1 hx with hx | hx
          · exact hk x hx
          · rw [List.mem_singleton.1 hx]; exact ⟨k1, k2⟩
        have hd' : (ks ++ [k]).Pairwise (· ≠ ·) := by
          rw [List.pairwise_append]
          exact ⟨hd, List.pairwise_singleton _ _, fun x hx y hy => by rw [List.mem_singleton.1 hy]; exact k3 x hx⟩
        have hlen' : (ks ++ [k]).length = (acc ++ [v]).length := by simp; exact hlen
        simp only at h
        split at h
        · cases h
          exact ⟨Fit.map hlen' hk' hd' ha' (by simp; omega), hr'.one (by omega)⟩
        · split at h
          · exact pairs_fit ht htl hf m _ (ks ++ [k]) (acc ++ [v]) j q (hr'.one (by omega)) hlen' hk' hd' ha' (by simp; omega) h
          · cases h
theorem sz_flat (d : Nat) (k i : Int) : szJ (d + 1) (.mk k i nix [] []) = true := by
  unfold szJ
  rw [decide_eq_true (show nix.size ≤ 1000000000 by decide)]
  rfl
theorem digs_ge : ∀ (l : List Int) (n : Int), 0 ≤ n → (∀ c ∈ l, isDig c = true) → 0 ≤ l.foldl (fun n c => if n ≤ maxInt then n * 10 + (c - 48) else n) n
  | [], n, h, _ => h
  | c :: l, n, h, hl => by
    rw [List.foldl_cons]
    refine digs_ge l _ ?_ fun x hx => hl x (List.mem_cons_of_mem _ hx)
    have := hl c (List.mem_cons_self ..)
    unfold isDig at this
    simp only [Bool.and_eq_true, decide_eq_true_eq] at this
    split
    · omega
    · exact h
theorem number_fit {t : List Int} {p q : Nat} {j : J} (d : Nat) (hp : Fair t p) (h : number t p = .ok j q) : Fit (d + 1) j ∧ Fair t q := by
  unfold number at h
  have hs : Fair t (if byteAt t p = 45 then p + 1 else p) := by
    split
    · exact hp.one (by omega)
    · exact hp
  generalize hsd : (if byteAt t p = 45 then p + 1 else p) = s at h hs
  split at h
  · rename_i hdig
    simp only at h
    split at h
    · cases h
    · rename_i hno
      cases h
      have hge : 0 ≤ (digits t s).1 := by
        unfold digits
        split
        · exact Int.le_refl _
        · refine digs_ge _ 0 (Int.le_refl _) fun c hc => ?_
          exact List.all_eq_true.1 List.all_takeWhile c hc
      have hfa : Fair t (digits t s).2 := by
        unfold digits
        split
        · exact hs.one (by omega)
        · exact hs.digs
      have hm : -maxInt ≤ (if byteAt t p = 45 then -(digits t s).1 else (digits t s).1) ∧ (if byteAt t p = 45 then -(digits t s).1 else (digits t s).1) ≤ maxInt := by
        unfold maxInt at hno ⊢
        split <;> omega
      refine ⟨⟨?_, rfl, sz_flat d _ _⟩, hfa⟩
      generalize (if byteAt t p = 45 then -(digits t s).1 else (digits t s).1) = n at hm
      rw [goodJ, if_neg (by decide), if_neg (by decide), if_pos rfl, decide_eq_true hm.1, decide_eq_true hm.2]
      simp [bare, nix, ByteArray.size]
  · cases h
theorem flat_fit (d : Nat) (k i : Int) (h : k = 0 ∧ i = 0 ∨ k = 1 ∧ (i = 0 ∨ i = 1)) : Fit (d + 1) (.mk k i nix [] []) := by
  refine ⟨?_, rfl, sz_flat d k i⟩
  rw [goodJ]
  rcases h with ⟨rfl, rfl⟩ | ⟨rfl, rfl | rfl⟩ <;> simp [bare, nix, ByteArray.size]
theorem value_fit {t : List Int} (ht : Bytes t) (htl : t.length ≤ 20000) : ∀ (d p : Nat) (j : J) (q : Nat), Fair t p → value t d p = .ok j q → Fit d j ∧ Fair t q
  | 0, p, j, q, _, h => by
    unfold value at h
    split at h <;> cases h
  | d + 1, p, j, q, hp, h => by
    have hf := fun p' j' q' => value_fit ht htl d p' j' q'
    unfold value at h
    split at h
    · split at h
      · cases hw : word t [110, 117, 108, 108] p with
        | bad e a => rw [hw] at h; cases h
        | ok u r => rw [hw] at h; cases h; exact ⟨flat_fit d 0 0 (.inl ⟨rfl, rfl⟩), word_fair _ _ _ u hp (by intro c hc; simp at hc; omega) hw⟩
      split at h
      · cases hw : word t [116, 114, 117, 101] p with
        | bad e a => rw [hw] at h; cases h
        | ok u r => rw [hw] at h; cases h; exact ⟨flat_fit d 1 1 (.inr ⟨rfl, .inr rfl⟩), word_fair _ _ _ u hp (by intro c hc; simp at hc; omega) hw⟩
      split at h
      · cases hw : word t [102, 97, 108, 115, 101] p with
        | bad e a => rw [hw] at h; cases h
        | ok u r => rw [hw] at h; cases h; exact ⟨flat_fit d 1 0 (.inr ⟨rfl, .inl rfl⟩), word_fair _ _ _ u hp (by intro c hc; simp at hc; omega) hw⟩
      split at h
      · rename_i hb
        cases hq : quoted t p with
        | bad e a => rw [hq] at h; cases h
        | ok s r =>
          rw [hq] at h
          cases h
          obtain ⟨h1, h2, h3⟩ := quoted_letters ht hp hb hq
          refine ⟨⟨?_, rfl, ?_⟩, h2⟩
          · rw [goodJ, if_neg (by decide), if_neg (by decide), if_neg (by decide), if_pos rfl, h1]
            simp [bare]
          · unfold szJ
            rw [decide_eq_true (by omega : (strOfNums s).size ≤ 1000000000)]
            rfl
      split at h
      · unfold listAt at h
        have h1 : Fair t (blanks t (p + 1)) := (hp.one (by omega)).blanks
        split at h
        · cases h
          exact ⟨Fit.list (by simp) (by simp), h1.one (by omega)⟩
        · exact list_fit hf _ _ [] j q h1 (by simp) (by simp; omega) h
      split at h
      · unfold pairsAt at h
        have h1 : Fair t (blanks t (p + 1)) := (hp.one (by omega)).blanks
        split at h
        · cases h
          have := Fit.map (d := d) (ks := []) (l := []) rfl (by simp) List.Pairwise.nil (by simp) (by simp)
          exact ⟨this, h1.one (by omega)⟩
        · exact pairs_fit ht htl hf _ _ [] [] j q h1 rfl (by simp) List.Pairwise.nil (by simp) (by simp; omega) h
      · exact number_fit d hp h
    · cases h
/-- What is decoded is good, in order, and nothing in it is too long. -/
theorem decode_fit {t : List Int} (ht : Bytes t) {j : J} {q : Nat} (h : decode t = .ok j q) : Fit 12 j := by
  unfold decode at h
  split at h
  · cases h
  · rename_i hlen
    split at h
    · cases h
    · rename_i hs
      unfold whole at h
      cases hv : value t 12 (blanks t 0) with
      | bad e a => rw [hv] at h; cases h
      | ok v r =>
        rw [hv] at h
        simp only [Res.bind] at h
        split at h
        · cases h
        · cases h
          exact (value_fit ht (by omega) 12 _ _ _ (fair_of_stray hs).blanks hv).1
theorem decode_ord {t : List Int} (ht : Bytes t) {j : J} {q : Nat} (h : decode t = .ok j q) : ord j = j := by
  obtain ⟨h1, h2, _⟩ := decode_fit ht h
  exact ord_same 12 j h1 h2
end Go.Proofs.YtnmhpejnjaeecaaDoor
namespace Go.Proofs.YtnmhpejnjaeecaaDoor
open Go.RowKit

/-- t has a from place k on, and a blank behind it: if E, two that are less than 32, and nothing more. -/
structure Within (E : Prop) (a : List Int) (k : Nat) (t : List Int) : Prop where
  at' : ∀ i, i < a.length → byteAt t (k + i) = byteAt a i
  end' : byteAt t (k + a.length) = 32 ∨ byteAt t (k + a.length) = 9
  len : k + a.length < t.length
  tail : E → t.drop (k + a.length) = [9, 13]
/-- The same, or an error further on. -/
def Sh {α : Type} (E : Prop) (k : Nat) : Res α → Res α → Prop
  | .ok v q, r' => r' = .ok v (k + q)
  | .bad e _, r' => (E ∨ e ≠ 11) → ∃ l', r' = .bad e l' ∧ k ≤ l'
theorem Sh.bad {α : Type} {E : Prop} {k l l' : Nat} {e : Int} (h : k ≤ l') : Sh (α := α) E k (.bad e l) (.bad e l') := fun _ => ⟨l', rfl, h⟩
theorem Sh.ok {α : Type} {E : Prop} {k q : Nat} {v : α} : Sh E k (.ok v q) (.ok v (k + q)) := rfl
theorem Sh.bind {α β : Type} {E : Prop} {k : Nat} {r r' : Res α} {f f' : α → Nat → Res β} (h : Sh E k r r') (hf : ∀ v q, r = .ok v q → Sh E k (f v q) (f' v (k + q))) : Sh E k (r.bind f) (r'.bind f') := by
  cases r with
  | ok v q =>
    have h : r' = .ok v (k + q) := h
    subst h
    exact hf v q rfl
  | bad e l =>
    intro he
    obtain ⟨l', rfl, hl⟩ := h he
    exact ⟨l', rfl, hl⟩
section
variable {E : Prop} {a t : List Int} {k : Nat}
theorem Within.zero (_ : Within E a k t) {i : Nat} (h : a.length ≤ i) : byteAt a i = 0 := by
  unfold byteAt
  rw [List.getD_eq_getElem?_getD, List.getElem?_eq_none h]; rfl
/-- A sign that is no blank stands at the same places. -/
theorem Within.iff (h : Within E a k t) {i : Nat} (hi : i ≤ a.length) {c : Int} (h0 : c ≠ 0) (h1 : c ≠ 32) (h2 : c ≠ 9) : byteAt t (k + i) = c ↔ byteAt a i = c := by
  rcases Nat.lt_or_ge i a.length with hl | hl
  · rw [h.at' i hl]
  · obtain rfl : i = a.length := by omega
    rw [h.zero (Nat.le_refl _)]
    have := h.end'
    constructor
    · intro e; omega
    · intro e; omega
theorem Within.fun (h : Within E a k t) {α : Type} {f : Int → α} (h0 : f 0 = f 32) (h1 : f 0 = f 9) {i : Nat} (hi : i ≤ a.length) : f (byteAt t (k + i)) = f (byteAt a i) := by
  rcases Nat.lt_or_ge i a.length with hl | hl
  · rw [h.at' i hl]
  · obtain rfl : i = a.length := by omega
    rw [h.zero (Nat.le_refl _)]
    rcases h.end' with e | e
    · rw [e, h0]
    · rw [e, h1]
theorem Within.must (h : Within E a k t) {i : Nat} (hi : i ≤ a.length) {c : Int} (h0 : c ≠ 0) (h1 : c ≠ 32) (h2 : c ≠ 9) : Sh E k (must a c i) (must t c (k + i)) := by
  unfold Go.Proofs.YtnmhpejnjaeecaaDoor.must
  by_cases hc : byteAt a i = c
  · rw [if_pos hc, if_pos ((h.iff hi h0 h1 h2).2 hc)]; exact Sh.ok
  · rw [if_neg hc, if_neg fun e => hc ((h.iff hi h0 h1 h2).1 e)]; exact Sh.bad (by omega)
theorem must_at {t : List Int} {c : Int} {p q : Nat} {u : Unit} (hc : c ≠ 0) (h : must t c p = .ok u q) : q = p + 1 ∧ p < t.length := by
  unfold must at h
  split at h
  · rename_i e
    cases h
    exact ⟨rfl, byteAt_lt (by rw [e]; exact hc)⟩
  · cases h
theorem Within.word (h : Within E a k t) : ∀ (l : List Int) (i : Nat), (∀ c ∈ l, c ≠ 0 ∧ c ≠ 32 ∧ c ≠ 9) → i ≤ a.length → Sh E k (word a l i) (word t l (k + i))
  | [], i, _, _ => by unfold Go.Proofs.YtnmhpejnjaeecaaDoor.word; exact Sh.ok
  | c :: l, i, hl, hi => by
    have hc := hl c (List.mem_cons_self ..)
    unfold Go.Proofs.YtnmhpejnjaeecaaDoor.word
    refine Sh.bind (h.must hi hc.1 hc.2.1 hc.2.2) fun u q hq => ?_
    obtain ⟨rfl, hlt⟩ := must_at hc.1 hq
    exact Within.word h l (i + 1) (fun x hx => hl x (List.mem_cons_of_mem _ hx)) hlt
theorem take_eq {a t : List Int} {k : Nat} {f : Int → Bool} (hat : ∀ i, i < a.length → byteAt t (k + i) = byteAt a i) (hlen : k + a.length < t.length) :
    ∀ (n i : Nat), a.length ≤ i + n → i ≤ a.length → (i + ((a.drop i).takeWhile f).length < a.length ∨ f (byteAt t (k + a.length)) = false) → (t.drop (k + i)).takeWhile f = (a.drop i).takeWhile f
  | 0, i, hn, hi, hf => by
    obtain rfl : i = a.length := by omega
    rw [List.drop_length]
    rcases hf with hf | hf
    · simp at hf
    · rw [List.drop_eq_getElem_cons (by omega), List.takeWhile_cons]
      have e : t[k + a.length] = byteAt t (k + a.length) := by
        unfold byteAt
        rw [List.getD_eq_getElem?_getD, List.getElem?_eq_getElem hlen]; rfl
      rw [e, hf]
      rfl
  | n + 1, i, hn, hi, hf => by
    rcases Nat.lt_or_ge i a.length with hl | hl
    · have hb := hat i hl
      have ea : a[i] = byteAt a i := by
        unfold byteAt
        rw [List.getD_eq_getElem?_getD, List.getElem?_eq_getElem hl]; rfl
      have et : t[k + i] = byteAt t (k + i) := by
        unfold byteAt
        rw [List.getD_eq_getElem?_getD, List.getElem?_eq_getElem (by omega)]; rfl
      rw [List.drop_eq_getElem_cons hl] at hf ⊢
      rw [List.drop_eq_getElem_cons (show k + i < t.length by omega)]
      rw [List.takeWhile_cons] at hf ⊢
      rw [List.takeWhile_cons, et, hb, ← ea]
      cases hfa : f a[i] with
      | false => rfl
      | true =>
        rw [hfa] at hf
        simp only [if_true, List.length_cons] at hf ⊢
        congr 1
        exact take_eq hat hlen n (i + 1) (by omega) (by omega) (by
          rcases hf with hf | hf
          · exact .inl (by omega)
          · exact .inr hf)
    · exact take_eq hat hlen 0 i (by omega) hi (by
        rcases hf with hf | hf
        · exact absurd hf (by omega)
        · exact .inr hf)
theorem Within.digs (h : Within E a k t) {i : Nat} (hi : i ≤ a.length) : (t.drop (k + i)).takeWhile isDig = (a.drop i).takeWhile isDig :=
  take_eq h.at' h.len a.length i (by omega) hi (.inr (by rcases h.end' with e | e <;> rw [e] <;> rfl))
theorem take_whole {f : Int → Bool} : ∀ {l : List Int}, (∀ x ∈ l, f x = true) → l.takeWhile f = l
  | [], _ => rfl
  | c :: l, h => by
    rw [List.takeWhile_cons, h c (List.mem_cons_self ..), take_whole fun x hx => h x (List.mem_cons_of_mem _ hx)]
    rfl
/-- Blanks: to the same place, or to the end. -/
theorem Within.blank (h : Within E a k t) {i : Nat} (hi : i ≤ a.length) : (blanks a i < a.length ∧ blanks t (k + i) = k + blanks a i) ∨ (blanks a i = a.length ∧ (E → blanks t (k + i) = t.length) ∧ k ≤ blanks t (k + i)) := by
  have hle := blanks_le hi
  rcases Nat.lt_or_ge (blanks a i) a.length with hl | hl
  · refine .inl ⟨hl, ?_⟩
    unfold Go.Proofs.YtnmhpejnjaeecaaDoor.blanks at hl ⊢
    rw [take_eq h.at' h.len a.length i (by omega) hi (.inl hl)]
    omega
  · refine .inr ⟨by omega, fun hE => ?_, by have := blanks_ge t (k + i); omega⟩
    have ht := h.tail hE
    have hall : ∀ j, i ≤ j → j < a.length → isBlank (byteAt a j) = true := fun j h1 h2 => by
      have := take_all (t := a) (p := i) (f := isBlank) (j - i) (by unfold Go.Proofs.YtnmhpejnjaeecaaDoor.blanks at hl; omega)
      rwa [show i + (j - i) = j by omega] at this
    have hlen : t.length = k + a.length + 2 := by
      have := congrArg List.length ht
      simp at this
      omega
    have hd : t.drop (k + i) = (t.drop (k + i)).take (a.length - i) ++ [9, 13] := by
      rw [← ht]
      have : t.drop (k + a.length) = (t.drop (k + i)).drop (a.length - i) := by rw [List.drop_drop]; congr 1; omega
      rw [this, List.take_append_drop]
    have hb : ∀ x ∈ t.drop (k + i), isBlank x = true := by
      rw [hd]
      intro x hx
      rcases List.mem_append.1 hx with hx | hx
      · obtain ⟨j, hj⟩ := List.mem_iff_getElem?.1 hx
        rw [List.getElem?_take] at hj
        split at hj
        · rename_i hja
          have hx' : x = byteAt a (i + j) := by
            rw [← h.at' (i + j) (by omega)]
            unfold byteAt
            rw [List.getElem?_drop] at hj
            rw [List.getD_eq_getElem?_getD, show k + (i + j) = k + i + j by omega, hj]; rfl
          rw [hx']
          exact hall (i + j) (by omega) (by omega)
        · cases hj
      · simp at hx
        rcases hx with rfl | rfl <;> rfl
    unfold Go.Proofs.YtnmhpejnjaeecaaDoor.blanks
    rw [take_whole hb]
    simp
    omega
theorem Within.tail0 (_ : Within E a k t) : byteAt t t.length = 0 := by
  unfold byteAt
  rw [List.getD_eq_getElem?_getD, List.getElem?_eq_none (Nat.le_refl _)]; rfl
theorem Within.hex (h : Within E a k t) (i : Nat) : ∀ (m n : Nat) (x : Int), i + n ≤ a.length → hexL t (k + i) m n x = hexL a i m n x
  | 0, n, x, _ => rfl
  | m + 1, n, x, hn => by
    unfold hexL
    have e : hexDig (byteAt t (k + i + n)) = hexDig (byteAt a (i + n)) := by
      rw [show k + i + n = k + (i + n) by omega]
      exact h.fun rfl rfl hn
    rw [e]
    cases hd : hexDig (byteAt a (i + n)) with
    | none => rfl
    | some d =>
      have := byteAt_lt (hex_ne hd)
      exact Within.hex h i m (n + 1) _ (by omega)
theorem Within.hexAt (h : Within E a k t) {i : Nat} (hi : i ≤ a.length) : hexAt t (k + i) = hexAt a i := h.hex i 4 0 0 (by omega)
theorem Within.low (h : Within E a k t) {i : Nat} (hi : i ≤ a.length) : lowAt t (k + i) = lowAt a i := by
  unfold lowAt
  by_cases h1 : byteAt a i = 92
  · have hl : i < a.length := byteAt_lt (by rw [h1]; decide)
    have e1 := (h.iff hi (c := 92) (by decide) (by decide) (by decide)).2 h1
    by_cases h2 : byteAt a (i + 1) = 117
    · have hl2 : i + 1 < a.length := byteAt_lt (by rw [h2]; decide)
      have e2 := (h.iff (i := i + 1) hl (c := 117) (by decide) (by decide) (by decide)).2 h2
      rw [if_pos (show byteAt a i = 92 ∧ byteAt a (i + 1) = 117 from ⟨h1, h2⟩), if_pos (show byteAt t (k + i) = 92 ∧ byteAt t (k + i + 1) = 117 from ⟨e1, e2⟩), show k + i + 2 = k + (i + 2) by omega, h.hexAt (by omega)]
    · rw [if_neg (show ¬ (byteAt a i = 92 ∧ byteAt a (i + 1) = 117) from fun e => h2 e.2), if_neg (show ¬ (byteAt t (k + i) = 92 ∧ byteAt t (k + i + 1) = 117) from fun e => h2 ((h.iff (i := i + 1) hl (c := 117) (by decide) (by decide) (by decide)).1 e.2))]
  · rw [if_neg (show ¬ (byteAt a i = 92 ∧ byteAt a (i + 1) = 117) from fun e => h1 e.1), if_neg (show ¬ (byteAt t (k + i) = 92 ∧ byteAt t (k + i + 1) = 117) from fun e => h1 ((h.iff hi (c := 92) (by decide) (by decide) (by decide)).1 e.1))]
theorem Within.coded (h : Within E a k t) {i : Nat} (hi : i + 2 ≤ a.length) : Sh E k (coded a i) (coded t (k + i)) := by
  unfold Go.Proofs.YtnmhpejnjaeecaaDoor.coded
  rw [show k + i + 2 = k + (i + 2) by omega, h.hexAt hi]
  have hle := hexL_le a (i + 2) 4 0 0
  split
  · exact Sh.bad (by omega)
  · rename_i h4
    have h6 : i + 6 ≤ a.length := by
      have := hle.2.2 (by omega)
      unfold Go.Proofs.YtnmhpejnjaeecaaDoor.hexAt at h4
      omega
    split
    · rw [show k + i + 6 = k + (i + 6) by omega]; exact Sh.ok
    · split
      · exact Sh.bad (by omega)
      · rw [show k + i + 6 = k + (i + 6) by omega, h.low h6]
        split
        · exact Sh.bad (by omega)
        · rw [show k + i + 12 = k + (i + 12) by omega]; exact Sh.ok
theorem Within.escape (h : Within E a k t) {i : Nat} (hi : i < a.length) : Sh E k (escape a i) (escape t (k + i)) := by
  have key : ∀ c : Int, c ≠ 0 → c ≠ 32 → c ≠ 9 → (byteAt t (k + i + 1) = c ↔ byteAt a (i + 1) = c) := fun c h0 h1 h2 => by
    rw [show k + i + 1 = k + (i + 1) by omega]
    exact h.iff (by omega) h0 h1 h2
  have e34 := key 34 (by decide) (by decide) (by decide)
  have e92 := key 92 (by decide) (by decide) (by decide)
  have e47 := key 47 (by decide) (by decide) (by decide)
  have e98 := key 98 (by decide) (by decide) (by decide)
  have e102 := key 102 (by decide) (by decide) (by decide)
  have e110 := key 110 (by decide) (by decide) (by decide)
  have e114 := key 114 (by decide) (by decide) (by decide)
  have e116 := key 116 (by decide) (by decide) (by decide)
  have e117 := key 117 (by decide) (by decide) (by decide)
  unfold Go.Proofs.YtnmhpejnjaeecaaDoor.escape
  simp only
  simp only [e34, e92, e47, e98, e102, e110, e114, e116, e117, show k + i + 2 = k + (i + 2) by omega]
  split
  · rename_i hc
    have : byteAt t (k + i + 1) = byteAt a (i + 1) := by
      rw [show k + i + 1 = k + (i + 1) by omega]
      exact h.at' (i + 1) (byteAt_lt (by omega))
    rw [this]; exact Sh.ok
  split
  · exact Sh.ok
  split
  · exact Sh.ok
  split
  · exact Sh.ok
  split
  · exact Sh.ok
  split
  · exact Sh.ok
  split
  · rename_i hc
    exact h.coded (by have := byteAt_lt (t := a) (p := i + 1) (by omega); omega)
  · exact Sh.bad (by omega)
end
end Go.Proofs.YtnmhpejnjaeecaaDoor
namespace Go.Proofs.YtnmhpejnjaeecaaDoor
open Go.RowKit

section
variable {E : Prop} {a t : List Int} {k : Nat}
theorem Within.end9 (h : Within E a k t) (hE : E) : byteAt t (k + a.length) = 9 := byte_head (h.tail hE)
theorem Sh.none {α : Type} {r' : Res α} {l : Nat} (h : E → ∃ l', r' = .bad 11 l' ∧ k ≤ l') : Sh E k (.bad 11 l) r' := fun he => h (he.elim id fun e => absurd rfl e)
theorem Within.quo (h : Within E a k t) : ∀ (m m' i : Nat) (out : List Int), m ≤ m' → i ≤ a.length → a.length < i + m → Sh E k (quoL a m i out) (quoL t m' (k + i) out)
  | 0, _, i, _, _, h1, h2 => by omega
  | m + 1, 0, i, out, hm, h1, h2 => by omega
  | m + 1, m' + 1, i, out, hm, h1, h2 => by
    rw [quoL_succ, quoL_succ]
    by_cases c34 : byteAt a i = 34
    · rw [if_pos c34, if_pos ((h.iff h1 (by decide) (by decide) (by decide)).2 c34)]
      exact Sh.ok
    rw [if_neg c34, if_neg fun e => c34 ((h.iff h1 (by decide) (by decide) (by decide)).1 e)]
    by_cases c92 : byteAt a i = 92
    · rw [if_pos c92, if_pos ((h.iff h1 (by decide) (by decide) (by decide)).2 c92)]
      have hl : i < a.length := byteAt_lt (by omega)
      refine Sh.bind (h.escape hl) fun l q hq => ?_
      have hadv := escape_adv hl
      rw [hq] at hadv
      exact Within.quo h m m' q _ (by omega) hadv.2 (by have := hadv.1; omega)
    rw [if_neg c92, if_neg fun e => c92 ((h.iff h1 (by decide) (by decide) (by decide)).1 e)]
    rcases Nat.lt_or_ge i a.length with hl | hl
    · rw [h.at' i hl]
      split
      · exact Sh.bad (by omega)
      · exact Within.quo h m m' (i + 1) _ (by omega) hl (by omega)
    · obtain rfl : i = a.length := by omega
      rw [if_pos (by rw [h.zero (Nat.le_refl _)]; decide)]
      refine Sh.none fun hE => ?_
      rw [if_pos (by rw [h.end9 hE]; decide)]
      exact ⟨_, rfl, by omega⟩
theorem Within.quoted (h : Within E a k t) {i : Nat} (hi : i < a.length) : Sh E k (quoted a i) (quoted t (k + i)) := by
  unfold Go.Proofs.YtnmhpejnjaeecaaDoor.quoted
  rw [show k + i + 1 = k + (i + 1) by omega]
  exact h.quo _ _ (i + 1) [] (by have := h.len; omega) hi (by omega)
theorem Within.number (h : Within E a k t) {i : Nat} (hi : i ≤ a.length) : Sh E k (number a i) (number t (k + i)) := by
  unfold Go.Proofs.YtnmhpejnjaeecaaDoor.number
  have e45 := h.iff hi (c := 45) (by decide) (by decide) (by decide)
  obtain ⟨s, hs, hs1, hs2⟩ : ∃ s, (if byteAt a i = 45 then i + 1 else i) = s ∧ (if byteAt t (k + i) = 45 then k + i + 1 else k + i) = k + s ∧ s ≤ a.length := by
    by_cases c : byteAt a i = 45
    · exact ⟨i + 1, if_pos c, by rw [if_pos (e45.2 c)]; omega, byteAt_lt (by omega)⟩
    · exact ⟨i, if_neg c, by rw [if_neg fun e => c (e45.1 e)], hi⟩
  rw [hs, hs1]
  have hdig : isDig (byteAt t (k + s)) = isDig (byteAt a s) := h.fun rfl rfl hs2
  rw [hdig]
  split
  · rename_i hd
    have hdd : digits t (k + s) = ((digits a s).1, k + (digits a s).2) := by
      unfold digits
      by_cases c : byteAt a s = 48
      · rw [if_pos c, if_pos ((h.iff hs2 (by decide) (by decide) (by decide)).2 c)]
        simp only [Prod.mk.injEq, true_and]; omega
      · rw [if_neg c, if_neg fun e => c ((h.iff hs2 (by decide) (by decide) (by decide)).1 e), h.digs hs2]
        simp only [Prod.mk.injEq, true_and]; omega
    rw [hdd]
    have hle := (digits_adv hd).2
    generalize digits a s = dd at hle ⊢
    simp only
    have e46 := h.iff hle (c := 46) (by decide) (by decide) (by decide)
    have e101 := h.iff hle (c := 101) (by decide) (by decide) (by decide)
    have e69 := h.iff hle (c := 69) (by decide) (by decide) (by decide)
    simp only [e46, e101, e69, e45]
    split
    · exact Sh.bad (by omega)
    · exact Sh.ok
  · exact Sh.bad (by omega)
/-- A key: to the same place, or to the end. -/
theorem Within.key (h : Within E a k t) {i : Nat} (stood : List ByteArray) (hi : i ≤ a.length) : (∃ s q, keyAt a stood i = .ok s q ∧ q ≤ a.length ∧ i < q ∧ ((q < a.length ∧ keyAt t stood (k + i) = .ok s (k + q)) ∨ (q = a.length ∧ (E → keyAt t stood (k + i) = .ok s t.length)))) ∨ (∃ e l, keyAt a stood i = .bad e l ∧ ((E ∨ e ≠ 11) → ∃ l', keyAt t stood (k + i) = .bad e l' ∧ k ≤ l')) := by
  unfold keyAt
  have e34 := h.iff hi (c := 34) (by decide) (by decide) (by decide)
  by_cases c : byteAt a i = 34
  · rw [if_pos c, if_pos (e34.2 c)]
    have hl : i < a.length := byteAt_lt (by omega)
    have hq := h.quoted hl
    have hadv : Adv a (i + 1) (Go.Proofs.YtnmhpejnjaeecaaDoor.quoted a i) := by unfold Go.Proofs.YtnmhpejnjaeecaaDoor.quoted; exact quoL_adv _ _ _ hl
    cases hqq : Go.Proofs.YtnmhpejnjaeecaaDoor.quoted a i with
    | bad e l =>
      right
      refine ⟨e, l, rfl, fun he => ?_⟩
      rw [hqq] at hq
      obtain ⟨l', h1, h2⟩ := hq he
      exact ⟨l', by rw [h1]; rfl, h2⟩
    | ok s q =>
      rw [hqq] at hq hadv
      have hq : Go.Proofs.YtnmhpejnjaeecaaDoor.quoted t (k + i) = .ok s (k + q) := hq
      rw [hq]
      simp only [Res.bind]
      split
      · exact .inr ⟨_, _, rfl, fun _ => ⟨_, rfl, by omega⟩⟩
      · rcases h.blank hadv.2 with ⟨hb1, hb2⟩ | ⟨hb1, hb2, _⟩
        · rw [hb2]
          have hm := h.must (Nat.le_of_lt hb1) (c := 58) (by decide) (by decide) (by decide)
          cases hmm : Go.Proofs.YtnmhpejnjaeecaaDoor.must a 58 (blanks a q) with
          | bad e l =>
            rw [hmm] at hm
            right
            refine ⟨e, l, rfl, fun he => ?_⟩
            obtain ⟨l', h1, h2⟩ := hm he
            exact ⟨l', by rw [h1], h2⟩
          | ok u r =>
            rw [hmm] at hm
            have hm : Go.Proofs.YtnmhpejnjaeecaaDoor.must t 58 (k + blanks a q) = .ok u (k + r) := hm
            rw [hm]
            obtain ⟨rfl, hlt⟩ := must_at (by decide) hmm
            left
            have hg := blanks_ge a (blanks a q + 1)
            have hg2 := blanks_ge a q
            refine ⟨_, _, rfl, blanks_le hlt, by have := hadv.1; omega, ?_⟩
            rcases h.blank (i := blanks a q + 1) hlt with ⟨hc1, hc2⟩ | ⟨hc1, hc2, _⟩
            · exact .inl ⟨hc1, congrArg (Res.ok _) hc2⟩
            · exact .inr ⟨hc1, fun hE => congrArg (Res.ok _) (hc2 hE)⟩
        · right
          rw [hb1]
          have hm : Go.Proofs.YtnmhpejnjaeecaaDoor.must a 58 a.length = .bad 11 a.length := by
            unfold Go.Proofs.YtnmhpejnjaeecaaDoor.must
            rw [if_neg (by rw [h.zero (Nat.le_refl _)]; decide)]
          rw [hm]
          refine ⟨11, _, rfl, fun he => ?_⟩
          have hE := he.elim id fun e => absurd rfl e
          rw [hb2 hE]
          have hm' : Go.Proofs.YtnmhpejnjaeecaaDoor.must t 58 t.length = .bad 11 t.length := by
            unfold Go.Proofs.YtnmhpejnjaeecaaDoor.must
            rw [if_neg (by rw [h.tail0]; decide)]
          rw [hm']
          exact ⟨_, rfl, by have := h.len; omega⟩
  · rw [if_neg c, if_neg fun e => c (e34.1 e)]
    exact .inr ⟨_, _, rfl, fun _ => ⟨_, rfl, by omega⟩⟩
/-- A reader of values within both. -/
structure Reads2 (E : Prop) (a : List Int) (k : Nat) (t : List Int) (f f' : Nat → Res J) : Prop where
  sh : ∀ i, i ≤ a.length → Sh E k (f i) (f' (k + i))
  adv : ∀ i, i ≤ a.length → Adv a i (f i)
  end1 : f a.length = .bad 11 a.length
  end2 : f' t.length = .bad 11 t.length
theorem Within.list (h : Within E a k t) {f f' : Nat → Res J} (hf : Reads2 E a k t f f') : ∀ (m m' i : Nat) (acc : List J), m ≤ m' → i ≤ a.length → a.length < i + m → Sh E k (listL a f m i acc) (listL t f' m' (k + i) acc)
  | 0, _, i, _, _, h1, h2 => by omega
  | m + 1, 0, i, out, hm, h1, h2 => by omega
  | m + 1, m' + 1, i, acc, hm, h1, h2 => by
    rw [listL_succ, listL_succ]
    rcases h.blank h1 with ⟨hb1, hb2⟩ | ⟨hb1, hb2, _⟩
    · rw [hb2]
      refine Sh.bind (hf.sh _ (Nat.le_of_lt hb1)) fun v q hq => ?_
      have hadv := hf.adv _ (Nat.le_of_lt hb1)
      rw [hq] at hadv
      have hg := blanks_ge a i
      have hg2 := blanks_ge a q
      rcases h.blank hadv.2 with ⟨hc1, hc2⟩ | ⟨hc1, hc2, _⟩
      · have e93 := h.iff (Nat.le_of_lt hc1) (c := 93) (by decide) (by decide) (by decide)
        have e44 := h.iff (Nat.le_of_lt hc1) (c := 44) (by decide) (by decide) (by decide)
        rw [hc2]
        simp only [e93, e44]
        split
        · exact Sh.ok
        · split
          · exact Within.list h hf m m' (blanks a q + 1) _ (by omega) hc1 (by have := hadv.1; omega)
          · exact Sh.bad (by omega)
      · rw [hc1, h.zero (Nat.le_refl _), if_neg (by decide), if_neg (by decide)]
        refine Sh.none fun hE => ?_
        rw [hc2 hE, h.tail0, if_neg (by decide), if_neg (by decide)]
        exact ⟨_, rfl, by have := h.len; omega⟩
    · rw [hb1, hf.end1]
      refine Sh.none fun hE => ?_
      rw [hb2 hE, hf.end2]
      exact ⟨_, rfl, by have := h.len; omega⟩
theorem Within.pairs (h : Within E a k t) {f f' : Nat → Res J} (hf : Reads2 E a k t f f') : ∀ (m m' i : Nat) (ks : List ByteArray) (acc : List J), m ≤ m' → i ≤ a.length → a.length < i + m → Sh E k (pairsL a f m i ks acc) (pairsL t f' m' (k + i) ks acc)
  | 0, _, i, _, _, _, h1, h2 => by omega
  | m + 1, 0, i, _, _, hm, h1, h2 => by omega
  | m + 1, m' + 1, i, ks, acc, hm, h1, h2 => by
    rw [pairsL_succ, pairsL_succ]
    have hg := blanks_ge a i
    rcases h.blank h1 with ⟨hb1, hb2⟩ | ⟨hb1, hb2, _⟩
    · rw [hb2]
      rcases h.key ks (Nat.le_of_lt hb1) with ⟨s, q, hk1, hq1, hq2, hk2⟩ | ⟨e, l, hk1, hk2⟩
      · rw [hk1]
        rcases hk2 with ⟨hlt, hk2⟩ | ⟨hqe, hk2⟩
        · rw [hk2]
          show Sh E k ((f q).bind _) ((f' (k + q)).bind _)
          refine Sh.bind (hf.sh _ hq1) fun v r hr => ?_
          have hadv := hf.adv _ hq1
          rw [hr] at hadv
          have hg2 := blanks_ge a r
          rcases h.blank hadv.2 with ⟨hc1, hc2⟩ | ⟨hc1, hc2, _⟩
          · have e125 := h.iff (Nat.le_of_lt hc1) (c := 125) (by decide) (by decide) (by decide)
            have e44 := h.iff (Nat.le_of_lt hc1) (c := 44) (by decide) (by decide) (by decide)
            rw [hc2]
            simp only [e125, e44]
            split
            · exact Sh.ok
            · split
              · exact Within.pairs h hf m m' (blanks a r + 1) _ _ (by omega) hc1 (by have := hadv.1; omega)
              · exact Sh.bad (by omega)
          · rw [hc1, h.zero (Nat.le_refl _), if_neg (by decide), if_neg (by decide)]
            refine Sh.none fun hE => ?_
            rw [hc2 hE, h.tail0, if_neg (by decide), if_neg (by decide)]
            exact ⟨_, rfl, by have := h.len; omega⟩
        · subst hqe
          show Sh E k ((f a.length).bind _) _
          rw [hf.end1]
          refine Sh.none fun hE => ?_
          rw [hk2 hE]
          show ∃ l', (f' t.length).bind _ = _ ∧ _
          rw [hf.end2]
          exact ⟨_, rfl, by have := h.len; omega⟩
      · rw [hk1]
        intro he
        obtain ⟨l', h3, h4⟩ := hk2 he
        exact ⟨l', by rw [h3]; rfl, h4⟩
    · rw [hb1]
      have hk : ∀ u : List Int, byteAt u u.length = 0 → keyAt u ks u.length = .bad 11 u.length := fun u hu => by
        unfold keyAt
        rw [if_neg (by rw [hu]; decide)]
      rw [hk a (h.zero (Nat.le_refl _))]
      refine Sh.none fun hE => ?_
      rw [hb2 hE, hk t h.tail0]
      exact ⟨_, rfl, by have := h.len; omega⟩
theorem value_end {t : List Int} {p : Nat} (h : byteAt t p = 0) : ∀ d, value t d p = .bad 11 p
  | 0 => by unfold value; rw [h, if_neg (by decide)]
  | d + 1 => by unfold value; rw [h, if_neg (by decide)]
theorem Within.value (h : Within E a k t) : ∀ (d i : Nat), i ≤ a.length → Sh E k (value a d i) (value t d (k + i))
  | 0, i, hi => by
    unfold Go.Proofs.YtnmhpejnjaeecaaDoor.value
    have hbe : begins (byteAt t (k + i)) = begins (byteAt a i) := h.fun rfl rfl hi
    rw [hbe]
    split <;> exact Sh.bad (by omega)
  | d + 1, i, hi => by
    have hf : Reads2 E a k t (Go.Proofs.YtnmhpejnjaeecaaDoor.value a d) (Go.Proofs.YtnmhpejnjaeecaaDoor.value t d) := ⟨Within.value h d, fun i hi => value_adv a d i hi, value_end (h.zero (Nat.le_refl _)) d, value_end h.tail0 d⟩
    have hbe : begins (byteAt t (k + i)) = begins (byteAt a i) := h.fun rfl rfl hi
    have e110 := h.iff hi (c := 110) (by decide) (by decide) (by decide)
    have e116 := h.iff hi (c := 116) (by decide) (by decide) (by decide)
    have e102 := h.iff hi (c := 102) (by decide) (by decide) (by decide)
    have e34 := h.iff hi (c := 34) (by decide) (by decide) (by decide)
    have e91 := h.iff hi (c := 91) (by decide) (by decide) (by decide)
    have e123 := h.iff hi (c := 123) (by decide) (by decide) (by decide)
    unfold Go.Proofs.YtnmhpejnjaeecaaDoor.value
    simp only [hbe, e110, e116, e102, e34, e91, e123]
    split
    · split
      · exact Sh.bind (h.word _ i (by intro c hc; simp at hc; omega) hi) fun _ _ _ => Sh.ok
      split
      · exact Sh.bind (h.word _ i (by intro c hc; simp at hc; omega) hi) fun _ _ _ => Sh.ok
      split
      · exact Sh.bind (h.word _ i (by intro c hc; simp at hc; omega) hi) fun _ _ _ => Sh.ok
      split
      · exact Sh.bind (h.quoted (byteAt_lt (by omega))) fun _ _ _ => Sh.ok
      split
      · have hl : i < a.length := byteAt_lt (by omega)
        unfold listAt
        rw [show k + i + 1 = k + (i + 1) by omega]
        rcases h.blank (i := i + 1) hl with ⟨hb1, hb2⟩ | ⟨hb1, hb2, _⟩
        · rw [hb2]
          have e93 := h.iff (Nat.le_of_lt hb1) (c := 93) (by decide) (by decide) (by decide)
          simp only [e93]
          split
          · exact Sh.ok
          · exact h.list hf _ _ _ [] (by have := h.len; omega) (Nat.le_of_lt hb1) (by omega)
        · rw [hb1, h.zero (Nat.le_refl _), if_neg (by decide), listL_succ]
          have hbl : blanks a a.length = a.length := by unfold blanks; simp
          rw [hbl, hf.end1]
          refine Sh.none fun hE => ?_
          have hbt : blanks t t.length = t.length := by unfold blanks; simp
          rw [hb2 hE, h.tail0, if_neg (by decide), listL_succ, hbt, hf.end2]
          exact ⟨_, rfl, by have := h.len; omega⟩
      split
      · have hl : i < a.length := byteAt_lt (by omega)
        unfold pairsAt
        rw [show k + i + 1 = k + (i + 1) by omega]
        rcases h.blank (i := i + 1) hl with ⟨hb1, hb2⟩ | ⟨hb1, hb2, _⟩
        · rw [hb2]
          have e125 := h.iff (Nat.le_of_lt hb1) (c := 125) (by decide) (by decide) (by decide)
          simp only [e125]
          split
          · exact Sh.ok
          · exact h.pairs hf _ _ _ [] [] (by have := h.len; omega) (Nat.le_of_lt hb1) (by omega)
        · rw [hb1, h.zero (Nat.le_refl _), if_neg (by decide), pairsL_succ]
          have hbl : blanks a a.length = a.length := by unfold blanks; simp
          have hk : ∀ u : List Int, byteAt u u.length = 0 → keyAt u [] u.length = .bad 11 u.length := fun u hu => by
            unfold keyAt
            rw [if_neg (by rw [hu]; decide)]
          rw [hbl, hk a (h.zero (Nat.le_refl _))]
          refine Sh.none fun hE => ?_
          have hbt : blanks t t.length = t.length := by unfold blanks; simp
          rw [hb2 hE, h.tail0, if_neg (by decide), pairsL_succ, hbt, hk t h.tail0]
          exact ⟨_, rfl, by have := h.len; omega⟩
      · exact h.number hi
    · exact Sh.bad (by omega)
end
end Go.Proofs.YtnmhpejnjaeecaaDoor
namespace Go.Proofs.YtnmhpejnjaeecaaDoor
open Go.RowKit

def DeepOk {α : Type} (r r' : Res α) : Prop := ∀ v q, r = .ok v q → r' = .ok v q ∨ ∃ l, r' = .bad 12 l
theorem DeepOk.refl {α : Type} (r : Res α) : DeepOk r r := fun _ _ h => .inl h
theorem DeepOk.bind {α β : Type} {r r' : Res α} {f f' : α → Nat → Res β} (h : DeepOk r r') (hf : ∀ v q, DeepOk (f v q) (f' v q)) : DeepOk (r.bind f) (r'.bind f') := fun v q hv => by
  cases r with
  | bad e l => cases hv
  | ok x p =>
    rcases h x p rfl with rfl | ⟨l, rfl⟩
    · exact hf x p v q hv
    · exact .inr ⟨l, rfl⟩
theorem list_deep {t : List Int} {f f' : Nat → Res J} (hf : ∀ p, DeepOk (f p) (f' p)) : ∀ (m p : Nat) (acc : List J), DeepOk (listL t f m p acc) (listL t f' m p acc)
  | 0, _, _ => DeepOk.refl _
  | m + 1, p, acc => by
    rw [listL_succ, listL_succ]
    refine DeepOk.bind (hf _) fun v q => ?_
    split
    · exact DeepOk.refl _
    · split
      · exact list_deep hf m _ _
      · exact DeepOk.refl _
theorem pairs_deep {t : List Int} {f f' : Nat → Res J} (hf : ∀ p, DeepOk (f p) (f' p)) : ∀ (m p : Nat) (ks : List ByteArray) (acc : List J), DeepOk (pairsL t f m p ks acc) (pairsL t f' m p ks acc)
  | 0, _, _, _ => DeepOk.refl _
  | m + 1, p, ks, acc => by
    rw [pairsL_succ, pairsL_succ]
    refine DeepOk.bind (DeepOk.refl _) fun s q => DeepOk.bind (hf _) fun v r => ?_
    split
    · exact DeepOk.refl _
    · split
      · exact pairs_deep hf m _ _ _
      · exact DeepOk.refl _
/-- One less deep: the same, or too deep. -/
theorem value_deep (t : List Int) : ∀ (d p : Nat), DeepOk (value t (d + 1) p) (value t d p)
  | 0, p => fun v q h => by
    by_cases hb : begins (byteAt t p) = true
    · right
      unfold value
      rw [if_pos hb]
      exact ⟨_, rfl⟩
    · unfold value at h
      rw [if_neg hb] at h
      cases h
  | d + 1, p => by
    have hf := value_deep t d
    rw [value, value]
    split
    · split
      · exact DeepOk.refl _
      split
      · exact DeepOk.refl _
      split
      · exact DeepOk.refl _
      split
      · exact DeepOk.refl _
      split
      · unfold listAt
        split
        · exact DeepOk.refl _
        · exact list_deep hf _ _ _
      split
      · unfold pairsAt
        split
        · exact DeepOk.refl _
        · exact pairs_deep hf _ _ _ _
      · exact DeepOk.refl _
    · exact DeepOk.refl _
theorem pure_fuel {l t r : List Int} {q : Nat} (hd : t.drop q = l ++ r) (hend : Fair t (q + l.length)) : ∀ (m p : Nat), l.length ≤ p + m → p ≤ l.length → Fair l p → Fair t (q + p)
  | 0, p, h1, h2, _ => by
    obtain rfl : p = l.length := by omega
    exact hend
  | m + 1, p, h1, h2, hf => by
    rcases Nat.lt_or_ge p l.length with hp | hp
    · obtain ⟨⟨c, wd⟩, hr⟩ : ∃ x, runeAt l p = x := ⟨_, rfl⟩
      obtain ⟨h0, hf'⟩ := hf.next hp hr
      have hl : p + wd ≤ l.length := by
        by_cases hb : byteAt l p < 128
        · rw [rune_low hb] at hr
          cases hr
          omega
        · have := rune_hi hr hb (wd - 1) (by omega)
          have := byteAt_lt (t := l) (p := p + (wd - 1)) (by omega)
          omega
      refine Fair.step (rune_same hr h0 fun i hi => ?_) h0 (by
        rw [Nat.add_assoc]
        exact pure_fuel hd hend m (p + wd) (by omega) hl hf')
      rw [Nat.add_assoc, byte_at_drop hd (by omega)]
      rfl
    · obtain rfl : p = l.length := by omega
      exact hend
theorem pure_of_stray {l : List Int} (h : stray l = none) : Pure l := fun _ _ _ hd hf => pure_fuel hd hf l.length 0 (by omega) (by omega) (fair_of_stray h)
section
variable {E : Prop} {a t : List Int} {k : Nat}
theorem Within.past (h : Within E a k t) (hE : E) (i : Nat) (hi : a.length ≤ i) : byteAt t (k + i) = 9 ∨ byteAt t (k + i) = 13 ∨ byteAt t (k + i) = 0 := by
  have ht := h.tail hE
  have : byteAt t (k + i) = ([9, 13] : List Int).getD (i - a.length) 0 := by
    unfold byteAt
    rw [← ht, List.getD_eq_getElem?_getD, List.getD_eq_getElem?_getD, List.getElem?_drop, show k + a.length + (i - a.length) = k + i by omega]
  rw [this]
  match i - a.length with
  | 0 => exact .inl rfl
  | 1 => exact .inr (.inl rfl)
  | n + 2 => exact .inr (.inr rfl)
theorem Within.cont (h : Within E a k t) (hE : E) (i : Nat) : byteAt t (k + i) = byteAt a i ∨ (contAt t (k + i) = false ∧ contAt a i = false) := by
  rcases Nat.lt_or_ge i a.length with hl | hl
  · exact .inl (h.at' i hl)
  · right
    unfold contAt
    rw [h.zero hl]
    have := h.past hE i hl
    refine ⟨decide_eq_false (by omega), rfl⟩
theorem Within.rune (h : Within E a k t) (hE : E) {i : Nat} (hi : i < a.length) : runeAt t (k + i) = runeAt a i := by
  have h0 := h.at' i hi
  have h1 := h.cont hE (i + 1)
  have h2 := h.cont hE (i + 2)
  have h3 := h.cont hE (i + 3)
  have c1 : contAt t (k + (i + 1)) = contAt a (i + 1) := by rcases h1 with h1 | ⟨h1, h1'⟩; (· unfold contAt; rw [h1]); (· rw [h1, h1'])
  have c2 : contAt t (k + (i + 2)) = contAt a (i + 2) := by rcases h2 with h1 | ⟨h1, h1'⟩; (· unfold contAt; rw [h1]); (· rw [h1, h1'])
  have c3 : contAt t (k + (i + 3)) = contAt a (i + 3) := by rcases h3 with h1 | ⟨h1, h1'⟩; (· unfold contAt; rw [h1]); (· rw [h1, h1'])
  unfold runeAt
  rw [show k + i + 1 = k + (i + 1) by omega, show k + i + 2 = k + (i + 2) by omega, show k + i + 3 = k + (i + 3) by omega, c1, c2, c3, h0]
  rcases h1 with h1 | ⟨_, h1⟩
  · rw [h1]
    rcases h2 with h2 | ⟨_, h2⟩
    · rw [h2]
      rcases h3 with h3 | ⟨_, h3⟩
      · rw [h3]
      · rw [h3]
        simp
    · rw [h2]
      simp
  · rw [h1]
    simp
theorem Within.stray (h : Within E a k t) (hE : E) : ∀ (m m' p r : Nat), m ≤ m' → strayL a m p = some r → strayL t m' (k + p) = some (k + r)
  | 0, _, _, _, _, hs => by cases hs
  | m + 1, 0, _, _, hm, _ => by omega
  | m + 1, m' + 1, p, r, hm, hs => by
    unfold strayL at hs ⊢
    split at hs
    · rename_i hp
      rw [if_pos (by have := h.len; omega), h.rune hE hp]
      split at hs
      · rename_i h0
        rw [if_pos h0]
        cases hs
        rfl
      · rename_i h0
        rw [if_neg h0, Nat.add_assoc]
        exact Within.stray h hE m m' _ r (by omega) hs
    · cases hs
end
theorem blank_step2 {t : List Int} {p : Nat} (hp : p < t.length) (h : isBlank (byteAt t p) = true) : blanks t p = blanks t (p + 1) := by
  unfold blanks
  have e : t[p] = byteAt t p := by
    unfold byteAt
    rw [List.getD_eq_getElem?_getD, List.getElem?_eq_getElem hp]; rfl
  rw [List.drop_eq_getElem_cons hp, List.takeWhile_cons, e, h]
  simp
  omega
theorem blanks_stop {t : List Int} {p : Nat} (h : isBlank (byteAt t p) = false) : blanks t p = p := by
  rcases Nat.lt_or_ge p t.length with hp | hp
  · unfold blanks
    have e : t[p] = byteAt t p := by
      unfold byteAt
      rw [List.getD_eq_getElem?_getD, List.getElem?_eq_getElem hp]; rfl
    rw [List.drop_eq_getElem_cons hp, List.takeWhile_cons, e, h]
    rfl
  · unfold blanks
    rw [List.drop_eq_nil_of_le hp]
    rfl
theorem blanks_run {t : List Int} : ∀ (n p : Nat), (∀ i, i < n → isBlank (byteAt t (p + i)) = true) → p + n ≤ t.length → blanks t p = blanks t (p + n)
  | 0, _, _, _ => rfl
  | n + 1, p, h, hl => by
    rw [blank_step2 (by omega) (by have := h 0 (by omega); simpa using this), blanks_run n (p + 1) (fun i hi => by have := h (i + 1) (by omega); rwa [show p + (i + 1) = p + 1 + i by omega] at this) (by omega)]
    congr 1
    omega
/-- A text with blanks around it. -/
def padded (a : List Int) : List Int := 32 :: 10 :: (a ++ [9, 13])
theorem padded_in (a : List Int) : Within True a 2 (padded a) := by
  have hd : (padded a).drop (2 + a.length) = [9, 13] := by
    unfold padded
    rw [Nat.add_comm 2, List.drop_succ_cons, List.drop_succ_cons, List.drop_left]
  refine ⟨fun i hi => ?_, .inr (byte_head hd), by unfold padded; simp; omega, fun _ => hd⟩
  unfold padded byteAt
  rw [Nat.add_comm 2, List.getD_eq_getElem?_getD, List.getD_eq_getElem?_getD, List.getElem?_cons_succ, List.getElem?_cons_succ, List.getElem?_append_left hi]
theorem padded_stray {a : List Int} : (stray a = none → stray (padded a) = none) ∧ (∀ p, stray a = some p → stray (padded a) = some (2 + p)) := by
  constructor
  · intro h
    have hp : Pure (padded a) := Pure.cons (by decide) (Pure.cons (by decide) ((pure_of_stray h).app (Pure.ascii (by intro c hc; simp at hc; omega))))
    exact pure_stray hp
  · intro p h
    unfold stray at h ⊢
    have hl : (padded a).length = (a.length + 2) + 1 + 1 := by unfold padded; simp
    have q0 : byteAt (padded a) 0 = 32 := rfl
    have q1 : byteAt (padded a) 1 = 10 := rfl
    have r0 : runeAt (padded a) 0 = (32, 1) := by rw [rune_low (by omega), q0]
    have r1 : runeAt (padded a) 1 = (10, 1) := by rw [rune_low (by omega), q1]
    rw [hl, strayL, if_pos (by omega), r0, if_neg (by decide)]
    show strayL (padded a) (a.length + 2 + 1) 1 = _
    rw [strayL, if_pos (by omega), r1, if_neg (by decide)]
    exact (padded_in a).stray trivial a.length (a.length + 2) 0 p (by omega) h
theorem padded_blanks (a : List Int) : blanks (padded a) 0 = blanks (padded a) 2 := by
  rw [blank_step2 (by unfold padded; simp) (by unfold padded byteAt; rfl), blank_step2 (by unfold padded; simp) (by unfold padded byteAt; rfl)]
theorem whole_padded (a : List Int) : (∀ j q, whole a = .ok j q → ∃ q', whole (padded a) = .ok j q') ∧ (∀ e l, whole a = .bad e l → ∃ l', whole (padded a) = .bad e l' ∧ 2 ≤ l') := by
  have h := padded_in a
  unfold whole
  rw [padded_blanks]
  rcases h.blank (i := 0) (Nat.zero_le _) with ⟨hb1, hb2⟩ | ⟨hb1, hb2, _⟩
  · rw [Nat.add_zero] at hb2
    rw [hb2]
    have hv := h.value 12 (blanks a 0) (Nat.le_of_lt hb1)
    have hadv := value_adv a 12 (blanks a 0) (Nat.le_of_lt hb1)
    cases hvv : value a 12 (blanks a 0) with
    | bad e l =>
      rw [hvv] at hv
      obtain ⟨l', h1, h2⟩ := hv (.inl trivial)
      rw [h1]
      refine ⟨fun j q hh => (by cases hh), fun e' l'' hh => ?_⟩
      cases hh
      exact ⟨l', rfl, h2⟩
    | ok j q =>
      rw [hvv] at hv hadv
      have hv : value (padded a) 12 (2 + blanks a 0) = .ok j (2 + q) := hv
      rw [hv]
      simp only [Res.bind]
      rcases h.blank hadv.2 with ⟨hc1, hc2⟩ | ⟨hc1, hc2, _⟩
      · rw [if_pos hc1, hc2, if_pos (by have := h.len; omega)]
        refine ⟨fun j q hh => (by cases hh), fun e' l'' hh => ?_⟩
        cases hh
        exact ⟨_, rfl, by omega⟩
      · rw [hc1, if_neg (by omega), hc2 trivial, if_neg (by omega)]
        refine ⟨fun j q hh => ?_, fun e' l'' hh => (by cases hh)⟩
        cases hh
        exact ⟨_, rfl⟩
  · rw [Nat.add_zero] at hb2
    rw [hb1, hb2 trivial, value_end (h.zero (Nat.le_refl _)), value_end h.tail0]
    refine ⟨fun j q hh => (by cases hh), fun e' l'' hh => ?_⟩
    cases hh
    exact ⟨_, rfl, by have := h.len; omega⟩
/-- Blanks around a text change nothing but places. -/
theorem decode_padded {a : List Int} (hl : a.length ≤ 8000) : (∀ j q, decode a = .ok j q → ∃ q', decode (padded a) = .ok j q') ∧ (∀ e l, decode a = .bad e l → ∃ l', decode (padded a) = .bad e l' ∧ 2 ≤ l') := by
  unfold decode
  rw [if_neg (by omega), if_neg (by unfold padded; simp; omega)]
  cases hs : stray a with
  | some p =>
    rw [padded_stray.2 p hs]
    refine ⟨fun j q hh => (by cases hh), fun e l hh => ?_⟩
    cases hh
    exact ⟨_, rfl, by omega⟩
  | none =>
    rw [padded_stray.1 hs]
    exact whole_padded a
/-- A list of two texts. -/
def paired (a b : List Int) : List Int := 32 :: 91 :: 32 :: (a ++ (32 :: 44 :: 10 :: (b ++ [32, 93, 32])))
theorem paired_a (a b : List Int) : Within False a 3 (paired a b) := by
  have hd : (paired a b).drop (3 + a.length) = 32 :: 44 :: 10 :: (b ++ [32, 93, 32]) := by
    unfold paired
    rw [Nat.add_comm 3, List.drop_succ_cons, List.drop_succ_cons, List.drop_succ_cons, List.drop_left]
  refine ⟨fun i hi => ?_, .inl (byte_head hd), by unfold paired; simp; omega, fun h => h.elim⟩
  unfold paired byteAt
  rw [Nat.add_comm 3, List.getD_eq_getElem?_getD, List.getD_eq_getElem?_getD, List.getElem?_cons_succ, List.getElem?_cons_succ, List.getElem?_cons_succ, List.getElem?_append_left hi]
theorem paired_mid (a b : List Int) : (paired a b).drop (3 + a.length) = 32 :: 44 :: 10 :: (b ++ [32, 93, 32]) := by
  unfold paired
  rw [Nat.add_comm 3, List.drop_succ_cons, List.drop_succ_cons, List.drop_succ_cons, List.drop_left]
theorem paired_b (a b : List Int) : Within False b (a.length + 6) (paired a b) := by
  have h3 : (paired a b).drop (a.length + 6) = b ++ [32, 93, 32] := by
    rw [show a.length + 6 = 3 + a.length + 3 by omega, ← List.drop_drop, paired_mid]
    rfl
  have hd : (paired a b).drop (a.length + 6 + b.length) = [32, 93, 32] := by
    rw [← List.drop_drop, h3, List.drop_left]
  refine ⟨fun i hi => ?_, .inl (byte_head hd), by unfold paired; simp; omega, fun h => h.elim⟩
  rw [byte_at_drop h3 hi]
  rfl
theorem whole_at {a : List Int} {j : J} {q : Nat} (h : whole a = .ok j q) : ∃ r, value a 12 (blanks a 0) = .ok j r ∧ blanks a 0 < a.length ∧ r ≤ a.length ∧ blanks a r = a.length := by
  unfold whole at h
  have hle := blanks_le (t := a) (Nat.zero_le _)
  have hadv := value_adv a 12 (blanks a 0) hle
  cases hv : value a 12 (blanks a 0) with
  | bad e l => rw [hv] at h; cases h
  | ok v r =>
    rw [hv] at h hadv
    simp only [Res.bind] at h
    split at h
    · cases h
    · rename_i hn
      cases h
      have := hadv.1
      have := hadv.2
      have := blanks_le hadv.2
      exact ⟨r, rfl, by omega, hadv.2, by omega⟩
theorem blanks_all {a : List Int} {r : Nat} (hr : r ≤ a.length) (h : blanks a r = a.length) : ∀ i, i < a.length - r → isBlank (byteAt a (r + i)) = true := fun i hi => take_all i (by unfold blanks at h; omega)
/-- The bytes ahead of a place within. -/
theorem Within.rest {a t : List Int} {k r : Nat} (h : Within False a k t) (hr : r ≤ a.length) (hb : blanks a r = a.length) : blanks t (k + r) = blanks t (k + a.length) := by
  rw [show k + a.length = k + r + (a.length - r) by omega]
  exact blanks_run (a.length - r) (k + r) (fun i hi => by
    rw [Nat.add_assoc, h.at' (r + i) (by omega)]
    exact blanks_all hr hb i hi) (by have := h.len; omega)
theorem Within.front {a t : List Int} {k : Nat} (h : Within False a k t) (hb : blanks a 0 < a.length) : blanks t k = k + blanks a 0 := by
  rcases h.blank (i := 0) (Nat.zero_le _) with ⟨_, h2⟩ | ⟨h1, _⟩
  · simpa using h2
  · omega
theorem begins_ok {t : List Int} {d p q : Nat} {j : J} (h : value t d p = .ok j q) : begins (byteAt t p) = true := by
  cases hb : begins (byteAt t p) with
  | true => rfl
  | false =>
    cases d with
    | zero => unfold value at h; rw [hb, if_neg (by decide)] at h; cases h
    | succ d => unfold value at h; rw [hb, if_neg (by decide)] at h; cases h
theorem begins_not {c : Int} (h : begins c = true) : c ≠ 93 ∧ isBlank c = false := by
  refine ⟨fun e => ?_, ?_⟩
  · subst e; cases h
  · unfold begins isDig at h
    unfold isBlank
    simp only [Bool.or_eq_true, Bool.and_eq_true, decide_eq_true_eq] at h
    simp only [Bool.or_eq_false_iff, decide_eq_false_iff_not]
    omega
theorem whole_paired {a b : List Int} {x y : J} {q r : Nat} (ha : whole a = .ok x q) (hb : whole b = .ok y r) : (∃ q', whole (paired a b) = .ok (.mk 4 0 nix [] [x, y]) q') ∨ ∃ l, whole (paired a b) = .bad 12 l := by
  obtain ⟨ra, va, la, ra1, ra2⟩ := whole_at ha
  obtain ⟨rb, vb, lb, rb1, rb2⟩ := whole_at hb
  have wa := paired_a a b
  have wb := paired_b a b
  generalize ht : paired a b = t at wa wb ⊢
  have hm : t.drop (3 + a.length) = 32 :: 44 :: 10 :: (b ++ [32, 93, 32]) := by rw [← ht]; exact paired_mid a b
  have hlen : t.length = a.length + 6 + b.length + 3 := by rw [← ht]; unfold paired; simp; omega
  have t0 : byteAt t 0 = 32 := by rw [← ht]; rfl
  have t1 : byteAt t 1 = 91 := by rw [← ht]; rfl
  have t2 : byteAt t 2 = 32 := by rw [← ht]; rfl
  have m0 : byteAt t (3 + a.length) = 32 := byte_head hm
  have m1 : byteAt t (3 + a.length + 1) = 44 := byte_head (drop_tail hm)
  have m2 : byteAt t (3 + a.length + 2) = 10 := byte_head (drop_tail (drop_tail hm))
  have hE : t.drop (a.length + 6 + b.length) = [32, 93, 32] := by
    rw [show a.length + 6 + b.length = 3 + a.length + 3 + b.length by omega, ← List.drop_drop, ← List.drop_drop, hm]
    show List.drop b.length (b ++ [32, 93, 32]) = _
    rw [List.drop_left]
  have e0 : byteAt t (a.length + 6 + b.length) = 32 := byte_head hE
  have e1 : byteAt t (a.length + 6 + b.length + 1) = 93 := byte_head (drop_tail hE)
  have e2 : byteAt t (a.length + 6 + b.length + 2) = 32 := byte_head (drop_tail (drop_tail hE))
  have b0 : blanks t 0 = 1 := by
    rw [blank_step2 (by omega) (by rw [t0]; rfl)]
    exact blanks_stop (by rw [t1]; rfl)
  have b2 : blanks t 2 = 3 + blanks a 0 := by
    rw [blank_step2 (by omega) (by rw [t2]; rfl)]
    exact wa.front la
  have bm : ∀ p, p ≤ a.length → blanks a p = a.length → blanks t (3 + p) = 3 + a.length + 1 := fun p hp hbp => by
    rw [wa.rest hp hbp, blank_step2 (by omega) (by rw [m0]; rfl)]
    exact blanks_stop (by rw [m1]; rfl)
  have bn : blanks t (3 + a.length + 1 + 1) = a.length + 6 + blanks b 0 := by
    rw [blank_step2 (by omega) (by rw [m2]; rfl), show 3 + a.length + 1 + 1 + 1 = a.length + 6 by omega]
    exact wb.front lb
  have be : ∀ p, p ≤ b.length → blanks b p = b.length → blanks t (a.length + 6 + p) = a.length + 6 + b.length + 1 := fun p hp hbp => by
    rw [wb.rest hp hbp, blank_step2 (by omega) (by rw [e0]; rfl)]
    exact blanks_stop (by rw [e1]; rfl)
  have bz : blanks t (a.length + 6 + b.length + 1 + 1) = t.length := by
    rw [blank_step2 (by omega) (by rw [e2]; rfl)]
    rw [show a.length + 6 + b.length + 1 + 1 + 1 = t.length by omega]
    unfold blanks
    simp
  have ba : blanks t (3 + blanks a 0) = 3 + blanks a 0 := blanks_stop (by
    rw [wa.at' _ la]
    exact (begins_not (begins_ok va)).2)
  unfold whole
  rw [b0]
  have hval : value t 12 1 = listL t (value t 11) (t.length + 1) (3 + blanks a 0) [] := by
    rw [value, t1, if_pos (by decide), if_neg (by decide), if_neg (by decide), if_neg (by decide), if_neg (by decide), if_pos rfl]
    unfold listAt
    rw [show (1 + 1 : Nat) = 2 from rfl, b2, wa.at' _ la, if_neg (begins_not (begins_ok va)).1]
  rw [hval, listL_succ, ba]
  obtain ⟨m, hfuel⟩ : ∃ m, t.length = m + 1 := ⟨t.length - 1, by omega⟩
  have sa := wa.value 11 (blanks a 0) (Nat.le_of_lt la)
  rcases value_deep a 11 (blanks a 0) x ra va with h1 | ⟨l, h1⟩
  · rw [h1] at sa
    have sa : value t 11 (3 + blanks a 0) = .ok x (3 + ra) := sa
    rw [sa]
    simp only [Res.bind]
    rw [bm ra ra1 ra2, m1, if_neg (by decide), if_pos rfl, hfuel, listL_succ, bn]
    have sb := wb.value 11 (blanks b 0) (Nat.le_of_lt lb)
    rcases value_deep b 11 (blanks b 0) y rb vb with h2 | ⟨l, h2⟩
    · rw [h2] at sb
      have sb : value t 11 (a.length + 6 + blanks b 0) = .ok y (a.length + 6 + rb) := sb
      rw [sb]
      simp only [Res.bind]
      rw [be rb rb1 rb2, e1, if_pos rfl]
      left
      simp only
      rw [bz, if_neg (by omega)]
      exact ⟨_, rfl⟩
    · rw [h2] at sb
      obtain ⟨l', h3, _⟩ := sb (.inr (by decide))
      rw [h3]
      exact .inr ⟨l', rfl⟩
  · rw [h1] at sa
    obtain ⟨l', h3, _⟩ := sa (.inr (by decide))
    rw [h3]
    exact .inr ⟨l', rfl⟩
theorem decode_whole {a : List Int} {j : J} {q : Nat} (h : decode a = .ok j q) : stray a = none ∧ whole a = .ok j q := by
  unfold decode at h
  split at h
  · cases h
  · split at h
    · cases h
    · rename_i hs
      exact ⟨hs, h⟩
theorem decode_paired {a b : List Int} (hl : a.length + b.length ≤ 8000) {x y : J} {q r : Nat} (ha : decode a = .ok x q) (hb : decode b = .ok y r) : (∃ q', decode (paired a b) = .ok (.mk 4 0 nix [] [x, y]) q') ∨ ∃ l, decode (paired a b) = .bad 12 l := by
  obtain ⟨sa, wa⟩ := decode_whole ha
  obtain ⟨sb, wb⟩ := decode_whole hb
  have hs : stray (paired a b) = none := by
    refine pure_stray (Pure.cons (by decide) (Pure.cons (by decide) (Pure.cons (by decide) ((pure_of_stray sa).app (Pure.cons (by decide) (Pure.cons (by decide) (Pure.cons (by decide) ((pure_of_stray sb).app (Pure.ascii ?_)))))))))
    intro c hc; simp at hc; omega
  have hd : decode (paired a b) = whole (paired a b) := by
    unfold decode
    rw [if_neg (by unfold paired; simp; omega), hs]
  rw [hd]
  exact whole_paired wa wb
end Go.Proofs.YtnmhpejnjaeecaaDoor
namespace Go.Proofs.YtnmhpejnjaeecaaDoor
open Go.RowKit

def Nz {α : Type} : Res α → Prop
  | .ok _ _ => True
  | .bad e _ => e ≠ 0
theorem Nz.ok {α : Type} {v : α} {p : Nat} : Nz (.ok v p) := trivial
theorem Nz.bind {α β : Type} {r : Res α} {f : α → Nat → Res β} (h : Nz r) (hf : ∀ v q, Nz (f v q)) : Nz (r.bind f) := by
  cases r with
  | ok v q => exact hf v q
  | bad e l => exact h
theorem nz_must (t : List Int) (c : Int) (p : Nat) : Nz (must t c p) := by
  unfold must
  split
  · exact trivial
  · show (11 : Int) ≠ 0; decide
theorem nz_word (t : List Int) : ∀ (l : List Int) (p : Nat), Nz (word t l p)
  | [], _ => by unfold word; exact trivial
  | c :: l, p => by unfold word; exact (nz_must t c p).bind fun _ q => nz_word t l q
theorem nz_number (t : List Int) (p : Nat) : Nz (number t p) := by
  unfold number
  generalize (if byteAt t p = 45 then p + 1 else p) = q
  split
  · simp only
    generalize (if byteAt t p = 45 then -(digits t q).1 else (digits t q).1) = n
    split
    · show (15 : Int) ≠ 0; decide
    · exact trivial
  · show (11 : Int) ≠ 0; decide
theorem nz_coded (t : List Int) (p : Nat) : Nz (coded t p) := by
  unfold coded
  split
  · show (11 : Int) ≠ 0; decide
  · split
    · exact trivial
    · split
      · show (11 : Int) ≠ 0; decide
      · split
        · show (11 : Int) ≠ 0; decide
        · exact trivial
theorem nz_escape (t : List Int) (p : Nat) : Nz (escape t p) := by
  unfold escape
  simp only
  repeat' split
  all_goals first
    | exact trivial
    | exact nz_coded t p
    | (show (11 : Int) ≠ 0; decide)
theorem nz_quo (t : List Int) : ∀ (m p : Nat) (out : List Int), Nz (quoL t m p out)
  | 0, _, _ => by unfold quoL; show (99 : Int) ≠ 0; decide
  | m + 1, p, out => by
    rw [quoL_succ]
    split
    · exact trivial
    · split
      · exact (nz_escape t p).bind fun l q => nz_quo t m q _
      · split
        · show (11 : Int) ≠ 0; decide
        · exact nz_quo t m _ _
theorem nz_key (t : List Int) (ks : List ByteArray) (p : Nat) : Nz (keyAt t ks p) := by
  unfold keyAt
  split
  · refine (nz_quo t _ _ _).bind fun s q => ?_
    split
    · show (14 : Int) ≠ 0; decide
    · exact (nz_must t 58 _).bind fun _ r => trivial
  · show (11 : Int) ≠ 0; decide
theorem nz_list {t : List Int} {f : Nat → Res J} (hf : ∀ p, Nz (f p)) : ∀ (m p : Nat) (acc : List J), Nz (listL t f m p acc)
  | 0, _, _ => by unfold listL; show (99 : Int) ≠ 0; decide
  | m + 1, p, acc => by
    rw [listL_succ]
    refine (hf _).bind fun v q => ?_
    split
    · exact trivial
    · split
      · exact nz_list hf m _ _
      · show (11 : Int) ≠ 0; decide
theorem nz_pairs {t : List Int} {f : Nat → Res J} (hf : ∀ p, Nz (f p)) : ∀ (m p : Nat) (ks : List ByteArray) (acc : List J), Nz (pairsL t f m p ks acc)
  | 0, _, _, _ => by unfold pairsL; show (99 : Int) ≠ 0; decide
  | m + 1, p, ks, acc => by
    rw [pairsL_succ]
    refine (nz_key t ks _).bind fun s q => (hf _).bind fun v r => ?_
    split
    · exact trivial
    · split
      · exact nz_pairs hf m _ _ _
      · show (11 : Int) ≠ 0; decide
theorem nz_value (t : List Int) : ∀ (d p : Nat), Nz (value t d p)
  | 0, p => by
    unfold value
    split
    · show (12 : Int) ≠ 0; decide
    · show (11 : Int) ≠ 0; decide
  | d + 1, p => by
    have hf := nz_value t d
    unfold value
    split
    · split
      · exact (nz_word t _ p).bind fun _ _ => trivial
      split
      · exact (nz_word t _ p).bind fun _ _ => trivial
      split
      · exact (nz_word t _ p).bind fun _ _ => trivial
      split
      · exact (nz_quo t _ _ _).bind fun _ _ => trivial
      split
      · unfold listAt
        split
        · exact trivial
        · exact nz_list hf _ _ _
      split
      · unfold pairsAt
        split
        · exact trivial
        · exact nz_pairs hf _ _ _ _
      · exact nz_number t p
    · show (11 : Int) ≠ 0; decide
theorem nz_decode {t : List Int} {e : Int} {l : Nat} (h : decode t = .bad e l) : e ≠ 0 := by
  have key : Nz (decode t) := by
    unfold decode
    split
    · show (13 : Int) ≠ 0; decide
    · split
      · show (10 : Int) ≠ 0; decide
      · unfold whole
        refine (nz_value t 12 _).bind fun j q => ?_
        split
        · show (16 : Int) ≠ 0; decide
        · exact trivial
  rw [h] at key
  exact key
theorem stray_lt {t : List Int} : ∀ (m p r : Nat), strayL t m p = some r → r < t.length
  | 0, _, _, h => by cases h
  | m + 1, p, r, h => by
    unfold strayL at h
    split at h
    · rename_i hp
      split at h
      · cases h; exact hp
      · exact stray_lt m _ r h
    · cases h
/-- An error's place is within the bytes. -/
theorem decode_place {t : List Int} {e : Int} {l : Nat} (h : decode t = .bad e l) : l ≤ t.length := by
  unfold decode at h
  split at h
  · cases h; omega
  · split at h
    · rename_i p hp
      cases h
      exact Nat.le_of_lt (stray_lt _ _ _ hp)
    · unfold whole at h
      have hadv := value_adv t 12 (blanks t 0) (blanks_le (Nat.zero_le _))
      cases hv : value t 12 (blanks t 0) with
      | bad e' l' =>
        rw [hv] at h hadv
        cases h
        exact hadv
      | ok v r =>
        rw [hv] at h hadv
        simp only [Res.bind] at h
        split at h
        · cases h
          exact blanks_le hadv.2
        · cases h
end Go.Proofs.YtnmhpejnjaeecaaDoor

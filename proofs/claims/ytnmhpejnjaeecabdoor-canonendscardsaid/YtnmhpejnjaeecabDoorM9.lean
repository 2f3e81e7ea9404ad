/-
  What is decoded is of letters: the texts.
  What is decoded is good, and in order.
-/
import Derived.Test.YtnmhpejnjaeecabDoorM7
namespace Go.Proofs.YtnmhpejnjaeecabDoor
open Go.RowKit

theorem Fair.next {t : List Int} {p wd : Nat} {c : Int} (h : Fair t p) (hp : p < t.length) (hr : runeAt t p = (c, wd)) : wd ≠ 0 ∧ Fair t (p + wd) := by
  have key : ∀ m, (if wd = 0 then some p else strayL t m (p + wd)) = none := fun m => by
    have := h (m + 1)
    unfold strayL at this
    rw [if_pos hp, hr] at this
    exact this
  have h0 : wd ≠ 0 := fun e => by
    have := key 0
    rw [if_pos e] at this
    cases this
  refine ⟨h0, fun m => ?_⟩
  have := key m
  rw [if_neg h0] at this
  exact this
theorem fair_fuel {t : List Int} : ∀ (m p : Nat), t.length ≤ p + m → strayL t m p = none → Fair t p
  | 0, p, h, _ => Fair.end (by omega)
  | m + 1, p, h, hs => by
    by_cases hp : p < t.length
    · obtain ⟨⟨c, wd⟩, hr⟩ : ∃ r, runeAt t p = r := ⟨_, rfl⟩
      unfold strayL at hs
      rw [if_pos hp, hr] at hs
      simp only at hs
      by_cases h0 : wd = 0
      · rw [if_pos h0] at hs; cases hs
      · rw [if_neg h0] at hs
        exact Fair.step hr h0 (fair_fuel m (p + wd) (by omega) hs)
    · exact Fair.end (by omega)
theorem fair_of_stray {t : List Int} (h : stray t = none) : Fair t 0 := fair_fuel t.length 0 (by omega) h
theorem Fair.one {t : List Int} {p : Nat} (h : Fair t p) (hb : byteAt t p < 128) : Fair t (p + 1) := by
  by_cases hp : p < t.length
  · exact (h.next hp (rune_low hb)).2
  · exact Fair.end (by omega)
theorem Fair.run {t : List Int} : ∀ (n p : Nat), Fair t p → (∀ i, i < n → byteAt t (p + i) < 128) → Fair t (p + n)
  | 0, _, h, _ => h
  | n + 1, p, h, hb => by
    have h1 := Fair.run n (p + 1) (h.one (hb 0 (by omega))) fun i hi => by
      have := hb (i + 1) (by omega)
      rwa [show p + (i + 1) = p + 1 + i by omega] at this
    rwa [show p + 1 + n = p + (n + 1) by omega] at h1
theorem take_all {t : List Int} {p : Nat} {f : Int → Bool} : ∀ i, i < ((t.drop p).takeWhile f).length → f (byteAt t (p + i)) = true := fun i hi => by
  have hm : ((t.drop p).takeWhile f)[i] ∈ (t.drop p).takeWhile f := List.getElem_mem hi
  have h1 := List.all_eq_true.1 (List.all_takeWhile (l := t.drop p) (p := f)) _ hm
  have h2 : ((t.drop p).takeWhile f)[i]? = (t.drop p)[i]? := by
    have hpre : (t.drop p).takeWhile f <+: t.drop p := List.takeWhile_prefix f
    obtain ⟨r, hr⟩ := hpre
    conv => rhs; rw [← hr]
    rw [List.getElem?_append_left hi]
  have h3 : byteAt t (p + i) = ((t.drop p).takeWhile f)[i] := by
    unfold byteAt
    rw [List.getD_eq_getElem?_getD, ← List.getElem?_drop, ← h2, List.getElem?_eq_getElem hi]
    rfl
  rw [h3]
  exact h1
theorem Fair.blanks {t : List Int} {p : Nat} (h : Fair t p) : Fair t (blanks t p) := by
  unfold Go.Proofs.YtnmhpejnjaeecabDoor.blanks
  refine Fair.run _ p h fun i hi => ?_
  have := take_all (f := isBlank) i hi
  unfold isBlank at this
  simp only [Bool.or_eq_true, decide_eq_true_eq] at this
  omega
theorem Fair.digs {t : List Int} {p : Nat} (h : Fair t p) : Fair t (p + ((t.drop p).takeWhile isDig).length) := by
  refine Fair.run _ p h fun i hi => ?_
  have := take_all (f := isDig) i hi
  unfold isDig at this
  simp only [Bool.and_eq_true, decide_eq_true_eq] at this
  omega
theorem must_fair {t : List Int} {c : Int} {p q : Nat} {u : Unit} (h : Fair t p) (hc : c < 128) (hm : must t c p = .ok u q) : Fair t q := by
  unfold must at hm
  split at hm
  · rename_i hb
    cases hm
    exact h.one (by omega)
  · cases hm
theorem word_fair {t : List Int} : ∀ (l : List Int) (p q : Nat) (u : Unit), Fair t p → (∀ c ∈ l, c < 128) → word t l p = .ok u q → Fair t q
  | [], p, q, u, h, _, hw => by
    unfold word at hw
    cases hw
    exact h
  | c :: l, p, q, u, h, hc, hw => by
    unfold word at hw
    cases hm : must t c p with
    | bad e a => rw [hm] at hw; cases hw
    | ok v r =>
      rw [hm] at hw
      exact word_fair l r q u (must_fair h (hc c (by simp)) hm) (fun x hx => hc x (by simp [hx])) hw
theorem hex_low {c d : Int} (h : hexDig c = some d) : c < 128 := by
  unfold hexDig isDig at h
  split at h
  · rename_i h1; simp only [Bool.and_eq_true, decide_eq_true_eq] at h1; omega
  · split at h
    · omega
    · split at h
      · omega
      · cases h
theorem hexL_low (t : List Int) (i : Nat) : ∀ m k n x, k ≤ x → x < (hexL t i m k n).2 → byteAt t (i + x) < 128
  | 0, k, n, x, h0, h1 => by unfold hexL at h1; simp only at h1; omega
  | m + 1, k, n, x, h0, h1 => by
    unfold hexL at h1
    split at h1
    · simp only at h1; omega
    · rename_i d hd
      by_cases hx : x = k
      · subst hx; exact hex_low hd
      · exact hexL_low t i m (k + 1) _ x (by omega) h1
theorem hex_fair {t : List Int} {p : Nat} (h : Fair t p) (h4 : (hexAt t p).2 = 4) : Fair t (p + 4) := by
  refine Fair.run 4 p h fun i hi => hexL_low t p 4 0 0 i (by omega) ?_
  unfold hexAt at h4
  omega
theorem escape_fair {t : List Int} {p q : Nat} {l : Int} (h : Fair t p) (hp : byteAt t p = 92) (he : escape t p = .ok l q) : Fair t q := by
  have h1 : Fair t (p + 1) := h.one (by omega)
  have two : byteAt t (p + 1) < 128 → Fair t (p + 2) := fun hb => h1.one hb
  unfold escape at he
  simp only at he
  split at he
  · cases he; exact two (by omega)
  split at he
  · cases he; exact two (by omega)
  split at he
  · cases he; exact two (by omega)
  split at he
  · cases he; exact two (by omega)
  split at he
  · cases he; exact two (by omega)
  split at he
  · cases he; exact two (by omega)
  split at he
  · have h2 := two (by omega)
    unfold coded at he
    have hle := (hexL_le t (p + 2) 4 0 0).2.1
    split at he
    · cases he
    · rename_i hn
      have h6 : Fair t (p + 6) := hex_fair h2 (by unfold hexAt at hn ⊢; omega)
      split at he
      · cases he; exact h6
      · split at he
        · cases he
        · split at he
          · cases he
          · rename_i v hv
            cases he
            unfold lowAt at hv
            split at hv
            · rename_i hc
              split at hv
              · rename_i hk
                exact hex_fair (p := p + 8) ((h6.one (by omega)).one (by omega)) hk.1
              · cases hv
            · cases hv
  · cases he
/-- The bytes of a letter of a text. -/
theorem pure_rune {t : List Int} {p wd : Nat} {c : Int} (hr : runeAt t p = (c, wd)) (h0 : wd ≠ 0) (hl : p + wd ≤ t.length) : Pure ((t.drop p).take wd) := fun t' r q hd hf => by
  have hlen : ((t.drop p).take wd).length = wd := by simp; omega
  rw [hlen] at hf
  refine Fair.step (rune_same hr h0 fun i hi => ?_) h0 hf
  rw [byte_at_drop hd (by omega)]
  unfold byteAt
  rw [List.getD_eq_getElem?_getD, List.getElem?_take, if_pos hi, List.getElem?_drop, ← List.getD_eq_getElem?_getD]
theorem pure_enc_rune (r : Int) : Pure (Lib.encodeRuneZ r) := fun t r' q hd hf => by
  have g : ∀ i, i < (Lib.encodeRuneZ r).length → byteAt t (q + i) = (Lib.encodeRuneZ r).getD i 0 := fun i hi => byte_at_drop hd hi
  by_cases h1 : 0 ≤ r ∧ r ≤ 127
  · rw [Lib.encodeRuneZ_one h1.1 h1.2] at g hf
    have g0 := g 0 (by simp)
    simp at g0
    exact Fair.step (c := r) (wd := 1) (by rw [rune_low (by omega), g0]) (by decide) hf
  · by_cases h2 : 128 ≤ r ∧ r ≤ 2047
    · rw [Lib.encodeRuneZ_two h2.1 h2.2] at g hf
      have g0 := g 0 (by simp)
      have g1 := g 1 (by simp)
      simp at g0 g1
      refine Fair.step (c := r) (wd := 2) ?_ (by decide) hf
      unfold runeAt contAt
      rw [g0, g1, if_neg (by omega), if_pos (by simp only [Bool.and_eq_true, decide_eq_true_eq]; omega), if_pos (by omega)]
      simp only [Prod.mk.injEq, and_true]
      omega
    · by_cases h3 : (2048 ≤ r ∧ r < 55296) ∨ (57343 < r ∧ r ≤ 65535)
      · rw [Lib.encodeRuneZ_three h3] at g hf
        have g0 := g 0 (by simp)
        have g1 := g 1 (by simp)
        have g2 := g 2 (by simp)
        simp at g0 g1 g2
        refine Fair.step (c := r) (wd := 3) ?_ (by decide) hf
        unfold runeAt contAt
        have e : (224 + r / 4096) % 16 * 4096 + (128 + r / 64 % 64) % 64 * 64 + (128 + r % 64) % 64 = r := by omega
        rw [g0, g1, g2, e, if_neg (by omega), if_neg (by simp only [Bool.and_eq_true, decide_eq_true_eq]; omega), if_pos (by simp only [Bool.and_eq_true, decide_eq_true_eq]; omega), if_pos (by
          unfold letterOk
          simp only [Bool.and_eq_true, Bool.or_eq_true, decide_eq_true_eq]; omega)]
      · by_cases h4 : 65536 ≤ r ∧ r ≤ 1114111
        · rw [Lib.encodeRuneZ_four h4.1 h4.2] at g hf
          have g0 := g 0 (by simp)
          have g1 := g 1 (by simp)
          have g2 := g 2 (by simp)
          have g3 := g 3 (by simp)
          simp at g0 g1 g2 g3
          refine Fair.step (c := r) (wd := 4) ?_ (by decide) hf
          unfold runeAt contAt
          have e : (240 + r / 262144) % 8 * 262144 + (128 + r / 4096 % 64) % 64 * 4096 + (128 + r / 64 % 64) % 64 * 64 + (128 + r % 64) % 64 = r := by omega
          rw [g0, g1, g2, g3, e, if_neg (by omega), if_neg (by simp only [Bool.and_eq_true, decide_eq_true_eq]; omega), if_neg (by simp only [Bool.and_eq_true, decide_eq_true_eq]; omega), if_pos (by simp only [Bool.and_eq_true, decide_eq_true_eq]; omega), if_pos (by
            unfold letterOk
            simp only [Bool.and_eq_true, Bool.or_eq_true, decide_eq_true_eq]; omega)]
        · rw [Lib.encodeRuneZ_bad (by omega)] at g hf
          have g0 := g 0 (by simp)
          have g1 := g 1 (by simp)
          have g2 := g 2 (by simp)
          simp at g0 g1 g2
          exact Fair.step (rune_fffd t q g0 g1 g2) (by decide) hf
theorem quo_skip {t : List Int} : ∀ (wd m p : Nat) (out : List Int), (∀ i, i < wd → 128 ≤ byteAt t (p + i)) → quoL t (m + wd) p out = quoL t m (p + wd) (out ++ (t.drop p).take wd)
  | 0, m, p, out, _ => by simp
  | wd + 1, m, p, out, h => by
    have h0 := h 0 (by omega)
    rw [Nat.add_zero] at h0
    have hp : p < t.length := byteAt_lt (by omega)
    rw [show m + (wd + 1) = (m + wd) + 1 by omega, quoL_succ, if_neg (by omega), if_neg (by omega), if_neg (by omega), quo_skip wd m (p + 1) _ fun i hi => by
      have := h (i + 1) (by omega)
      rwa [show p + (i + 1) = p + 1 + i by omega] at this]
    have e : t.drop p = byteAt t p :: t.drop (p + 1) := by
      rw [List.drop_eq_getElem_cons hp]
      unfold byteAt
      rw [List.getD_eq_getElem?_getD, List.getElem?_eq_getElem hp]; rfl
    rw [e, List.take_succ_cons, List.append_assoc, List.singleton_append, show p + 1 + wd = p + (wd + 1) by omega]
theorem quo_short {t : List Int} : ∀ (m p : Nat) (out : List Int), (∀ i, i < m → 128 ≤ byteAt t (p + i)) → quoL t m p out = .bad 99 0
  | 0, _, _, _ => rfl
  | m + 1, p, out, h => by
    have h0 := h 0 (by omega)
    rw [Nat.add_zero] at h0
    rw [quoL_succ, if_neg (by omega), if_neg (by omega), if_neg (by omega)]
    exact quo_short m (p + 1) _ fun i hi => by
      have := h (i + 1) (by omega)
      rwa [show p + (i + 1) = p + 1 + i by omega] at this
theorem quo_pure {t : List Int} (N : Nat) : ∀ (m p : Nat) (out s : List Int) (q : Nat), m ≤ N → Fair t p → Pure out → quoL t m p out = .ok s q → Pure s ∧ Fair t q ∧ s.length ≤ out.length + 4 * m := by
  induction N with
  | zero =>
    intro m p out s q hm _ _ h
    obtain rfl : m = 0 := by omega
    unfold quoL at h
    cases h
  | succ N ih =>
    intro m p out s q hm hf ho h
    cases m with
    | zero => unfold quoL at h; cases h
    | succ m =>
      by_cases hb : byteAt t p < 128
      · rw [quoL_succ] at h
        split at h
        · cases h
          exact ⟨ho, hf.one hb, by omega⟩
        · split at h
          · rename_i _ h92
            cases he : escape t p with
            | bad e a => rw [he] at h; cases h
            | ok l r =>
              rw [he] at h
              obtain ⟨h1, h2, h3⟩ := ih m r _ s q (by omega) (escape_fair hf h92 he) (ho.app (pure_enc_rune l)) h
              refine ⟨h1, h2, ?_⟩
              have := (Lib.encodeRuneZ_length l).2
              rw [List.length_append] at h3
              omega
          · split at h
            · cases h
            · have hge : 0 ≤ byteAt t p := by omega
              obtain ⟨h1, h2, h3⟩ := ih m (p + 1) _ s q (by omega) (hf.one hb) (ho.app (Pure.one ⟨hge, hb⟩)) h
              refine ⟨h1, h2, ?_⟩
              rw [List.length_append] at h3
              simp at h3
              omega
      · have hp : p < t.length := byteAt_lt (by omega)
        obtain ⟨⟨c, wd⟩, hr⟩ : ∃ r, runeAt t p = r := ⟨_, rfl⟩
        obtain ⟨h0, hf'⟩ := hf.next hp hr
        have hhi := rune_hi hr hb
        by_cases hw : wd ≤ m + 1
        · have hl : p + wd ≤ t.length := by
            have := hhi (wd - 1) (by omega)
            have := byteAt_lt (t := t) (p := p + (wd - 1)) (by omega)
            omega
          rw [show m + 1 = (m + 1 - wd) + wd by omega, quo_skip wd _ p out hhi] at h
          obtain ⟨h1, h2, h3⟩ := ih (m + 1 - wd) (p + wd) _ s q (by omega) hf' (ho.app (pure_rune hr h0 hl)) h
          refine ⟨h1, h2, ?_⟩
          rw [List.length_append, List.length_take, List.length_drop] at h3
          omega
        · rw [quo_short (m + 1) p out fun i hi => hhi i (by omega)] at h
          cases h
theorem quoted_pure {t s : List Int} {p q : Nat} (hf : Fair t p) (hb : byteAt t p = 34) (h : quoted t p = .ok s q) : Pure s ∧ Fair t q ∧ s.length ≤ 4 * (t.length + 1) := by
  unfold quoted at h
  have := quo_pure (t := t) (t.length + 1) (t.length + 1) (p + 1) [] s q (Nat.le_refl _) (hf.one (by omega)) Pure.nil h
  simpa using this
theorem pure_stray {l : List Int} (h : Pure l) : stray l = none := by
  have := h l [] 0 (by simp) (Fair.end (by omega))
  exact this l.length
theorem quoL_bytes {t : List Int} (hb : Bytes t) : ∀ (m p : Nat) (out s : List Int) (q : Nat), Bytes out → quoL t m p out = .ok s q → Bytes s
  | 0, _, _, _, _, _, h => by unfold quoL at h; cases h
  | m + 1, p, out, s, q, ho, h => by
    rw [quoL_succ] at h
    split at h
    · cases h; exact ho
    · split at h
      · cases he : escape t p with
        | bad e a => rw [he] at h; cases h
        | ok l r =>
          rw [he] at h
          exact quoL_bytes hb m r _ s q (ho.app fun c hc => by have := Lib.encodeRuneZ_byte l c hc; omega) h
      · split at h
        · cases h
        · refine quoL_bytes hb m (p + 1) _ s q (ho.app (Bytes.cons ?_ Bytes.nil)) h
          unfold byteAt
          rw [List.getD_eq_getElem?_getD]
          cases hx : t[p]? with
          | none => exact ⟨by decide, by decide⟩
          | some x => exact hb x (List.mem_of_getElem? hx)
theorem quoted_letters {t s : List Int} {p q : Nat} (ht : Bytes t) (hf : Fair t p) (hb : byteAt t p = 34) (h : quoted t p = .ok s q) : letters (strOfNums s) = true ∧ Fair t q ∧ (strOfNums s).size ≤ 4 * (t.length + 1) := by
  obtain ⟨h1, h2, h3⟩ := quoted_pure hf hb h
  refine ⟨?_, h2, by rw [str_size]; exact h3⟩
  unfold letters
  rw [ints_str s (quoL_bytes ht _ _ _ _ _ Bytes.nil h), pure_stray h1]
  rfl
end Go.Proofs.YtnmhpejnjaeecabDoor
namespace Go.Proofs.YtnmhpejnjaeecabDoor
open Go.RowKit

theorem map_good {d : Nat} {ks : List ByteArray} {l : List J} (hlen : ks.length = l.length) (hlet : ks.all letters = true) (hp : ks.Pairwise (· ≠ ·)) (hl : l.all (goodJ d) = true) : goodJ (d + 1) (mapOf ks l) = true := by
  have pk := sorted_keys hlen
  have pv := sorted_vals hlen
  unfold mapOf
  rw [goodJ]
  have e1 : ((sortK (ks.zip l)).map (·.1)).all letters = true := by
    rw [List.all_eq_true] at hlet ⊢
    exact fun x hx => hlet x (pk.mem_iff.1 hx)
  have e2 : noKeyTwice ((sortK (ks.zip l)).map (·.1)) = true := pair_noTwice (pk.symm.pairwise hp fun {_ _} h => h.symm)
  have e3 : ((sortK (ks.zip l)).map (·.2)).all (goodJ d) = true := by
    rw [List.all_eq_true] at hl ⊢
    exact fun x hx => hl x (pv.mem_iff.1 hx)
  rw [e1, e2, e3]
  simp [bare, nix, ByteArray.size]
theorem map_inOrd {ks : List ByteArray} {l : List J} (hlen : ks.length = l.length) (hp : ks.Pairwise (· ≠ ·)) (hl : ∀ x ∈ l, inOrd x = true) : inOrd (mapOf ks l) = true := by
  have pv := sorted_vals hlen
  unfold mapOf
  rw [inOrd, Bool.and_eq_true, inOrdL_all]
  refine ⟨sortK_rises' _ ?_, fun x hx => hl x (pv.mem_iff.1 hx)⟩
  have : ((ks.zip l).map (·.1)).Pairwise (· ≠ ·) := by rw [List.map_fst_zip (by omega)]; exact hp
  exact List.pairwise_map.1 this
theorem map_sz {d : Nat} {ks : List ByteArray} {l : List J} (hlen : ks.length = l.length) (hks : ks.all (fun k => decide (k.size ≤ 1000000000)) = true) (hl : l.all (szJ d) = true) (hn : l.length ≤ 100000) : szJ (d + 1) (mapOf ks l) = true := by
  have pk := sorted_keys hlen
  have pv := sorted_vals hlen
  unfold mapOf szJ
  have e1 : ((sortK (ks.zip l)).map (·.1)).all (fun k => decide (k.size ≤ 1000000000)) = true := by
    rw [List.all_eq_true] at hks ⊢
    exact fun x hx => hks x (pk.mem_iff.1 hx)
  have e3 : ((sortK (ks.zip l)).map (·.2)).all (szJ d) = true := by
    rw [List.all_eq_true] at hl ⊢
    exact fun x hx => hl x (pv.mem_iff.1 hx)
  rw [e1, e3, pk.length_eq, pv.length_eq, decide_eq_true hn, decide_eq_true (by omega : ks.length ≤ 100000)]
  rfl
/-- A value is as it should be. -/
def Fit (d : Nat) (j : J) : Prop := goodJ d j = true ∧ inOrd j = true ∧ szJ d j = true
theorem Fit.list {d : Nat} {l : List J} (h : ∀ x ∈ l, Fit d x) (hn : l.length ≤ 100000) : Fit (d + 1) (.mk 4 0 nix [] l) := by
  refine ⟨?_, ?_, ?_⟩
  · rw [goodJ]
    have : l.all (goodJ d) = true := List.all_eq_true.2 fun x hx => (h x hx).1
    rw [this]
    simp [bare, nix, ByteArray.size]
  · rw [inOrd, Bool.and_eq_true, inOrdL_all]
    exact ⟨rfl, fun x hx => (h x hx).2.1⟩
  · unfold szJ
    have : l.all (szJ d) = true := List.all_eq_true.2 fun x hx => (h x hx).2.2
    rw [this, decide_eq_true hn]
    rfl
theorem Fit.map {d : Nat} {ks : List ByteArray} {l : List J} (hlen : ks.length = l.length) (hk : ∀ k ∈ ks, letters k = true ∧ k.size ≤ 1000000000) (hp : ks.Pairwise (· ≠ ·)) (h : ∀ x ∈ l, Fit d x) (hn : l.length ≤ 100000) : Fit (d + 1) (mapOf ks l) :=
  ⟨map_good hlen (List.all_eq_true.2 fun k hk' => (hk k hk').1) hp (List.all_eq_true.2 fun x hx => (h x hx).1), map_inOrd hlen hp fun x hx => (h x hx).2.1,
   map_sz hlen (List.all_eq_true.2 fun k hk' => decide_eq_true (hk k hk').2) (List.all_eq_true.2 fun x hx => (h x hx).2.2) hn⟩
theorem list_fit {t : List Int} {d : Nat} {f : Nat → Res J} (hf : ∀ p j q, Fair t p → f p = .ok j q → Fit d j ∧ Fair t q) :
    ∀ (m p : Nat) (acc : List J) (j : J) (q : Nat), Fair t p → (∀ x ∈ acc, Fit d x) → acc.length + m ≤ 100000 → listL t f m p acc = .ok j q → Fit (d + 1) j ∧ Fair t q
  | 0, _, _, _, _, _, _, _, h => by unfold listL at h; cases h
  | m + 1, p, acc, j, q, hp, ha, hn, h => by
    rw [listL_succ] at h
    cases hv : f (blanks t p) with
    | bad e a => rw [hv] at h; cases h
    | ok v r =>
      rw [hv] at h
      obtain ⟨hF, hr⟩ := hf _ v r hp.blanks hv
      have hr' := hr.blanks
      have ha' : ∀ x ∈ acc ++ [v], Fit d x := fun x hx => by
        rcases List.mem_append.1 hx with hx | hx
        · exact ha x hx
        · rw [List.mem_singleton.1 hx]; exact hF
      simp only [Res.bind] at h
      split at h
      · rename_i h93
        cases h
        exact ⟨Fit.list ha' (by simp; omega), hr'.one (by omega)⟩
      · split at h
        · exact list_fit hf m _ (acc ++ [v]) j q (hr'.one (by omega)) ha' (by simp; omega) h
        · cases h
theorem key_fit {t : List Int} (ht : Bytes t) (htl : t.length ≤ 20000) {ks : List ByteArray} {p q : Nat} {k : ByteArray} (hp : Fair t p) (h : keyAt t ks p = .ok k q) : letters k = true ∧ k.size ≤ 1000000000 ∧ (∀ x ∈ ks, x ≠ k) ∧ Fair t q := by
  unfold keyAt at h
  split at h
  · rename_i hb
    cases hq : quoted t p with
    | bad e a => rw [hq] at h; cases h
    | ok s r =>
      rw [hq] at h
      obtain ⟨h1, h2, h3⟩ := quoted_letters ht hp hb hq
      simp only [Res.bind] at h
      split at h
      · cases h
      · rename_i hany
        cases hm : must t 58 (blanks t r) with
        | bad e a => rw [hm] at h; cases h
        | ok u r2 =>
          rw [hm] at h
          cases h
          refine ⟨h1, by omega, fun x hx hxk => hany ?_, (must_fair h2.blanks (by omega) hm).blanks⟩
          exact List.any_eq_true.2 ⟨x, hx, decide_eq_true (by rw [hxk])⟩
  · cases h
theorem pairs_fit {t : List Int} (ht : Bytes t) (htl : t.length ≤ 20000) {d : Nat} {f : Nat → Res J} (hf : ∀ p j q, Fair t p → f p = .ok j q → Fit d j ∧ Fair t q) :
    ∀ (m p : Nat) (ks : List ByteArray) (acc : List J) (j : J) (q : Nat), Fair t p → ks.length = acc.length → (∀ k ∈ ks, letters k = true ∧ k.size ≤ 1000000000) → ks.Pairwise (· ≠ ·) → (∀ x ∈ acc, Fit d x) → acc.length + m ≤ 100000 → pairsL t f m p ks acc = .ok j q → Fit (d + 1) j ∧ Fair t q
  | 0, _, _, _, _, _, _, _, _, _, _, _, h => by unfold pairsL at h; cases h
  | m + 1, p, ks, acc, j, q, hp, hlen, hk, hd, ha, hn, h => by
    rw [pairsL_succ] at h
    cases hkey : keyAt t ks (blanks t p) with
    | bad e a => rw [hkey] at h; cases h
    | ok k r0 =>
      rw [hkey] at h
      obtain ⟨k1, k2, k3, k4⟩ := key_fit ht htl hp.blanks hkey
      simp only [Res.bind] at h
      cases hv : f r0 with
      | bad e a => rw [hv] at h; cases h
      | ok v r =>
        rw [hv] at h
        obtain ⟨hF, hr⟩ := hf _ v r k4 hv
        have hr' := hr.blanks
        have ha' : ∀ x ∈ acc ++ [v], Fit d x := fun x hx => by
          rcases List.mem_append.1 hx with hx | hx
          · exact ha x hx
          · rw [List.mem_singleton.1 hx]; exact hF
        have hk' : ∀ x ∈ ks ++ [k], letters x = true ∧ x.size ≤ 1000000000 := fun x hx => by
          rcases List.mem_append.1 hx with hx | hx
          · exact hk x hx
          · rw [List.mem_singleton.1 hx]; exact ⟨k1, k2⟩
        have hd' : (ks ++ [k]).Pairwise (· ≠ ·) := by
          rw [List.pairwise_append]
          exact ⟨hd, List.pairwise_singleton _ _, fun x hx y hy => by rw [List.mem_singleton.1 hy]; exact k3 x hx⟩
        have hlen' : (ks ++ [k]).length = (acc ++ [v]).length := by simp; exact hlen
        simp only at h
        split at h
        · cases h
          exact ⟨Fit.map hlen' hk' hd' ha' (by simp; omega), hr'.one (by omega)⟩
        · split at h
          · exact pairs_fit ht htl hf m _ (ks ++ [k]) (acc ++ [v]) j q (hr'.one (by omega)) hlen' hk' hd' ha' (by simp; omega) h
          · cases h
theorem sz_flat (d : Nat) (k i : Int) : szJ (d + 1) (.mk k i nix [] []) = true := by
  unfold szJ
  rw [decide_eq_true (show nix.size ≤ 1000000000 by decide)]
  rfl
theorem digs_ge : ∀ (l : List Int) (n : Int), 0 ≤ n → (∀ c ∈ l, isDig c = true) → 0 ≤ l.foldl (fun n c => if n ≤ maxInt then n * 10 + (c - 48) else n) n
  | [], n, h, _ => h
  | c :: l, n, h, hl => by
    rw [List.foldl_cons]
    refine digs_ge l _ ?_ fun x hx => hl x (List.mem_cons_of_mem _ hx)
    have := hl c (List.mem_cons_self ..)
    unfold isDig at this
    simp only [Bool.and_eq_true, decide_eq_true_eq] at this
    split
    · omega
    · exact h
theorem number_fit {t : List Int} {p q : Nat} {j : J} (d : Nat) (hp : Fair t p) (h : number t p = .ok j q) : Fit (d + 1) j ∧ Fair t q := by
  unfold number at h
  have hs : Fair t (if byteAt t p = 45 then p + 1 else p) := by
    split
    · exact hp.one (by omega)
    · exact hp
  generalize hsd : (if byteAt t p = 45 then p + 1 else p) = s at h hs
  split at h
  · rename_i hdig
    simp only at h
    split at h
    · cases h
    · rename_i hno
      cases h
      have hge : 0 ≤ (digits t s).1 := by
        unfold digits
        split
        · exact Int.le_refl _
        · refine digs_ge _ 0 (Int.le_refl _) fun c hc => ?_
          exact List.all_eq_true.1 List.all_takeWhile c hc
      have hfa : Fair t (digits t s).2 := by
        unfold digits
        split
        · exact hs.one (by omega)
        · exact hs.digs
      have hm : -maxInt ≤ (if byteAt t p = 45 then -(digits t s).1 else (digits t s).1) ∧ (if byteAt t p = 45 then -(digits t s).1 else (digits t s).1) ≤ maxInt := by
        unfold maxInt at hno ⊢
        split <;> omega
      refine ⟨⟨?_, rfl, sz_flat d _ _⟩, hfa⟩
      generalize (if byteAt t p = 45 then -(digits t s).1 else (digits t s).1) = n at hm
      rw [goodJ, if_neg (by decide), if_neg (by decide), if_pos rfl, decide_eq_true hm.1, decide_eq_true hm.2]
      simp [bare, nix, ByteArray.size]
  · cases h
theorem flat_fit (d : Nat) (k i : Int) (h : k = 0 ∧ i = 0 ∨ k = 1 ∧ (i = 0 ∨ i = 1)) : Fit (d + 1) (.mk k i nix [] []) := by
  refine ⟨?_, rfl, sz_flat d k i⟩
  rw [goodJ]
  rcases h with ⟨rfl, rfl⟩ | ⟨rfl, rfl | rfl⟩ <;> simp [bare, nix, ByteArray.size]
theorem value_fit {t : List Int} (ht : Bytes t) (htl : t.length ≤ 20000) : ∀ (d p : Nat) (j : J) (q : Nat), Fair t p → value t d p = .ok j q → Fit d j ∧ Fair t q
  | 0, p, j, q, _, h => by
    unfold value at h
    split at h <;> cases h
  | d + 1, p, j, q, hp, h => by
    have hf := fun p' j' q' => value_fit ht htl d p' j' q'
    unfold value at h
    split at h
    · split at h
      · cases hw : word t [110, 117, 108, 108] p with
        | bad e a => rw [hw] at h; cases h
        | ok u r => rw [hw] at h; cases h; exact ⟨flat_fit d 0 0 (.inl ⟨rfl, rfl⟩), word_fair _ _ _ u hp (by intro c hc; simp at hc; omega) hw⟩
      split at h
      · cases hw : word t [116, 114, 117, 101] p with
        | bad e a => rw [hw] at h; cases h
        | ok u r => rw [hw] at h; cases h; exact ⟨flat_fit d 1 1 (.inr ⟨rfl, .inr rfl⟩), word_fair _ _ _ u hp (by intro c hc; simp at hc; omega) hw⟩
      split at h
      · cases hw : word t [102, 97, 108, 115, 101] p with
        | bad e a => rw [hw] at h; cases h
        | ok u r => rw [hw] at h; cases h; exact ⟨flat_fit d 1 0 (.inr ⟨rfl, .inl rfl⟩), word_fair _ _ _ u hp (by intro c hc; simp at hc; omega) hw⟩
      split at h
      · rename_i hb
        cases hq : quoted t p with
        | bad e a => rw [hq] at h; cases h
        | ok s r =>
          rw [hq] at h
          cases h
          obtain ⟨h1, h2, h3⟩ := quoted_letters ht hp hb hq
          refine ⟨⟨?_, rfl, ?_⟩, h2⟩
          · rw [goodJ, if_neg (by decide), if_neg (by decide), if_neg (by decide), if_pos rfl, h1]
            simp [bare]
          · unfold szJ
            rw [decide_eq_true (by omega : (strOfNums s).size ≤ 1000000000)]
            rfl
      split at h
      · unfold listAt at h
        have h1 : Fair t (blanks t (p + 1)) := (hp.one (by omega)).blanks
        split at h
        · cases h
          exact ⟨Fit.list (by simp) (by simp), h1.one (by omega)⟩
        · exact list_fit hf _ _ [] j q h1 (by simp) (by simp; omega) h
      split at h
      · unfold pairsAt at h
        have h1 : Fair t (blanks t (p + 1)) := (hp.one (by omega)).blanks
        split at h
        · cases h
          have := Fit.map (d := d) (ks := []) (l := []) rfl (by simp) List.Pairwise.nil (by simp) (by simp)
          exact ⟨this, h1.one (by omega)⟩
        · exact pairs_fit ht htl hf _ _ [] [] j q h1 rfl (by simp) List.Pairwise.nil (by simp) (by simp; omega) h
      · exact number_fit d hp h
    · cases h
/-- What is decoded is good, in order, and nothing in it is too long. -/
theorem decode_fit {t : List Int} (ht : Bytes t) {j : J} {q : Nat} (h : decode t = .ok j q) : Fit 12 j := by
  unfold decode at h
  split at h
  · cases h
  · rename_i hlen
    split at h
    · cases h
    · rename_i hs
      unfold whole at h
      cases hv : value t 12 (blanks t 0) with
      | bad e a => rw [hv] at h; cases h
      | ok v r =>
        rw [hv] at h
        simp only [Res.bind] at h
        split at h
        · cases h
        · cases h
          exact (value_fit ht (by omega) 12 _ _ _ (fair_of_stray hs).blanks hv).1
theorem decode_ord {t : List Int} (ht : Bytes t) {j : J} {q : Nat} (h : decode t = .ok j q) : ord j = j := by
  obtain ⟨h1, h2, _⟩ := decode_fit ht h
  exact ord_same 12 j h1 h2
end Go.Proofs.YtnmhpejnjaeecabDoor

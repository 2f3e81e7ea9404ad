/-
  A text written, by a contract.
  Lists and pairs written, by contracts: given how a value within them is written.
  A value written, by a contract: to the depth that may be.
  What makes a value good, by contracts: letters, and what a kind does not have.
  Keys that are good, by a contract.
  Whether all values of a list are good, by a contract: given how one is told good.
-/
import Derived.Test.YtalmghbkdelaoaaP04
import Derived.Lib.OthersKept
import Derived.Lib.AppendIntMem
import Derived.Lib.ItoaLen
set_option maxRecDepth 100000
set_option maxHeartbeats 64000000
namespace Go.Proofs.Ytalmghbkdelaoaa
open Go.RowKit
theorem drop_two {t : List Int} {p : Nat} (h : p + 1 < t.length) : (t.drop p).take 2 = [byteAt t p, byteAt t (p + 1)] := by
  unfold byteAt
  rw [List.drop_eq_getElem_cons (by omega), List.drop_eq_getElem_cons (i := p + 1) (by omega)]
  simp only [List.take_succ_cons, List.take_zero, Option.getD_some, List.getD_eq_getElem?_getD, List.getElem?_eq_getElem (show p < t.length by omega), List.getElem?_eq_getElem h]
theorem drop_three {t : List Int} {p : Nat} (h : p + 2 < t.length) : (t.drop p).take 3 = [byteAt t p, byteAt t (p + 1), byteAt t (p + 2)] := by
  unfold byteAt
  rw [List.drop_eq_getElem_cons (by omega), List.drop_eq_getElem_cons (i := p + 1) (by omega), List.drop_eq_getElem_cons (i := p + 1 + 1) (by omega)]
  simp only [List.take_succ_cons, List.take_zero, Option.getD_some, List.getD_eq_getElem?_getD, List.getElem?_eq_getElem (show p < t.length by omega), List.getElem?_eq_getElem (show p + 1 < t.length by omega), List.getElem?_eq_getElem h]
theorem drop_four {t : List Int} {p : Nat} (h : p + 3 < t.length) : (t.drop p).take 4 = [byteAt t p, byteAt t (p + 1), byteAt t (p + 2), byteAt t (p + 3)] := by
  unfold byteAt
  rw [List.drop_eq_getElem_cons (by omega), List.drop_eq_getElem_cons (i := p + 1) (by omega), List.drop_eq_getElem_cons (i := p + 1 + 1) (by omega), List.drop_eq_getElem_cons (i := p + 1 + 1 + 1) (by omega)]
  simp only [List.take_succ_cons, List.take_zero, Option.getD_some, List.getD_eq_getElem?_getD, List.getElem?_eq_getElem (show p < t.length by omega), List.getElem?_eq_getElem (show p + 1 < t.length by omega), List.getElem?_eq_getElem (show p + 2 < t.length by omega), List.getElem?_eq_getElem h]
theorem esc_high (l : List Int) (h : ∀ c ∈ l, 128 ≤ c) : l.flatMap escByte = l := by
  induction l with
  | nil => rfl
  | cons a r ih =>
    have ha := h a (List.mem_cons_self ..)
    rw [List.flatMap_cons, ih fun c hc => h c (List.mem_cons_of_mem _ hc)]
    have : escByte a = [a] := by
      unfold escByte
      rw [if_neg (by omega), if_neg (by omega), if_neg (by omega), if_neg (by omega), if_neg (by omega), if_neg (by omega), if_neg (by omega), if_neg (by omega)]
    rw [this]; rfl
theorem cont_lt {t : List Int} {i : Nat} (h : contAt t i = true) : i < t.length ∧ byteAt t i / 64 = 2 := by
  unfold contAt at h
  have h := of_decide_eq_true h
  exact ⟨byteAt_lt (fun e => by rw [e] at h; exact absurd h (by decide)), h⟩
/-- The bytes of a letter, and how they stand in a text. -/
theorem rune_esc {t : List Int} {p : Nat} {c : Int} {wd : Nat} (hb : ∀ i, 0 ≤ byteAt t i ∧ byteAt t i ≤ 255) (hp : p < t.length) (hr : runeAt t p = (c, wd)) (h0 : wd ≠ 0) :
    ((t.drop p).take wd).flatMap escByte = escRune c ∧ p + wd ≤ t.length ∧ 0 ≤ c ∧ c ≤ 1114111 := by
  have b0 := hb p
  have b1 := hb (p + 1)
  have b2 := hb (p + 2)
  have b3 := hb (p + 3)
  unfold runeAt at hr
  split at hr
  · rename_i h1
    obtain ⟨rfl, rfl⟩ := Prod.mk.inj hr
    refine ⟨?_, by omega, by omega, by omega⟩
    have e : (t.drop p).take 1 = [byteAt t p] := by
      unfold byteAt
      rw [List.drop_eq_getElem_cons hp]
      simp only [List.take_succ_cons, List.take_zero, Option.getD_some, List.getD_eq_getElem?_getD, List.getElem?_eq_getElem hp]
    rw [e]
    unfold escRune
    rw [if_pos h1]
    simp
  · split at hr
    · rename_i h1 h2
      simp only [Bool.and_eq_true, decide_eq_true_eq] at h2
      obtain ⟨l1, c1⟩ := cont_lt h2.2
      split at hr
      · rename_i h3
        obtain ⟨rfl, rfl⟩ := Prod.mk.inj hr
        refine ⟨?_, by omega, by omega, by omega⟩
        rw [drop_two l1, esc_high _ (by intro c hc; simp at hc; omega)]
        unfold escRune
        rw [if_neg (by omega), Lib.encodeRuneZ_two (by omega) (by omega)]
        simp only [List.cons.injEq, and_true]
        omega
      · obtain ⟨_, rfl⟩ := Prod.mk.inj hr
        exact absurd rfl h0
    · split at hr
      · rename_i h1 h2 h3
        simp only [Bool.and_eq_true, decide_eq_true_eq] at h3
        obtain ⟨l1, c1⟩ := cont_lt h3.1.2
        obtain ⟨l2, c2⟩ := cont_lt h3.2
        split at hr
        · rename_i h4
          simp only [letterOk, Bool.and_eq_true, Bool.or_eq_true, decide_eq_true_eq] at h4
          obtain ⟨rfl, rfl⟩ := Prod.mk.inj hr
          refine ⟨?_, by omega, by omega, by omega⟩
          rw [drop_three l2, esc_high _ (by intro c hc; simp at hc; omega)]
          unfold escRune
          rw [if_neg (by omega), Lib.encodeRuneZ_three (by omega)]
          simp only [List.cons.injEq, and_true]
          omega
        · obtain ⟨_, rfl⟩ := Prod.mk.inj hr
          exact absurd rfl h0
      · split at hr
        · rename_i h1 h2 h3 h4
          simp only [Bool.and_eq_true, decide_eq_true_eq] at h4
          obtain ⟨l1, c1⟩ := cont_lt h4.1.1.2
          obtain ⟨l2, c2⟩ := cont_lt h4.1.2
          obtain ⟨l3, c3⟩ := cont_lt h4.2
          split at hr
          · rename_i h5
            simp only [letterOk, Bool.and_eq_true, Bool.or_eq_true, decide_eq_true_eq] at h5
            obtain ⟨rfl, rfl⟩ := Prod.mk.inj hr
            refine ⟨?_, by omega, by omega, by omega⟩
            rw [drop_four l3, esc_high _ (by intro c hc; simp at hc; omega)]
            unfold escRune
            rw [if_neg (by omega), Lib.encodeRuneZ_four (by omega) (by omega)]
            simp only [List.cons.injEq, and_true]
            omega
          · obtain ⟨_, rfl⟩ := Prod.mk.inj hr
            exact absurd rfl h0
        · obtain ⟨_, rfl⟩ := Prod.mk.inj hr
          exact absurd rfl h0
theorem isJ_shape {O : Nat → Prop} {w : World} {j : J} {cs : List Value} (h : isJ O w j cs) : ∃ k i t pk nk ck pl nl cl, cs = [.int .i64 k, .int .i64 i, .string t, .slice pk nk ck, .slice pl nl cl] := by
  cases j
  unfold isJ at h
  obtain ⟨pk, ck, pl, cl, e, _⟩ := h
  exact ⟨_, _, _, _, _, _, _, _, _, e⟩
theorem take_snoc {l : List J} {k : Nat} (h : k < l.length) : l.take (k + 1) = l.take k ++ [l.getD k J.zero] := by
  rw [List.take_add_one, List.getElem?_eq_getElem h, List.getD_eq_getElem?_getD, List.getElem?_eq_getElem h]
  rfl
theorem letters_any (s : ByteArray) (w : World) (hs : s.size ≤ 1000000000) : Calls Try.prog 55 #[.string s] w fun x w' => x = .returned (.bool (letters s)) ∧ Below w.heap.size w w' := by
  have sa := stray_any s w hs
  cases hst : stray (ints s) with
  | none =>
    have HL : Hid (letters s = true) := by show letters s = true; unfold letters; rw [hst]; rfl
    rw [hst] at sa
    go_enter Try.func55, Try.ntmps55
    go_wp2_with (go_at_call 66; refine sa.mono ?_; rintro x w1 ⟨rfl, pos, rfl⟩)
    go_ret
    exact ⟨ret_bool HL.out.symm, (Below.refl _ _).alloc (Nat.le_refl _) _⟩
  | some p =>
    have HL : Hid (letters s = false) := by show letters s = false; unfold letters; rw [hst]; rfl
    rw [hst] at sa
    go_enter Try.func55, Try.ntmps55
    go_wp2_with (go_at_call 66; refine sa.mono ?_; rintro x w1 ⟨rfl, pos, rfl⟩)
    go_ret
    exact ⟨ret_bool HL.out.symm, (Below.refl _ _).alloc (Nat.le_refl _) _⟩
theorem nil_str {t : ByteArray} : (t.toList == []) = decide (t.size = 0) := by
  rw [Lib.toList_data, Bool.eq_iff_iff]
  simp only [beq_iff_eq, decide_eq_true_eq]
  constructor
  · intro h
    show t.data.size = 0
    rw [← Array.length_toList, h]; rfl
  · intro h
    exact List.eq_nil_of_length_eq_zero (by rw [Array.length_toList]; exact h)
/-- Whether all that a kind does not have is zero. -/
def bareB (k i : Int) (t : ByteArray) (nk nl : Nat) : Bool := (decide (i = 0) || decide (k = 1) || decide (k = 2)) && (decide (t.size = 0) || decide (k = 3)) && (decide (nk = 0) || decide (k = 5)) && (decide (nl = 0) || decide (k = 4) || decide (k = 5))
theorem bare_any (k i : Int) (t : ByteArray) (pk pl : Option Addr) (nk ck nl cl : Nat) (w : World) :
    Calls Try.prog 54 #[.agg #[.int .i64 k, .int .i64 i, .string t, .slice pk nk ck, .slice pl nl cl]] w fun x w' => x = .returned (.bool (bareB k i t nk nl)) ∧ Below w.heap.size w w' := by
  have hn := nil_str (t := t)
  by_cases h1 : i = 0
  · subst h1
    by_cases h2 : t.size = 0
    · rw [decide_eq_true h2] at hn
      by_cases h3 : nk = 0
      · subst h3
        by_cases h4 : nl = 0
        · subst h4
          have HB : Hid (bareB k 0 t 0 0 = true) := by show _ = _; unfold bareB; simp [*]
          go_enter Try.func54, Try.ntmps54
          go_wp2
          go_ret
          refine ⟨ret_bool ?_, (Below.refl _ _).alloc (Nat.le_refl _) _⟩
          first | exact HB.out.symm | (rw [HB.out]; simp; omega)
        · skip
          by_cases a1 : k = 4
          · subst a1
            have HB : Hid (bareB 4 0 t 0 nl = true) := by show _ = _; unfold bareB; simp [*]
            go_enter Try.func54, Try.ntmps54
            go_wp2
            go_ret
            refine ⟨ret_bool ?_, (Below.refl _ _).alloc (Nat.le_refl _) _⟩
            first | exact HB.out.symm | (rw [HB.out]; simp; omega)
          · skip
            by_cases a2 : k = 5
            · subst a2
              have HB : Hid (bareB 5 0 t 0 nl = true) := by show _ = _; unfold bareB; simp [*]
              go_enter Try.func54, Try.ntmps54
              go_wp2
              go_ret
              refine ⟨ret_bool ?_, (Below.refl _ _).alloc (Nat.le_refl _) _⟩
              first | exact HB.out.symm | (rw [HB.out]; simp; omega)
            · skip
              have HB : Hid (bareB k 0 t 0 nl = false) := by show _ = _; unfold bareB; simp [*]
              go_enter Try.func54, Try.ntmps54
              go_wp2
              go_ret
              refine ⟨ret_bool ?_, (Below.refl _ _).alloc (Nat.le_refl _) _⟩
              first | exact HB.out.symm | (rw [HB.out]; simp; omega)
      · have h3p : 0 < nk := by omega
        by_cases a3 : k = 5
        · subst a3
          by_cases h4 : nl = 0
          · subst h4
            have HB : Hid (bareB 5 0 t nk 0 = true) := by show _ = _; unfold bareB; simp [*]
            go_enter Try.func54, Try.ntmps54
            go_wp2
            go_ret
            refine ⟨ret_bool ?_, (Below.refl _ _).alloc (Nat.le_refl _) _⟩
            first | exact HB.out.symm | (rw [HB.out]; simp; omega)
          · skip
            have HB : Hid (bareB 5 0 t nk nl = true) := by show _ = _; unfold bareB; simp [*]
            go_enter Try.func54, Try.ntmps54
            go_wp2
            go_ret
            refine ⟨ret_bool ?_, (Below.refl _ _).alloc (Nat.le_refl _) _⟩
            first | exact HB.out.symm | (rw [HB.out]; simp; omega)
        · skip
          have HB : Hid (bareB k 0 t nk nl = false) := by show _ = _; unfold bareB; simp [*]
          go_enter Try.func54, Try.ntmps54
          go_wp2
          go_ret
          refine ⟨ret_bool ?_, (Below.refl _ _).alloc (Nat.le_refl _) _⟩
          first | exact HB.out.symm | (rw [HB.out]; simp; omega)
    · rw [decide_eq_false h2] at hn
      by_cases a4 : k = 3
      · subst a4
        by_cases h3 : nk = 0
        · subst h3
          by_cases h4 : nl = 0
          · subst h4
            have HB : Hid (bareB 3 0 t 0 0 = true) := by show _ = _; unfold bareB; simp [*]
            go_enter Try.func54, Try.ntmps54
            go_wp2
            go_ret
            refine ⟨ret_bool ?_, (Below.refl _ _).alloc (Nat.le_refl _) _⟩
            first | exact HB.out.symm | (rw [HB.out]; simp; omega)
          · skip
            have HB : Hid (bareB 3 0 t 0 nl = false) := by show _ = _; unfold bareB; simp [*]
            go_enter Try.func54, Try.ntmps54
            go_wp2
            go_ret
            refine ⟨ret_bool ?_, (Below.refl _ _).alloc (Nat.le_refl _) _⟩
            first | exact HB.out.symm | (rw [HB.out]; simp; omega)
        · have h3p : 0 < nk := by omega
          have HB : Hid (bareB 3 0 t nk nl = false) := by show _ = _; unfold bareB; simp [*]
          go_enter Try.func54, Try.ntmps54
          go_wp2
          go_ret
          refine ⟨ret_bool ?_, (Below.refl _ _).alloc (Nat.le_refl _) _⟩
          first | exact HB.out.symm | (rw [HB.out]; simp; omega)
      · skip
        have HB : Hid (bareB k 0 t nk nl = false) := by show _ = _; unfold bareB; simp [*]
        go_enter Try.func54, Try.ntmps54
        go_wp2
        go_ret
        refine ⟨ret_bool ?_, (Below.refl _ _).alloc (Nat.le_refl _) _⟩
        first | exact HB.out.symm | (rw [HB.out]; simp; omega)
  · skip
    by_cases a5 : k = 1
    · subst a5
      by_cases h2 : t.size = 0
      · rw [decide_eq_true h2] at hn
        by_cases h3 : nk = 0
        · subst h3
          by_cases h4 : nl = 0
          · subst h4
            have HB : Hid (bareB 1 i t 0 0 = true) := by show _ = _; unfold bareB; simp [*]
            go_enter Try.func54, Try.ntmps54
            go_wp2
            go_ret
            refine ⟨ret_bool ?_, (Below.refl _ _).alloc (Nat.le_refl _) _⟩
            first | exact HB.out.symm | (rw [HB.out]; simp; omega)
          · skip
            have HB : Hid (bareB 1 i t 0 nl = false) := by show _ = _; unfold bareB; simp [*]
            go_enter Try.func54, Try.ntmps54
            go_wp2
            go_ret
            refine ⟨ret_bool ?_, (Below.refl _ _).alloc (Nat.le_refl _) _⟩
            first | exact HB.out.symm | (rw [HB.out]; simp; omega)
        · have h3p : 0 < nk := by omega
          have HB : Hid (bareB 1 i t nk nl = false) := by show _ = _; unfold bareB; simp [*]
          go_enter Try.func54, Try.ntmps54
          go_wp2
          go_ret
          refine ⟨ret_bool ?_, (Below.refl _ _).alloc (Nat.le_refl _) _⟩
          first | exact HB.out.symm | (rw [HB.out]; simp; omega)
      · rw [decide_eq_false h2] at hn
        have HB : Hid (bareB 1 i t nk nl = false) := by show _ = _; unfold bareB; simp [*]
        go_enter Try.func54, Try.ntmps54
        go_wp2
        go_ret
        refine ⟨ret_bool ?_, (Below.refl _ _).alloc (Nat.le_refl _) _⟩
        first | exact HB.out.symm | (rw [HB.out]; simp; omega)
    · skip
      by_cases a6 : k = 2
      · subst a6
        by_cases h2 : t.size = 0
        · rw [decide_eq_true h2] at hn
          by_cases h3 : nk = 0
          · subst h3
            by_cases h4 : nl = 0
            · subst h4
              have HB : Hid (bareB 2 i t 0 0 = true) := by show _ = _; unfold bareB; simp [*]
              go_enter Try.func54, Try.ntmps54
              go_wp2
              go_ret
              refine ⟨ret_bool ?_, (Below.refl _ _).alloc (Nat.le_refl _) _⟩
              first | exact HB.out.symm | (rw [HB.out]; simp; omega)
            · skip
              have HB : Hid (bareB 2 i t 0 nl = false) := by show _ = _; unfold bareB; simp [*]
              go_enter Try.func54, Try.ntmps54
              go_wp2
              go_ret
              refine ⟨ret_bool ?_, (Below.refl _ _).alloc (Nat.le_refl _) _⟩
              first | exact HB.out.symm | (rw [HB.out]; simp; omega)
          · have h3p : 0 < nk := by omega
            have HB : Hid (bareB 2 i t nk nl = false) := by show _ = _; unfold bareB; simp [*]
            go_enter Try.func54, Try.ntmps54
            go_wp2
            go_ret
            refine ⟨ret_bool ?_, (Below.refl _ _).alloc (Nat.le_refl _) _⟩
            first | exact HB.out.symm | (rw [HB.out]; simp; omega)
        · rw [decide_eq_false h2] at hn
          have HB : Hid (bareB 2 i t nk nl = false) := by show _ = _; unfold bareB; simp [*]
          go_enter Try.func54, Try.ntmps54
          go_wp2
          go_ret
          refine ⟨ret_bool ?_, (Below.refl _ _).alloc (Nat.le_refl _) _⟩
          first | exact HB.out.symm | (rw [HB.out]; simp; omega)
      · skip
        have b1 : (i != 0) = true := by simp [h1]
        have b2 : (k != 1) = true := by simp [*]
        have b3 : (k != 2) = true := by simp [*]
        have HB : Hid (bareB k i t nk nl = false) := by show _ = _; unfold bareB; simp [*]
        go_enter Try.func54, Try.ntmps54
        go_wp2
        go_ret
        refine ⟨ret_bool ?_, (Below.refl _ _).alloc (Nat.le_refl _) _⟩
        first | exact HB.out.symm | (rw [HB.out]; simp; omega)
/-- Keys that are good. -/
def goodK (ks : List ByteArray) : Bool := ks.all letters && noKeyTwice ks
section
variable {w : World} {g : Nat} {L : List Nat} {ks : List ByteArray}
theorem places_len (hP : Places w g L ks) : L.length = ks.length := by rw [hP.1.length_eq]; simp
theorem places_lt (hP : Places w g L ks) {i : Nat} (hi : i < L.length) : L.getD i 0 < ks.length := by
  have := hP.1.subset (List.getElem_mem hi)
  rw [List.getD_eq_getElem?_getD, List.getElem?_eq_getElem hi]
  simpa using this
theorem places_find (hP : Places w g L ks) {n : Nat} (hn : n < ks.length) : ∃ i, i < L.length ∧ L.getD i 0 = n := by
  have : n ∈ L := hP.1.mem_iff.2 (by simpa using hn)
  obtain ⟨i, hi, e⟩ := List.getElem_of_mem this
  exact ⟨i, hi, by rw [List.getD_eq_getElem?_getD, List.getElem?_eq_getElem hi]; exact e⟩
theorem places_ne (hP : Places w g L ks) {i j : Nat} (hi : i < L.length) (hj : j < L.length) (hij : i ≠ j) : L.getD i 0 ≠ L.getD j 0 := by
  have hnd : L.Nodup := hP.1.nodup_iff.2 List.nodup_range
  rw [List.getD_eq_getElem?_getD, List.getElem?_eq_getElem hi, List.getD_eq_getElem?_getD, List.getElem?_eq_getElem hj]
  simp only [Option.getD_some]
  rcases Nat.lt_or_gt_of_ne hij with h | h
  · exact List.pairwise_iff_getElem.1 hnd i j hi hj h
  · exact fun e => List.pairwise_iff_getElem.1 hnd j i hj hi h e.symm
theorem keyAtK_at {n : Nat} (hn : n < ks.length) : keyAtK ks n = ks[n] := by
  unfold keyAtK
  rw [List.getD_eq_getElem?_getD, List.getElem?_eq_getElem hn]; rfl
/-- The keys at the places up to m are good, and no neighbours are the same. -/
def Fine (L : List Nat) (ks : List ByteArray) (m : Nat) : Prop := ∀ i, i < m → letters (keyAtK ks (L.getD i 0)) = true ∧ (0 < i → keyAtK ks (L.getD (i - 1) 0) ≠ keyAtK ks (L.getD i 0))
theorem goodK_true (hP : Places w g L ks) (h : Fine L ks L.length) : goodK ks = true := by
  unfold goodK
  rw [Bool.and_eq_true]
  constructor
  · rw [List.all_eq_true]
    intro k hk
    obtain ⟨n, hn, rfl⟩ := List.getElem_of_mem hk
    obtain ⟨i, hi, e⟩ := places_find hP hn
    have := (h i hi).1
    rw [e, keyAtK_at hn] at this
    exact this
  · apply pair_noTwice
    rw [List.pairwise_iff_getElem]
    intro n m hn hm hnm e
    obtain ⟨i, hi, ei⟩ := places_find hP hn
    obtain ⟨j, hj, ej⟩ := places_find hP hm
    have key : ∀ a b, a < b → b < L.length → keyAtK ks (L.getD a 0) = keyAtK ks (L.getD b 0) → False := by
      intro a b hab hb hk
      have h1 := hP.2.1 (b - 1) b (by omega) hb
      have h2 : ltK (keyAtK ks (L.getD (b - 1) 0)) (keyAtK ks (L.getD a 0)) = false := by
        by_cases ha : a = b - 1
        · subst ha; exact ltK_irrefl _
        · exact hP.2.1 a (b - 1) (by omega) (by omega)
      have hne := (h b hb).2 (by omega)
      rcases ltK_total hne with h' | h'
      · rw [hk, h'] at h2; cases h2
      · rw [h'] at h1; cases h1
    have he : keyAtK ks (L.getD i 0) = keyAtK ks (L.getD j 0) := by rw [ei, ej, keyAtK_at hn, keyAtK_at hm]; exact e
    rcases Nat.lt_trichotomy i j with h' | h' | h'
    · exact key i j h' hj he
    · subst h'; omega
    · exact key j i h' hi he.symm
theorem goodK_letters (hP : Places w g L ks) {i : Nat} (hi : i < L.length) (h : letters (keyAtK ks (L.getD i 0)) = false) : goodK ks = false := by
  have hn := places_lt hP hi
  rw [keyAtK_at hn] at h
  cases hg : goodK ks with
  | false => rfl
  | true =>
    unfold goodK at hg
    rw [Bool.and_eq_true, List.all_eq_true] at hg
    rw [hg.1 _ (List.getElem_mem hn)] at h
    cases h
theorem goodK_twice (hP : Places w g L ks) {i : Nat} (hi : i < L.length) (h0 : 0 < i) (h : keyAtK ks (L.getD (i - 1) 0) = keyAtK ks (L.getD i 0)) : goodK ks = false := by
  have hn := places_lt hP hi
  have hm := places_lt hP (i := i - 1) (by omega)
  have hne := places_ne hP (i := i - 1) (by omega) hi (by omega)
  rw [keyAtK_at hn, keyAtK_at hm] at h
  cases hg : goodK ks with
  | false => rfl
  | true =>
    unfold goodK at hg
    rw [Bool.and_eq_true] at hg
    have hp := List.pairwise_iff_getElem.1 (noTwice_pair hg.2)
    rcases Nat.lt_or_gt_of_ne hne with h' | h'
    · exact absurd h (hp _ _ hm hn h')
    · exact absurd h.symm (hp _ _ hn hm h')
end
theorem Places.keep {w w' : World} {g : Nat} {L : List Nat} {ks : List ByteArray} (h : Places w g L ks) (e : w'.heap[g]? = w.heap[g]?) : Places w' g L ks :=
  ⟨h.1, h.2.1, fun j hj => (World.cell?_of_block (a := ⟨g, j, none⟩) e).trans (h.2.2 j hj)⟩
theorem Fine.step {L : List Nat} {ks : List ByteArray} {m : Nat} (h : Fine L ks m) (h1 : letters (keyAtK ks (L.getD m 0)) = true) (h2 : 0 < m → keyAtK ks (L.getD (m - 1) 0) ≠ keyAtK ks (L.getD m 0)) : Fine L ks (m + 1) := by
  intro i hi
  by_cases e : i = m
  · subst e; exact ⟨h1, h2⟩
  · exact h i (by omega)
theorem toList_inj {a b : ByteArray} (h : a.toList = b.toList) : a = b := by
  rw [Lib.toList_data, Lib.toList_data] at h
  cases a; cases b
  exact congrArg ByteArray.mk (Array.toList_inj.1 h)
theorem goodKeys_any {O : Nat → Prop} {ks : List ByteArray} {p : Option Addr} {c : Nat} {w : World} (hrd : RdK O w p c ks) (hO : ∀ k, O k → k < w.heap.size) (hl : ks.length ≤ 100000) (hkz : ∀ k ∈ ks, k.size ≤ 1000000000) :
    Calls Try.prog 57 #[.slice p ks.length c] w fun x w' => x = .returned (.bool (goodK ks)) ∧ Below w.heap.size w w' := by
  have hri := rising_any hrd hO (by omega)
  obtain ⟨n, hn⟩ : ∃ n, ks.length = n := ⟨_, rfl⟩
  have HN : Hid (ks.length = n) := hn
  rw [hn] at hri hl ⊢
  go_enter Try.func57, Try.ntmps57
  go_wp2_with (go_at_call 58; refine hri.mono ?_; rintro x w1 ⟨g, L, rfl, hP, hg0, hg1, hb1⟩)
  clear hri hn
  have HLL : Hid (L.length = n) := (places_len hP).trans HN.out
  have hsz1 := hb1.size
  go_loopw [10] (fun i wr => ∃ k : Nat, i = .int .i64 k ∧ k ≤ n ∧ Fine L ks k ∧ Below w1.heap.size w1 wr) (fun i _ => n - (intOf i).toNat)
  case atStart => exact ⟨0, rfl, Nat.zero_le _, fun i hi => absurd hi (by omega), Below.refl _ _⟩
  case round =>
    obtain ⟨k, rfl, hk, hF, hbr⟩ := hrel
    have HF : Hid (Fine L ks k) := hF
    clear hF
    have hPr := hP.keep (hbr.block g hg1)
    by_cases hkn : k < n
    · have hkL : k < L.length := by rw [HLL.out]; exact hkn
      have hkc : (k : Int) < (n : Int) := by omega
      have gc := hPr.2.2 k hkL
      have hat := places_lt hPr hkL
      obtain ⟨a, ha⟩ : ∃ a, L.getD k 0 = a := ⟨_, rfl⟩
      have HA : Hid (L.getD k 0 = a) := ha
      rw [ha] at gc hat
      obtain ⟨ad, hpe, hOa, hkey⟩ := hrd.2 a hat
      have hcK : ∀ (x : Nat), x < ks.length → ∀ W : World, Below w1.heap.size w1 W → W.cell? (ad.add x) = some (.string (keyAtK ks x)) := by
        intro x hx W hW
        obtain ⟨ad', hpe', hOa', hkey'⟩ := hrd.2 x hx
        rw [hpe] at hpe'
        cases hpe'
        have e1 := hO _ hOa'
        exact (World.cell?_of_block (by rw [add_block]; exact (hW.block _ (by omega)).trans (hb1.block _ e1))).trans hkey'
      subst hpe
      have hca : a < n := by rw [← HN.out]; exact hat
      have hcap : n ≤ c := by have := hrd.1; rw [HN.out] at this; exact this
      have haI : (a : Int) < (n : Int) := by omega
      have hla := letters_any (keyAtK ks a)
      have hza : (keyAtK ks a).size ≤ 1000000000 := by rw [keyAtK_at hat]; exact hkz _ (List.getElem_mem hat)
      have hCA := fun W hW => hcK a hat W hW
      obtain ⟨key, hkeyE⟩ : ∃ key, keyAtK ks a = key := ⟨_, rfl⟩
      have HKE : Hid (keyAtK ks a = key) := hkeyE
      rw [hkeyE] at hla hza hCA
      have HLA := fun W => hla W hza
      have HCK : Hid (∀ (x : Nat), x < ks.length → ∀ W : World, Below w1.heap.size w1 W → W.cell? (ad.add x) = some (.string (keyAtK ks x))) := hcK
      clear hkey hla ha hkeyE hcK
      have hcs : letters key = true ∨ letters key = false := by cases letters key <;> simp
      rcases hcs with hlk | hlk
      · rw [hlk] at HLA
        cases k with
        | zero =>
          go_wp2
          have hC0 : Below w1.heap.size w1 wr.drew := ⟨hbr.os, hbr.tape, hbr.output, hbr.size, hbr.block⟩
          refine wp_region_in (by kernel_rfl) (fun W => Below w1.heap.size w1 W) ?_
          change wpIn _ _ _ _ _ _ _ _ (World.drew _)
          refine wpIn_take (i := 0) (d := (some 15)) (v := ?vqz0) (a' := ?aqz0) rfl rfl (by kernel_rfl) (by kernel_rfl) (by kernel_rfl) (fun _ _ _ h => h) (Or.inl ⟨by rfl, ?yqz0⟩) ?fqz0 ?_
          case yqz0 => (intro wq hq; go_simp; first | done | with_reducible rfl)
          case fqz0 => (go_frame; rfl)
          refine wpIn_take (i := 1) (d := (some 16)) (v := ?vqz1) (a' := ?aqz1) rfl rfl (by kernel_rfl) (by kernel_rfl) (by kernel_rfl) (fun _ _ _ h => h) (Or.inl ⟨by rfl, ?yqz1⟩) ?fqz1 ?_
          case yqz1 => (intro wq hq; go_simp; first | done | with_reducible rfl)
          case fqz1 => (go_frame; rfl)
          refine wpIn_take (i := 2) (d := (some 17)) (v := ?vqz2) (a' := ?aqz2) rfl rfl (by kernel_rfl) (by kernel_rfl) (by kernel_rfl) (fun _ _ _ h => h) (Or.inl ⟨by rfl, ?yqz2⟩) ?fqz2 ?_
          case yqz2 => (intro wq hq; go_simp; first | done | with_reducible rfl)
          case fqz2 => (go_frame; rfl)
          refine wpIn_take (i := 3) (d := (some 18)) (v := ?vqz3) (a' := ?aqz3) rfl rfl (by kernel_rfl) (by kernel_rfl) (by kernel_rfl) (fun _ _ _ h => h) (Or.inl ⟨by rfl, ?yqz3⟩) ?fqz3 ?_
          case yqz3 => (intro wq hq; have q0 := hCA wq hq; go_simp; first | done | with_reducible rfl)
          case fqz3 => (go_frame; rfl)
          refine wpIn_do (i := 4) hC0 (by kernel_rfl) rfl (by rfl) ?_
          intro K hK
          go_simp
          go_wp2_with (go_at_call 55; refine (HLA _).mono ?_; rintro x w3 ⟨rfl, hb3⟩)
          have hC1 : Below w1.heap.size w1 w3 := hC0.trans ⟨hb3.os, hb3.tape, hb3.output, hb3.size, fun k hk => hb3.block k (by have := hC0.size; omega)⟩
          clear hC0
          refine wpIn_take (i := 5) (d := (some 20)) (v := ?vqz5) (a' := ?aqz5) rfl rfl (by kernel_rfl) (by kernel_rfl) (by kernel_rfl) (fun _ _ _ h => h) (Or.inl ⟨by rfl, ?yqz5⟩) ?fqz5 ?_
          case yqz5 => (intro wq hq; go_simp; first | done | with_reducible rfl)
          case fqz5 => (go_frame; rfl)
          refine wpIn_take (i := 6) (d := (some 21)) (v := ?vqz6) (a' := ?aqz6) rfl rfl (by kernel_rfl) (by kernel_rfl) (by kernel_rfl) (fun _ _ _ h => h) (Or.inl ⟨by rfl, ?yqz6⟩) ?fqz6 ?_
          case yqz6 => (intro wq hq; go_simp; first | done | with_reducible rfl)
          case fqz6 => (go_frame; rfl)
          refine wpIn_take (i := 7) (d := (some 22)) (v := ?vqz7) (a' := ?aqz7) rfl rfl (by kernel_rfl) (by kernel_rfl) (by kernel_rfl) (fun _ _ _ h => h) (Or.inl ⟨by rfl, ?yqz7⟩) ?fqz7 ?_
          case yqz7 => (intro wq hq; go_simp; first | done | with_reducible rfl)
          case fqz7 => (go_frame; rfl)
          refine wpIn_take (i := 8) (d := (some 23)) (v := ?vqz8) (a' := ?aqz8) rfl rfl (by kernel_rfl) (by kernel_rfl) (by kernel_rfl) (fun _ _ _ h => h) (Or.inl ⟨by rfl, ?yqz8⟩) ?fqz8 ?_
          case yqz8 => (intro wq hq; go_simp; first | done | with_reducible rfl)
          case fqz8 => (go_frame; rfl)
          refine wpIn_take (i := 9) (d := (some 24)) (v := ?vqz9) (a' := ?aqz9) rfl rfl (by kernel_rfl) (by kernel_rfl) (by kernel_rfl) (fun _ _ _ h => h) (Or.inl ⟨by rfl, ?yqz9⟩) ?fqz9 ?_
          case yqz9 => (intro wq hq; go_simp; first | done | with_reducible rfl)
          case fqz9 => (go_frame; rfl)
          refine wpIn_take (i := 10) (d := (some 25)) (v := undef) (a' := ?aqz10) rfl rfl (by kernel_rfl) (by kernel_rfl) (by kernel_rfl) (fun _ _ _ h => h) (Or.inr ⟨by rfl, rfl⟩) ?fqz10 ?_
          case fqz10 => (go_frame; rfl)
          refine wpIn_take (i := 11) (d := (some 26)) (v := undef) (a' := ?aqz11) rfl rfl (by kernel_rfl) (by kernel_rfl) (by kernel_rfl) (fun _ _ _ h => h) (Or.inr ⟨by rfl, rfl⟩) ?fqz11 ?_
          case fqz11 => (go_frame; rfl)
          refine wpIn_take (i := 12) (d := (some 27)) (v := undef) (a' := ?aqz12) rfl rfl (by kernel_rfl) (by kernel_rfl) (by kernel_rfl) (fun _ _ _ h => h) (Or.inr ⟨by rfl, rfl⟩) ?fqz12 ?_
          case fqz12 => (go_frame; rfl)
          refine wpIn_take (i := 13) (d := (some 28)) (v := undef) (a' := ?aqz13) rfl rfl (by kernel_rfl) (by kernel_rfl) (by kernel_rfl) (fun _ _ _ h => h) (Or.inr ⟨by rfl, rfl⟩) ?fqz13 ?_
          case fqz13 => (go_frame; rfl)
          refine wpIn_take (i := 14) (d := (some 29)) (v := undef) (a' := ?aqz14) rfl rfl (by kernel_rfl) (by kernel_rfl) (by kernel_rfl) (fun _ _ _ h => h) (Or.inr ⟨by rfl, rfl⟩) ?fqz14 ?_
          case fqz14 => (go_frame; rfl)
          refine wpIn_take (i := 15) (d := (some 30)) (v := undef) (a' := ?aqz15) rfl rfl (by kernel_rfl) (by kernel_rfl) (by kernel_rfl) (fun _ _ _ h => h) (Or.inr ⟨by rfl, rfl⟩) ?fqz15 ?_
          case fqz15 => (go_frame; rfl)
          refine wpIn_take (i := 16) (d := (some 31)) (v := undef) (a' := ?aqz16) rfl rfl (by kernel_rfl) (by kernel_rfl) (by kernel_rfl) (fun _ _ _ h => h) (Or.inr ⟨by rfl, rfl⟩) ?fqz16 ?_
          case fqz16 => (go_frame; rfl)
          refine wpIn_take (i := 17) (d := (some 32)) (v := undef) (a' := ?aqz17) rfl rfl (by kernel_rfl) (by kernel_rfl) (by kernel_rfl) (fun _ _ _ h => h) (Or.inr ⟨by rfl, rfl⟩) ?fqz17 ?_
          case fqz17 => (go_frame; rfl)
          refine wpIn_take (i := 18) (d := (some 33)) (v := undef) (a' := ?aqz18) rfl rfl (by kernel_rfl) (by kernel_rfl) (by kernel_rfl) (fun _ _ _ h => h) (Or.inr ⟨by rfl, rfl⟩) ?fqz18 ?_
          case fqz18 => (go_frame; rfl)
          refine wpIn_take (i := 19) (d := (some 34)) (v := undef) (a' := ?aqz19) rfl rfl (by kernel_rfl) (by kernel_rfl) (by kernel_rfl) (fun _ _ _ h => h) (Or.inr ⟨by rfl, rfl⟩) ?fqz19 ?_
          case fqz19 => (go_frame; rfl)
          refine wpIn_take (i := 20) (d := (some 35)) (v := undef) (a' := ?aqz20) rfl rfl (by kernel_rfl) (by kernel_rfl) (by kernel_rfl) (fun _ _ _ h => h) (Or.inr ⟨by rfl, rfl⟩) ?fqz20 ?_
          case fqz20 => (go_frame; rfl)
          refine wpIn_take (i := 21) (d := (some 36)) (v := undef) (a' := ?aqz21) rfl rfl (by kernel_rfl) (by kernel_rfl) (by kernel_rfl) (fun _ _ _ h => h) (Or.inr ⟨by rfl, rfl⟩) ?fqz21 ?_
          case fqz21 => (go_frame; rfl)
          refine wpIn_take (i := 22) (d := (some 37)) (v := undef) (a' := ?aqz22) rfl rfl (by kernel_rfl) (by kernel_rfl) (by kernel_rfl) (fun _ _ _ h => h) (Or.inr ⟨by rfl, rfl⟩) ?fqz22 ?_
          case fqz22 => (go_frame; rfl)
          refine wpIn_take (i := 23) (d := (some 38)) (v := ?vqz23) (a' := ?aqz23) rfl rfl (by kernel_rfl) (by kernel_rfl) (by kernel_rfl) (fun _ _ _ h => h) (Or.inl ⟨by rfl, ?yqz23⟩) ?fqz23 ?_
          case yqz23 => (intro wq hq; go_simp; first | done | with_reducible rfl)
          case fqz23 => (go_frame; rfl)
          refine wpIn_take (i := 24) (d := (some 39)) (v := ?vqz24) (a' := ?aqz24) rfl rfl (by kernel_rfl) (by kernel_rfl) (by kernel_rfl) (fun _ _ _ h => h) (Or.inl ⟨by rfl, ?yqz24⟩) ?fqz24 ?_
          case yqz24 => (intro wq hq; go_simp; first | done | with_reducible rfl)
          case fqz24 => (go_frame; rfl)
          refine wpIn_done hC1 (by kernel_rfl) ?_ _
          go_wp2
          go_roundw
          case rel => exact ⟨1, by go_num, hkn, HF.out.step (by rw [HA.out, HKE.out]; exact hlk) (fun h => absurd h (by omega)), hC1⟩
          case measure => simp [intOf]; omega
        | succ m =>
          have gm := hPr.2.2 m (by omega)
          have hmt := places_lt hPr (i := m) (by omega)
          obtain ⟨b, hbE⟩ : ∃ b, L.getD m 0 = b := ⟨_, rfl⟩
          have HB : Hid (L.getD m 0 = b) := hbE
          rw [hbE] at gm hmt
          have hCB := fun W hW => HCK.out b hmt W hW
          have hcb : b < n := by rw [← HN.out]; exact hmt
          have hbI : (b : Int) < (n : Int) := by omega
          have hmI : (m : Int) < (n : Int) := by omega
          have hwm : IntKind.i64.wrap (m : Int) = (m : Int) := by first | go_num | (simp [IntKind.wrap, IntKind.bits, IntKind.signed]; omega)
          have hGM : ∀ W : World, Below w1.heap.size w1 W → W.cell? ⟨g, m, none⟩ = some (.int .i64 (b : Int)) := fun W hW => by
            have h1 := hP.2.2 m (by omega)
            rw [hbE] at h1
            exact (World.cell?_of_block (a := ⟨g, m, none⟩) (hW.block g hg1)).trans h1
          obtain ⟨kb, hkb⟩ : ∃ kb, keyAtK ks b = kb := ⟨_, rfl⟩
          have HKB : Hid (keyAtK ks b = kb) := hkb
          rw [hkb] at hCB
          clear hbE hkb hmt
          by_cases hsame : kb = key
          · have heq : (kb.toList == key.toList) = true := by rw [hsame]; simp
            go_wp2
            have hC0 : Below w1.heap.size w1 wr.drew := ⟨hbr.os, hbr.tape, hbr.output, hbr.size, hbr.block⟩
            refine wp_region_in (by kernel_rfl) (fun W => Below w1.heap.size w1 W) ?_
            change wpIn _ _ _ _ _ _ _ _ (World.drew _)
            refine wpIn_take (i := 0) (d := (some 15)) (v := ?vqs0) (a' := ?aqs0) rfl rfl (by kernel_rfl) (by kernel_rfl) (by kernel_rfl) (fun _ _ _ h => h) (Or.inl ⟨by rfl, ?yqs0⟩) ?fqs0 ?_
            case yqs0 => (intro wq hq; go_simp; first | done | with_reducible rfl)
            case fqs0 => (go_frame; rfl)
            refine wpIn_take (i := 1) (d := (some 16)) (v := ?vqs1) (a' := ?aqs1) rfl rfl (by kernel_rfl) (by kernel_rfl) (by kernel_rfl) (fun _ _ _ h => h) (Or.inl ⟨by rfl, ?yqs1⟩) ?fqs1 ?_
            case yqs1 => (intro wq hq; go_simp; first | done | with_reducible rfl)
            case fqs1 => (go_frame; rfl)
            refine wpIn_take (i := 2) (d := (some 17)) (v := ?vqs2) (a' := ?aqs2) rfl rfl (by kernel_rfl) (by kernel_rfl) (by kernel_rfl) (fun _ _ _ h => h) (Or.inl ⟨by rfl, ?yqs2⟩) ?fqs2 ?_
            case yqs2 => (intro wq hq; go_simp; first | done | with_reducible rfl)
            case fqs2 => (go_frame; rfl)
            refine wpIn_take (i := 3) (d := (some 18)) (v := ?vqs3) (a' := ?aqs3) rfl rfl (by kernel_rfl) (by kernel_rfl) (by kernel_rfl) (fun _ _ _ h => h) (Or.inl ⟨by rfl, ?yqs3⟩) ?fqs3 ?_
            case yqs3 => (intro wq hq; have q0 := hCA wq hq; go_simp; first | done | with_reducible rfl)
            case fqs3 => (go_frame; rfl)
            refine wpIn_do (i := 4) hC0 (by kernel_rfl) rfl (by rfl) ?_
            intro K hK
            go_simp
            go_wp2_with (go_at_call 55; refine (HLA _).mono ?_; rintro x w3 ⟨rfl, hb3⟩)
            have hC1 : Below w1.heap.size w1 w3 := hC0.trans ⟨hb3.os, hb3.tape, hb3.output, hb3.size, fun k hk => hb3.block k (by have := hC0.size; omega)⟩
            clear hC0
            refine wpIn_take (i := 5) (d := (some 20)) (v := ?vqs5) (a' := ?aqs5) rfl rfl (by kernel_rfl) (by kernel_rfl) (by kernel_rfl) (fun _ _ _ h => h) (Or.inl ⟨by rfl, ?yqs5⟩) ?fqs5 ?_
            case yqs5 => (intro wq hq; go_simp; first | done | with_reducible rfl)
            case fqs5 => (go_frame; rfl)
            refine wpIn_take (i := 6) (d := (some 21)) (v := ?vqs6) (a' := ?aqs6) rfl rfl (by kernel_rfl) (by kernel_rfl) (by kernel_rfl) (fun _ _ _ h => h) (Or.inl ⟨by rfl, ?yqs6⟩) ?fqs6 ?_
            case yqs6 => (intro wq hq; go_simp; first | done | with_reducible rfl)
            case fqs6 => (go_frame; rfl)
            refine wpIn_take (i := 7) (d := (some 22)) (v := ?vqs7) (a' := ?aqs7) rfl rfl (by kernel_rfl) (by kernel_rfl) (by kernel_rfl) (fun _ _ _ h => h) (Or.inl ⟨by rfl, ?yqs7⟩) ?fqs7 ?_
            case yqs7 => (intro wq hq; go_simp; first | done | with_reducible rfl)
            case fqs7 => (go_frame; rfl)
            refine wpIn_take (i := 8) (d := (some 23)) (v := ?vqs8) (a' := ?aqs8) rfl rfl (by kernel_rfl) (by kernel_rfl) (by kernel_rfl) (fun _ _ _ h => h) (Or.inl ⟨by rfl, ?yqs8⟩) ?fqs8 ?_
            case yqs8 => (intro wq hq; go_simp; first | done | with_reducible rfl)
            case fqs8 => (go_frame; rfl)
            refine wpIn_take (i := 9) (d := (some 24)) (v := ?vqs9) (a' := ?aqs9) rfl rfl (by kernel_rfl) (by kernel_rfl) (by kernel_rfl) (fun _ _ _ h => h) (Or.inl ⟨by rfl, ?yqs9⟩) ?fqs9 ?_
            case yqs9 => (intro wq hq; go_simp; first | done | with_reducible rfl)
            case fqs9 => (go_frame; rfl)
            refine wpIn_take (i := 10) (d := (some 25)) (v := ?vqs10) (a' := ?aqs10) rfl rfl (by kernel_rfl) (by kernel_rfl) (by kernel_rfl) (fun _ _ _ h => h) (Or.inl ⟨by rfl, ?yqs10⟩) ?fqs10 ?_
            case yqs10 => (intro wq hq; go_simp; first | done | with_reducible rfl)
            case fqs10 => (go_frame; rfl)
            refine wpIn_take (i := 11) (d := (some 26)) (v := ?vqs11) (a' := ?aqs11) rfl rfl (by kernel_rfl) (by kernel_rfl) (by kernel_rfl) (fun _ _ _ h => h) (Or.inl ⟨by rfl, ?yqs11⟩) ?fqs11 ?_
            case yqs11 => (intro wq hq; go_simp; first | done | with_reducible rfl)
            case fqs11 => (go_frame; rfl)
            refine wpIn_take (i := 12) (d := (some 27)) (v := ?vqs12) (a' := ?aqs12) rfl rfl (by kernel_rfl) (by kernel_rfl) (by kernel_rfl) (fun _ _ _ h => h) (Or.inl ⟨by rfl, ?yqs12⟩) ?fqs12 ?_
            case yqs12 => (intro wq hq; go_simp; first | done | with_reducible rfl)
            case fqs12 => (go_frame; rfl)
            refine wpIn_take (i := 13) (d := (some 28)) (v := ?vqs13) (a' := ?aqs13) rfl rfl (by kernel_rfl) (by kernel_rfl) (by kernel_rfl) (fun _ _ _ h => h) (Or.inl ⟨by rfl, ?yqs13⟩) ?fqs13 ?_
            case yqs13 => (intro wq hq; go_simp; first | done | with_reducible rfl)
            case fqs13 => (go_frame; rfl)
            refine wpIn_take (i := 14) (d := (some 29)) (v := ?vqs14) (a' := ?aqs14) rfl rfl (by kernel_rfl) (by kernel_rfl) (by kernel_rfl) (fun _ _ _ h => h) (Or.inl ⟨by rfl, ?yqs14⟩) ?fqs14 ?_
            case yqs14 => (intro wq hq; go_simp; first | done | with_reducible rfl)
            case fqs14 => (go_frame; rfl)
            refine wpIn_take (i := 15) (d := (some 30)) (v := ?vqs15) (a' := ?aqs15) rfl rfl (by kernel_rfl) (by kernel_rfl) (by kernel_rfl) (fun _ _ _ h => h) (Or.inl ⟨by rfl, ?yqs15⟩) ?fqs15 ?_
            case yqs15 => (intro wq hq; have q0 := hGM wq hq; go_simp; first | done | with_reducible rfl)
            case fqs15 => (go_frame; rfl)
            refine wpIn_take (i := 16) (d := (some 31)) (v := ?vqs16) (a' := ?aqs16) rfl rfl (by kernel_rfl) (by kernel_rfl) (by kernel_rfl) (fun _ _ _ h => h) (Or.inl ⟨by rfl, ?yqs16⟩) ?fqs16 ?_
            case yqs16 => (intro wq hq; go_simp; first | done | with_reducible rfl)
            case fqs16 => (go_frame; rfl)
            refine wpIn_take (i := 17) (d := (some 32)) (v := ?vqs17) (a' := ?aqs17) rfl rfl (by kernel_rfl) (by kernel_rfl) (by kernel_rfl) (fun _ _ _ h => h) (Or.inl ⟨by rfl, ?yqs17⟩) ?fqs17 ?_
            case yqs17 => (intro wq hq; have q0 := hCB wq hq; go_simp; first | done | with_reducible rfl)
            case fqs17 => (go_frame; rfl)
            refine wpIn_take (i := 18) (d := (some 33)) (v := ?vqs18) (a' := ?aqs18) rfl rfl (by kernel_rfl) (by kernel_rfl) (by kernel_rfl) (fun _ _ _ h => h) (Or.inl ⟨by rfl, ?yqs18⟩) ?fqs18 ?_
            case yqs18 => (intro wq hq; go_simp; first | done | with_reducible rfl)
            case fqs18 => (go_frame; rfl)
            refine wpIn_take (i := 19) (d := (some 34)) (v := ?vqs19) (a' := ?aqs19) rfl rfl (by kernel_rfl) (by kernel_rfl) (by kernel_rfl) (fun _ _ _ h => h) (Or.inl ⟨by rfl, ?yqs19⟩) ?fqs19 ?_
            case yqs19 => (intro wq hq; go_simp; first | done | with_reducible rfl)
            case fqs19 => (go_frame; rfl)
            refine wpIn_take (i := 20) (d := (some 35)) (v := ?vqs20) (a' := ?aqs20) rfl rfl (by kernel_rfl) (by kernel_rfl) (by kernel_rfl) (fun _ _ _ h => h) (Or.inl ⟨by rfl, ?yqs20⟩) ?fqs20 ?_
            case yqs20 => (intro wq hq; go_simp; first | done | with_reducible rfl)
            case fqs20 => (go_frame; rfl)
            refine wpIn_take (i := 21) (d := (some 36)) (v := ?vqs21) (a' := ?aqs21) rfl rfl (by kernel_rfl) (by kernel_rfl) (by kernel_rfl) (fun _ _ _ h => h) (Or.inl ⟨by rfl, ?yqs21⟩) ?fqs21 ?_
            case yqs21 => (intro wq hq; have q0 := hCA wq hq; go_simp; first | done | with_reducible rfl)
            case fqs21 => (go_frame; rfl)
            refine wpIn_take (i := 22) (d := (some 37)) (v := ?vqs22) (a' := ?aqs22) rfl rfl (by kernel_rfl) (by kernel_rfl) (by kernel_rfl) (fun _ _ _ h => h) (Or.inl ⟨by rfl, ?yqs22⟩) ?fqs22 ?_
            case yqs22 => (intro wq hq; go_simp; first | done | with_reducible rfl)
            case fqs22 => (go_frame; rfl)
            refine wpIn_take (i := 23) (d := (some 38)) (v := ?vqs23) (a' := ?aqs23) rfl rfl (by kernel_rfl) (by kernel_rfl) (by kernel_rfl) (fun _ _ _ h => h) (Or.inl ⟨by rfl, ?yqs23⟩) ?fqs23 ?_
            case yqs23 => (intro wq hq; go_simp; first | done | with_reducible rfl)
            case fqs23 => (go_frame; rfl)
            refine wpIn_take (i := 24) (d := (some 39)) (v := ?vqs24) (a' := ?aqs24) rfl rfl (by kernel_rfl) (by kernel_rfl) (by kernel_rfl) (fun _ _ _ h => h) (Or.inl ⟨by rfl, ?yqs24⟩) ?fqs24 ?_
            case yqs24 => (intro wq hq; go_simp; first | done | with_reducible rfl)
            case fqs24 => (go_frame; rfl)
            refine wpIn_done hC1 (by kernel_rfl) ?_ _
            go_wp2
            go_ret
            exact ⟨ret_bool (goodK_twice hP hkL (by omega) (by rw [HA.out, HKE.out]; show keyAtK ks (L.getD m 0) = _; rw [HB.out, HKB.out]; exact hsame)).symm, hb1.trans ⟨hC1.os, hC1.tape, hC1.output, hC1.size, fun k hk => hC1.block k (by omega)⟩⟩
          · have heq : (kb.toList == key.toList) = false := by rw [beq_eq_false_iff_ne]; intro e; exact hsame (toList_inj e)
            go_wp2
            have hC0 : Below w1.heap.size w1 wr.drew := ⟨hbr.os, hbr.tape, hbr.output, hbr.size, hbr.block⟩
            refine wp_region_in (by kernel_rfl) (fun W => Below w1.heap.size w1 W) ?_
            change wpIn _ _ _ _ _ _ _ _ (World.drew _)
            refine wpIn_take (i := 0) (d := (some 15)) (v := ?vqd0) (a' := ?aqd0) rfl rfl (by kernel_rfl) (by kernel_rfl) (by kernel_rfl) (fun _ _ _ h => h) (Or.inl ⟨by rfl, ?yqd0⟩) ?fqd0 ?_
            case yqd0 => (intro wq hq; go_simp; first | done | with_reducible rfl)
            case fqd0 => (go_frame; rfl)
            refine wpIn_take (i := 1) (d := (some 16)) (v := ?vqd1) (a' := ?aqd1) rfl rfl (by kernel_rfl) (by kernel_rfl) (by kernel_rfl) (fun _ _ _ h => h) (Or.inl ⟨by rfl, ?yqd1⟩) ?fqd1 ?_
            case yqd1 => (intro wq hq; go_simp; first | done | with_reducible rfl)
            case fqd1 => (go_frame; rfl)
            refine wpIn_take (i := 2) (d := (some 17)) (v := ?vqd2) (a' := ?aqd2) rfl rfl (by kernel_rfl) (by kernel_rfl) (by kernel_rfl) (fun _ _ _ h => h) (Or.inl ⟨by rfl, ?yqd2⟩) ?fqd2 ?_
            case yqd2 => (intro wq hq; go_simp; first | done | with_reducible rfl)
            case fqd2 => (go_frame; rfl)
            refine wpIn_take (i := 3) (d := (some 18)) (v := ?vqd3) (a' := ?aqd3) rfl rfl (by kernel_rfl) (by kernel_rfl) (by kernel_rfl) (fun _ _ _ h => h) (Or.inl ⟨by rfl, ?yqd3⟩) ?fqd3 ?_
            case yqd3 => (intro wq hq; have q0 := hCA wq hq; go_simp; first | done | with_reducible rfl)
            case fqd3 => (go_frame; rfl)
            refine wpIn_do (i := 4) hC0 (by kernel_rfl) rfl (by rfl) ?_
            intro K hK
            go_simp
            go_wp2_with (go_at_call 55; refine (HLA _).mono ?_; rintro x w3 ⟨rfl, hb3⟩)
            have hC1 : Below w1.heap.size w1 w3 := hC0.trans ⟨hb3.os, hb3.tape, hb3.output, hb3.size, fun k hk => hb3.block k (by have := hC0.size; omega)⟩
            clear hC0
            refine wpIn_take (i := 5) (d := (some 20)) (v := ?vqd5) (a' := ?aqd5) rfl rfl (by kernel_rfl) (by kernel_rfl) (by kernel_rfl) (fun _ _ _ h => h) (Or.inl ⟨by rfl, ?yqd5⟩) ?fqd5 ?_
            case yqd5 => (intro wq hq; go_simp; first | done | with_reducible rfl)
            case fqd5 => (go_frame; rfl)
            refine wpIn_take (i := 6) (d := (some 21)) (v := ?vqd6) (a' := ?aqd6) rfl rfl (by kernel_rfl) (by kernel_rfl) (by kernel_rfl) (fun _ _ _ h => h) (Or.inl ⟨by rfl, ?yqd6⟩) ?fqd6 ?_
            case yqd6 => (intro wq hq; go_simp; first | done | with_reducible rfl)
            case fqd6 => (go_frame; rfl)
            refine wpIn_take (i := 7) (d := (some 22)) (v := ?vqd7) (a' := ?aqd7) rfl rfl (by kernel_rfl) (by kernel_rfl) (by kernel_rfl) (fun _ _ _ h => h) (Or.inl ⟨by rfl, ?yqd7⟩) ?fqd7 ?_
            case yqd7 => (intro wq hq; go_simp; first | done | with_reducible rfl)
            case fqd7 => (go_frame; rfl)
            refine wpIn_take (i := 8) (d := (some 23)) (v := ?vqd8) (a' := ?aqd8) rfl rfl (by kernel_rfl) (by kernel_rfl) (by kernel_rfl) (fun _ _ _ h => h) (Or.inl ⟨by rfl, ?yqd8⟩) ?fqd8 ?_
            case yqd8 => (intro wq hq; go_simp; first | done | with_reducible rfl)
            case fqd8 => (go_frame; rfl)
            refine wpIn_take (i := 9) (d := (some 24)) (v := ?vqd9) (a' := ?aqd9) rfl rfl (by kernel_rfl) (by kernel_rfl) (by kernel_rfl) (fun _ _ _ h => h) (Or.inl ⟨by rfl, ?yqd9⟩) ?fqd9 ?_
            case yqd9 => (intro wq hq; go_simp; first | done | with_reducible rfl)
            case fqd9 => (go_frame; rfl)
            refine wpIn_take (i := 10) (d := (some 25)) (v := ?vqd10) (a' := ?aqd10) rfl rfl (by kernel_rfl) (by kernel_rfl) (by kernel_rfl) (fun _ _ _ h => h) (Or.inl ⟨by rfl, ?yqd10⟩) ?fqd10 ?_
            case yqd10 => (intro wq hq; go_simp; first | done | with_reducible rfl)
            case fqd10 => (go_frame; rfl)
            refine wpIn_take (i := 11) (d := (some 26)) (v := ?vqd11) (a' := ?aqd11) rfl rfl (by kernel_rfl) (by kernel_rfl) (by kernel_rfl) (fun _ _ _ h => h) (Or.inl ⟨by rfl, ?yqd11⟩) ?fqd11 ?_
            case yqd11 => (intro wq hq; go_simp; first | done | with_reducible rfl)
            case fqd11 => (go_frame; rfl)
            refine wpIn_take (i := 12) (d := (some 27)) (v := ?vqd12) (a' := ?aqd12) rfl rfl (by kernel_rfl) (by kernel_rfl) (by kernel_rfl) (fun _ _ _ h => h) (Or.inl ⟨by rfl, ?yqd12⟩) ?fqd12 ?_
            case yqd12 => (intro wq hq; go_simp; first | done | with_reducible rfl)
            case fqd12 => (go_frame; rfl)
            refine wpIn_take (i := 13) (d := (some 28)) (v := ?vqd13) (a' := ?aqd13) rfl rfl (by kernel_rfl) (by kernel_rfl) (by kernel_rfl) (fun _ _ _ h => h) (Or.inl ⟨by rfl, ?yqd13⟩) ?fqd13 ?_
            case yqd13 => (intro wq hq; go_simp; first | done | with_reducible rfl)
            case fqd13 => (go_frame; rfl)
            refine wpIn_take (i := 14) (d := (some 29)) (v := ?vqd14) (a' := ?aqd14) rfl rfl (by kernel_rfl) (by kernel_rfl) (by kernel_rfl) (fun _ _ _ h => h) (Or.inl ⟨by rfl, ?yqd14⟩) ?fqd14 ?_
            case yqd14 => (intro wq hq; go_simp; first | done | with_reducible rfl)
            case fqd14 => (go_frame; rfl)
            refine wpIn_take (i := 15) (d := (some 30)) (v := ?vqd15) (a' := ?aqd15) rfl rfl (by kernel_rfl) (by kernel_rfl) (by kernel_rfl) (fun _ _ _ h => h) (Or.inl ⟨by rfl, ?yqd15⟩) ?fqd15 ?_
            case yqd15 => (intro wq hq; have q0 := hGM wq hq; go_simp; first | done | with_reducible rfl)
            case fqd15 => (go_frame; rfl)
            refine wpIn_take (i := 16) (d := (some 31)) (v := ?vqd16) (a' := ?aqd16) rfl rfl (by kernel_rfl) (by kernel_rfl) (by kernel_rfl) (fun _ _ _ h => h) (Or.inl ⟨by rfl, ?yqd16⟩) ?fqd16 ?_
            case yqd16 => (intro wq hq; go_simp; first | done | with_reducible rfl)
            case fqd16 => (go_frame; rfl)
            refine wpIn_take (i := 17) (d := (some 32)) (v := ?vqd17) (a' := ?aqd17) rfl rfl (by kernel_rfl) (by kernel_rfl) (by kernel_rfl) (fun _ _ _ h => h) (Or.inl ⟨by rfl, ?yqd17⟩) ?fqd17 ?_
            case yqd17 => (intro wq hq; have q0 := hCB wq hq; go_simp; first | done | with_reducible rfl)
            case fqd17 => (go_frame; rfl)
            refine wpIn_take (i := 18) (d := (some 33)) (v := ?vqd18) (a' := ?aqd18) rfl rfl (by kernel_rfl) (by kernel_rfl) (by kernel_rfl) (fun _ _ _ h => h) (Or.inl ⟨by rfl, ?yqd18⟩) ?fqd18 ?_
            case yqd18 => (intro wq hq; go_simp; first | done | with_reducible rfl)
            case fqd18 => (go_frame; rfl)
            refine wpIn_take (i := 19) (d := (some 34)) (v := ?vqd19) (a' := ?aqd19) rfl rfl (by kernel_rfl) (by kernel_rfl) (by kernel_rfl) (fun _ _ _ h => h) (Or.inl ⟨by rfl, ?yqd19⟩) ?fqd19 ?_
            case yqd19 => (intro wq hq; go_simp; first | done | with_reducible rfl)
            case fqd19 => (go_frame; rfl)
            refine wpIn_take (i := 20) (d := (some 35)) (v := ?vqd20) (a' := ?aqd20) rfl rfl (by kernel_rfl) (by kernel_rfl) (by kernel_rfl) (fun _ _ _ h => h) (Or.inl ⟨by rfl, ?yqd20⟩) ?fqd20 ?_
            case yqd20 => (intro wq hq; go_simp; first | done | with_reducible rfl)
            case fqd20 => (go_frame; rfl)
            refine wpIn_take (i := 21) (d := (some 36)) (v := ?vqd21) (a' := ?aqd21) rfl rfl (by kernel_rfl) (by kernel_rfl) (by kernel_rfl) (fun _ _ _ h => h) (Or.inl ⟨by rfl, ?yqd21⟩) ?fqd21 ?_
            case yqd21 => (intro wq hq; have q0 := hCA wq hq; go_simp; first | done | with_reducible rfl)
            case fqd21 => (go_frame; rfl)
            refine wpIn_take (i := 22) (d := (some 37)) (v := ?vqd22) (a' := ?aqd22) rfl rfl (by kernel_rfl) (by kernel_rfl) (by kernel_rfl) (fun _ _ _ h => h) (Or.inl ⟨by rfl, ?yqd22⟩) ?fqd22 ?_
            case yqd22 => (intro wq hq; go_simp; first | done | with_reducible rfl)
            case fqd22 => (go_frame; rfl)
            refine wpIn_take (i := 23) (d := (some 38)) (v := ?vqd23) (a' := ?aqd23) rfl rfl (by kernel_rfl) (by kernel_rfl) (by kernel_rfl) (fun _ _ _ h => h) (Or.inl ⟨by rfl, ?yqd23⟩) ?fqd23 ?_
            case yqd23 => (intro wq hq; go_simp; first | done | with_reducible rfl)
            case fqd23 => (go_frame; rfl)
            refine wpIn_take (i := 24) (d := (some 39)) (v := ?vqd24) (a' := ?aqd24) rfl rfl (by kernel_rfl) (by kernel_rfl) (by kernel_rfl) (fun _ _ _ h => h) (Or.inl ⟨by rfl, ?yqd24⟩) ?fqd24 ?_
            case yqd24 => (intro wq hq; go_simp; first | done | with_reducible rfl)
            case fqd24 => (go_frame; rfl)
            refine wpIn_done hC1 (by kernel_rfl) ?_ _
            go_wp2
            go_roundw
            case rel => exact ⟨m + 1 + 1, by go_num, hkn, HF.out.step (by rw [HA.out, HKE.out]; exact hlk) (fun _ => by rw [HA.out, HKE.out]; show keyAtK ks (L.getD m 0) ≠ _; rw [HB.out, HKB.out]; exact hsame), hC1⟩
            case measure => simp [intOf]; omega
      · rw [hlk] at HLA
        go_wp2
        have hC0 : Below w1.heap.size w1 wr.drew := ⟨hbr.os, hbr.tape, hbr.output, hbr.size, hbr.block⟩
        refine wp_region_in (by kernel_rfl) (fun W => Below w1.heap.size w1 W) ?_
        change wpIn _ _ _ _ _ _ _ _ (World.drew _)
        refine wpIn_take (i := 0) (d := (some 15)) (v := ?vqn0) (a' := ?aqn0) rfl rfl (by kernel_rfl) (by kernel_rfl) (by kernel_rfl) (fun _ _ _ h => h) (Or.inl ⟨by rfl, ?yqn0⟩) ?fqn0 ?_
        case yqn0 => (intro wq hq; go_simp; first | done | with_reducible rfl)
        case fqn0 => (go_frame; rfl)
        refine wpIn_take (i := 1) (d := (some 16)) (v := ?vqn1) (a' := ?aqn1) rfl rfl (by kernel_rfl) (by kernel_rfl) (by kernel_rfl) (fun _ _ _ h => h) (Or.inl ⟨by rfl, ?yqn1⟩) ?fqn1 ?_
        case yqn1 => (intro wq hq; go_simp; first | done | with_reducible rfl)
        case fqn1 => (go_frame; rfl)
        refine wpIn_take (i := 2) (d := (some 17)) (v := ?vqn2) (a' := ?aqn2) rfl rfl (by kernel_rfl) (by kernel_rfl) (by kernel_rfl) (fun _ _ _ h => h) (Or.inl ⟨by rfl, ?yqn2⟩) ?fqn2 ?_
        case yqn2 => (intro wq hq; go_simp; first | done | with_reducible rfl)
        case fqn2 => (go_frame; rfl)
        refine wpIn_take (i := 3) (d := (some 18)) (v := ?vqn3) (a' := ?aqn3) rfl rfl (by kernel_rfl) (by kernel_rfl) (by kernel_rfl) (fun _ _ _ h => h) (Or.inl ⟨by rfl, ?yqn3⟩) ?fqn3 ?_
        case yqn3 => (intro wq hq; have q0 := hCA wq hq; go_simp; first | done | with_reducible rfl)
        case fqn3 => (go_frame; rfl)
        refine wpIn_do (i := 4) hC0 (by kernel_rfl) rfl (by rfl) ?_
        intro K hK
        go_simp
        go_wp2_with (go_at_call 55; refine (HLA _).mono ?_; rintro x w3 ⟨rfl, hb3⟩)
        have hC1 : Below w1.heap.size w1 w3 := hC0.trans ⟨hb3.os, hb3.tape, hb3.output, hb3.size, fun k hk => hb3.block k (by have := hC0.size; omega)⟩
        clear hC0
        refine wpIn_take (i := 5) (d := (some 20)) (v := ?vqn5) (a' := ?aqn5) rfl rfl (by kernel_rfl) (by kernel_rfl) (by kernel_rfl) (fun _ _ _ h => h) (Or.inl ⟨by rfl, ?yqn5⟩) ?fqn5 ?_
        case yqn5 => (intro wq hq; go_simp; first | done | with_reducible rfl)
        case fqn5 => (go_frame; rfl)
        refine wpIn_take (i := 6) (d := (some 21)) (v := ?vqn6) (a' := ?aqn6) rfl rfl (by kernel_rfl) (by kernel_rfl) (by kernel_rfl) (fun _ _ _ h => h) (Or.inl ⟨by rfl, ?yqn6⟩) ?fqn6 ?_
        case yqn6 => (intro wq hq; go_simp; first | done | with_reducible rfl)
        case fqn6 => (go_frame; rfl)
        refine wpIn_take (i := 7) (d := (some 22)) (v := undef) (a' := ?aqn7) rfl rfl (by kernel_rfl) (by kernel_rfl) (by kernel_rfl) (fun _ _ _ h => h) (Or.inr ⟨by rfl, rfl⟩) ?fqn7 ?_
        case fqn7 => (go_frame; rfl)
        refine wpIn_take (i := 8) (d := (some 23)) (v := undef) (a' := ?aqn8) rfl rfl (by kernel_rfl) (by kernel_rfl) (by kernel_rfl) (fun _ _ _ h => h) (Or.inr ⟨by rfl, rfl⟩) ?fqn8 ?_
        case fqn8 => (go_frame; rfl)
        refine wpIn_take (i := 9) (d := (some 24)) (v := undef) (a' := ?aqn9) rfl rfl (by kernel_rfl) (by kernel_rfl) (by kernel_rfl) (fun _ _ _ h => h) (Or.inr ⟨by rfl, rfl⟩) ?fqn9 ?_
        case fqn9 => (go_frame; rfl)
        refine wpIn_take (i := 10) (d := (some 25)) (v := undef) (a' := ?aqn10) rfl rfl (by kernel_rfl) (by kernel_rfl) (by kernel_rfl) (fun _ _ _ h => h) (Or.inr ⟨by rfl, rfl⟩) ?fqn10 ?_
        case fqn10 => (go_frame; rfl)
        refine wpIn_take (i := 11) (d := (some 26)) (v := undef) (a' := ?aqn11) rfl rfl (by kernel_rfl) (by kernel_rfl) (by kernel_rfl) (fun _ _ _ h => h) (Or.inr ⟨by rfl, rfl⟩) ?fqn11 ?_
        case fqn11 => (go_frame; rfl)
        refine wpIn_take (i := 12) (d := (some 27)) (v := undef) (a' := ?aqn12) rfl rfl (by kernel_rfl) (by kernel_rfl) (by kernel_rfl) (fun _ _ _ h => h) (Or.inr ⟨by rfl, rfl⟩) ?fqn12 ?_
        case fqn12 => (go_frame; rfl)
        refine wpIn_take (i := 13) (d := (some 28)) (v := undef) (a' := ?aqn13) rfl rfl (by kernel_rfl) (by kernel_rfl) (by kernel_rfl) (fun _ _ _ h => h) (Or.inr ⟨by rfl, rfl⟩) ?fqn13 ?_
        case fqn13 => (go_frame; rfl)
        refine wpIn_take (i := 14) (d := (some 29)) (v := undef) (a' := ?aqn14) rfl rfl (by kernel_rfl) (by kernel_rfl) (by kernel_rfl) (fun _ _ _ h => h) (Or.inr ⟨by rfl, rfl⟩) ?fqn14 ?_
        case fqn14 => (go_frame; rfl)
        refine wpIn_take (i := 15) (d := (some 30)) (v := undef) (a' := ?aqn15) rfl rfl (by kernel_rfl) (by kernel_rfl) (by kernel_rfl) (fun _ _ _ h => h) (Or.inr ⟨by rfl, rfl⟩) ?fqn15 ?_
        case fqn15 => (go_frame; rfl)
        refine wpIn_take (i := 16) (d := (some 31)) (v := undef) (a' := ?aqn16) rfl rfl (by kernel_rfl) (by kernel_rfl) (by kernel_rfl) (fun _ _ _ h => h) (Or.inr ⟨by rfl, rfl⟩) ?fqn16 ?_
        case fqn16 => (go_frame; rfl)
        refine wpIn_take (i := 17) (d := (some 32)) (v := undef) (a' := ?aqn17) rfl rfl (by kernel_rfl) (by kernel_rfl) (by kernel_rfl) (fun _ _ _ h => h) (Or.inr ⟨by rfl, rfl⟩) ?fqn17 ?_
        case fqn17 => (go_frame; rfl)
        refine wpIn_take (i := 18) (d := (some 33)) (v := undef) (a' := ?aqn18) rfl rfl (by kernel_rfl) (by kernel_rfl) (by kernel_rfl) (fun _ _ _ h => h) (Or.inr ⟨by rfl, rfl⟩) ?fqn18 ?_
        case fqn18 => (go_frame; rfl)
        refine wpIn_take (i := 19) (d := (some 34)) (v := undef) (a' := ?aqn19) rfl rfl (by kernel_rfl) (by kernel_rfl) (by kernel_rfl) (fun _ _ _ h => h) (Or.inr ⟨by rfl, rfl⟩) ?fqn19 ?_
        case fqn19 => (go_frame; rfl)
        refine wpIn_take (i := 20) (d := (some 35)) (v := undef) (a' := ?aqn20) rfl rfl (by kernel_rfl) (by kernel_rfl) (by kernel_rfl) (fun _ _ _ h => h) (Or.inr ⟨by rfl, rfl⟩) ?fqn20 ?_
        case fqn20 => (go_frame; rfl)
        refine wpIn_take (i := 21) (d := (some 36)) (v := undef) (a' := ?aqn21) rfl rfl (by kernel_rfl) (by kernel_rfl) (by kernel_rfl) (fun _ _ _ h => h) (Or.inr ⟨by rfl, rfl⟩) ?fqn21 ?_
        case fqn21 => (go_frame; rfl)
        refine wpIn_take (i := 22) (d := (some 37)) (v := undef) (a' := ?aqn22) rfl rfl (by kernel_rfl) (by kernel_rfl) (by kernel_rfl) (fun _ _ _ h => h) (Or.inr ⟨by rfl, rfl⟩) ?fqn22 ?_
        case fqn22 => (go_frame; rfl)
        refine wpIn_take (i := 23) (d := (some 38)) (v := undef) (a' := ?aqn23) rfl rfl (by kernel_rfl) (by kernel_rfl) (by kernel_rfl) (fun _ _ _ h => h) (Or.inr ⟨by rfl, rfl⟩) ?fqn23 ?_
        case fqn23 => (go_frame; rfl)
        refine wpIn_take (i := 24) (d := (some 39)) (v := ?vqn24) (a' := ?aqn24) rfl rfl (by kernel_rfl) (by kernel_rfl) (by kernel_rfl) (fun _ _ _ h => h) (Or.inl ⟨by rfl, ?yqn24⟩) ?fqn24 ?_
        case yqn24 => (intro wq hq; go_simp; first | done | with_reducible rfl)
        case fqn24 => (go_frame; rfl)
        refine wpIn_done hC1 (by kernel_rfl) ?_ _
        go_wp2
        go_ret
        exact ⟨ret_bool (goodK_letters hP hkL (by rw [HA.out, HKE.out]; exact hlk)).symm, hb1.trans ⟨hC1.os, hC1.tape, hC1.output, hC1.size, fun k hk => hC1.block k (by omega)⟩⟩
    · obtain rfl : k = n := by omega
      go_wp2
      go_ret
      exact ⟨ret_bool (goodK_true hP (by rw [HLL.out]; exact HF.out)).symm, hb1.trans ⟨hbr.os, hbr.tape, hbr.output, hbr.size, fun k hk => hbr.block k (by omega)⟩⟩
/-- Nothing in it is too long. -/
def szJ : Nat → J → Bool
  | 0, _ => true
  | d + 1, .mk _ _ t ks l => decide (t.size ≤ 1000000000) && (decide (ks.length ≤ 100000) && (ks.all (fun k => decide (k.size ≤ 1000000000)) && (decide (l.length ≤ 100000) && l.all (szJ d))))
/-- How values are told good that may be d deep. -/
def Goods (d : Nat) : Prop := ∀ (w : World) (O : Nat → Prop) (j : J) (k i deep : Int) (t : ByteArray) (pk pl : Option Addr) (nk ck nl cl : Nat), (∀ x, O x → x < w.heap.size) → deep = 13 - (d : Int) → szJ d j = true →
  isJ O w j [.int .i64 k, .int .i64 i, .string t, .slice pk nk ck, .slice pl nl cl] →
  Calls Try.prog 48 #[.agg #[.int .i64 k, .int .i64 i, .string t, .slice pk nk ck, .slice pl nl cl], .int .i64 deep] w fun x w' => x = .returned (.bool (goodJ d j)) ∧ Below w.heap.size w w'
theorem below_in {a b c : World} (h : Below a.heap.size a b) (g : Below b.heap.size b c) : Below a.heap.size a c := h.trans ⟨g.os, g.tape, g.output, g.size, fun k hk => g.block k (by have := h.size; omega)⟩
theorem all_at {α : Type} {P : α → Bool} {l : List α} {n : Nat} {z : α} (h : l.all P = true) (hn : n < l.length) : P (l.getD n z) = true := by
  rw [List.getD_eq_getElem?_getD, List.getElem?_eq_getElem hn]
  exact List.all_eq_true.1 h _ (List.getElem_mem hn)
theorem all_take {P : J → Bool} {l : List J} {n : Nat} (hn : n < l.length) : (l.take (n + 1)).all P = ((l.take n).all P && P (l.getD n J.zero)) := by
  rw [take_snoc hn, List.all_append]; simp
theorem all_not {P : J → Bool} {l : List J} {n : Nat} (hn : n < l.length) (h : P (l.getD n J.zero) = false) : l.all P = false := by
  cases ha : l.all P with
  | false => rfl
  | true => rw [all_at (z := J.zero) ha hn] at h; cases h
theorem goodAll_any {d : Nat} (V : Goods d) {w : World} {O : Nat → Prop} {l : List J} {pl : Option Addr} {cl : Nat} {deep : Int} (hO : ∀ x, O x → x < w.heap.size) (hdeep : deep = 13 - (d : Int)) (hsz : l.all (szJ d) = true) (hj : isJs O w pl 0 l) (hc : l.length ≤ cl) (hlen : l.length ≤ 100000) :
    Calls Try.prog 56 #[.slice pl l.length cl, .int .i64 deep] w fun x w' => x = .returned (.bool (l.all (goodJ d))) ∧ Below w.heap.size w w' := by
  have HD : Hid (deep = 13 - (d : Int)) := hdeep
  clear hdeep
  obtain ⟨n, hn⟩ : ∃ n, l.length = n := ⟨_, rfl⟩
  have HN : Hid (l.length = n) := hn
  rw [hn] at hc hlen ⊢
  clear hn
  go_enter Try.func56, Try.ntmps56
  go_wp2
  go_loopw [9] (fun i wr => ∃ k : Nat, i = .int .i64 k ∧ k ≤ n ∧ (l.take k).all (goodJ d) = true ∧ Below w.heap.size w wr) (fun i _ => n - (intOf i).toNat)
  case atStart => exact ⟨0, rfl, Nat.zero_le _, rfl, Below.refl _ _⟩
  case round =>
    obtain ⟨k, rfl, hk, hal, hbr⟩ := hrel
    have HAL : Hid ((l.take k).all (goodJ d) = true) := hal
    clear hal
    by_cases hkl : k < n
    · have hkl' : k < l.length := by rw [HN.out]; exact hkl
      have HLL : Hid (k < l.length) := hkl'
      obtain ⟨lb, lo, cs, hpl, hOb, hcells, hyj⟩ := isJs.at l 0 k hj hkl'
      subst hpl
      obtain ⟨kv, iv, tv, pv, nv, cv, qv, mv, dv, rfl⟩ := isJ_shape hyj
      have hblk := hbr.block lb (hO lb hOb)
      have cc : ∀ m v, [Value.int .i64 kv, .int .i64 iv, .string tv, .slice pv nv cv, .slice qv mv dv][m]? = some v → wr.cell? ⟨lb, lo + k * 5 + m, none⟩ = some v := fun m v h => by
        have := hcells m v h
        rw [Nat.zero_add] at this
        exact (World.cell?_of_block (a := ⟨lb, lo + k * 5 + m, none⟩) hblk).trans this
      have y0 : wr.cell? ⟨lb, lo + k * 5, none⟩ = some (.int .i64 kv) := cc 0 _ rfl
      have y1 := cc 1 _ rfl
      have y2 := cc 2 _ rfl
      have y3 := cc 3 _ rfl
      have y4 := cc 4 _ rfl
      clear cc hcells hkl'
      have hkc : (k : Int) < (n : Int) := by omega
      have hbA : Below w.heap.size w (wr.alloc (.cells #[.int .i64 kv, .int .i64 iv, .string tv, .slice pv nv cv, .slice qv mv dv] 51)) := hbr.alloc hbr.size _
      have hV := V (wr.alloc (.cells #[.int .i64 kv, .int .i64 iv, .string tv, .slice pv nv cv, .slice qv mv dv] 51)) O (l.getD k J.zero) kv iv deep tv pv qv nv cv mv dv (fun x hx => Nat.lt_of_lt_of_le (hO x hx) hbA.size) HD.out (all_at hsz HLL.out) (hyj.carry fun x hx => ⟨hx, hbA.block x (hO x hx)⟩)
      cases hgj : goodJ d (l.getD k J.zero) with
      | true =>
        rw [hgj] at hV
        go_wp2_with (go_at_call 48; refine hV.mono ?_; rintro x w4 ⟨rfl, hb4⟩)
        go_roundw
        case rel => exact ⟨k + 1, by go_num, hkl, by rw [all_take HLL.out, HAL.out, hgj]; rfl, hbA.trans ⟨hb4.os, hb4.tape, hb4.output, hb4.size, fun x hx => hb4.block x (by have := hbA.size; omega)⟩⟩
        case measure => simp [intOf]; omega
      | false =>
        rw [hgj] at hV
        go_wp2_with (go_at_call 48; refine hV.mono ?_; rintro x w4 ⟨rfl, hb4⟩)
        go_ret
        exact ⟨ret_bool (all_not HLL.out hgj).symm, hbA.trans ⟨hb4.os, hb4.tape, hb4.output, hb4.size, fun x hx => hb4.block x (by have := hbA.size; omega)⟩⟩
    · obtain rfl : k = n := by omega
      go_wp2
      go_ret
      have := HAL.out
      rw [List.take_of_length_le (by rw [HN.out]; omega)] at this
      exact ⟨ret_bool this.symm, hbr⟩
end Go.Proofs.Ytalmghbkdelaoaa

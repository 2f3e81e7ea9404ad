/-
  In how many rows a number stands, and the map that tells it.
-/
import Derived.Test.YtmkppbcngpgkdabOMem
namespace Go.Proofs.Ytmkppbcngpgkdab
open Go.RowKit Go.Maps

/-- In how many rows x stands. -/
def fr (P : List (List Int)) (x : Int) : Nat := P.countP fun r => decide (x ∈ r)
theorem fr_pos {P : List (List Int)} {x : Int} : 0 < fr P x ↔ ∃ r ∈ P, x ∈ r := by
  unfold fr
  rw [List.countP_pos_iff]
  simp
theorem fr_all {P : List (List Int)} {x : Int} : fr P x = P.length ↔ ∀ r ∈ P, x ∈ r := by
  unfold fr
  rw [List.countP_eq_length]
  simp
theorem fr_le (P : List (List Int)) (x : Int) : fr P x ≤ P.length := List.countP_le_length
def wf64 (x : Int) : Prop := -9223372036854775808 ≤ x ∧ x ≤ 9223372036854775807
theorem wf_lit {x : Int} (h : wf64 x) : (Lit.int .i64 x).wf = true := by
  have h1 : IntKind.i64.min = -9223372036854775808 := rfl
  have h2 : IntKind.i64.max = 9223372036854775807 := rfl
  unfold wf64 at h
  simp only [Lit.wf, Bool.and_eq_true, decide_eq_true_eq]
  omega
/-- .. of the first k rows, and of row k the first j. -/
def fj (P : List (List Int)) (k j : Nat) (x : Int) : Nat := fr (P.take k) x + if x ∈ (P.getD k []).take j then 1 else 0
theorem fj_zero (P : List (List Int)) (k : Nat) (x : Int) : fj P k 0 x = fr (P.take k) x := by simp [fj]
theorem fj_all (P : List (List Int)) (k : Nat) (x : Int) (hk : k < P.length) : fj P k (P.getD k []).length x = fr (P.take (k + 1)) x := by
  unfold fj fr
  rw [take_snoc P k [] hk, List.countP_append, List.take_length]
  congr 1
  rw [List.countP_cons]
  simp
theorem mem_next (r : List Int) (j : Nat) (x : Int) (hj : j < r.length) : x ∈ r.take (j + 1) ↔ x ∈ r.take j ∨ x = r.getD j 0 := by
  rw [take_snoc r j 0 hj, List.mem_append, List.mem_singleton]
theorem fj_old {P : List (List Int)} {k j : Nat} (hj : j < (P.getD k []).length) (h : (P.getD k []).getD j 0 ∈ (P.getD k []).take j) (x : Int) : fj P k (j + 1) x = fj P k j x := by
  unfold fj
  have : x ∈ (P.getD k []).take (j + 1) ↔ x ∈ (P.getD k []).take j := by
    rw [mem_next _ j x hj]
    exact ⟨fun h' => h'.elim id fun e => e ▸ h, .inl⟩
  simp only [this]
theorem fj_other {P : List (List Int)} {k j : Nat} (hj : j < (P.getD k []).length) {x : Int} (hx : x ≠ (P.getD k []).getD j 0) : fj P k (j + 1) x = fj P k j x := by
  unfold fj
  have : x ∈ (P.getD k []).take (j + 1) ↔ x ∈ (P.getD k []).take j := by
    rw [mem_next _ j x hj]
    exact ⟨fun h' => h'.elim id fun e => absurd e hx, .inl⟩
  simp only [this]
theorem fj_new {P : List (List Int)} {k j : Nat} (hj : j < (P.getD k []).length) (h : (P.getD k []).getD j 0 ∉ (P.getD k []).take j) : fj P k (j + 1) ((P.getD k []).getD j 0) = fj P k j ((P.getD k []).getD j 0) + 1 := by
  unfold fj
  rw [if_pos ((mem_next _ j _ hj).2 (.inr rfl)), if_neg h]
theorem fj_le (P : List (List Int)) (k j : Nat) (x : Int) : fj P k j x ≤ k + 1 := by
  unfold fj
  have h1 := fr_le (P.take k) x
  have h2 : (P.take k).length ≤ k := by rw [List.length_take]; omega
  split <;> omega

def klI (x : Int) : Lit := .int .i64 x
theorem klI_inj {x y : Int} (h : klI x = klI y) : x = y := by
  unfold klI at h
  simpa using h
theorem klI_key (x : Int) : WideAt.IsKeyLit (klI x) := trivial
def cntD (a b : Int) : DataW Unit := .agg [.lit (.int .i64 a), .lit (.int .i64 b)]
theorem cntD_inj {a b c d : Int} (h : cntD a b = cntD c d) : a = c ∧ b = d := by
  unfold cntD at h
  simpa using h
/-- How a count reads. -/
def cntElem : Value → Option (DataW Unit × List MemPlace)
  | .agg cs => match cs.toList with
    | [.int .i64 a, .int .i64 b] => some (cntD a b, [])
    | _ => none
  | _ => none
def cntV (c : Int × Int) : Value := .agg #[.int .i64 c.1, .int .i64 c.2]
theorem cntElem_mk (c : Int × Int) : cntElem (cntV c) = some (cntD c.1 c.2, []) := rfl
theorem cntElem_inv {v : Value} {z : DataW Unit × List MemPlace} (h : cntElem v = some z) : ∃ c, v = cntV c ∧ z = (cntD c.1 c.2, []) := by
  unfold cntElem at h
  split at h
  · rename_i cs
    split at h
    · rename_i a b e
      cases h
      refine ⟨(a, b), ?_, rfl⟩
      unfold cntV
      congr 1
      exact Array.toList_inj.1 e
    · cases h
  · cases h
theorem lawI : Keyed Try.prog 3 := int_keyed Try.underlying3
theorem keyI {x : Int} (h : wf64 x) : keyOf Try.prog 3 (.int .i64 x) = some (klI x) := keyOf_int_mk Try.underlying3 (wf_lit h)
theorem zeroC (w : World) : (zeroValue 37).run Try.prog w = .ok (cntV (0, 0)) w := by kernel_rfl
/-- D tells of each number in how many of the first k rows (and of row k the first j) it stands, and in which it stood last. -/
structure Ct (P : List (List Int)) (k j : Nat) (D : DataW Unit) : Prop where
  tidy : Tidy D
  has : ∀ x, wf64 x → Maps.has D (klI x) = decide (0 < fj P k j x)
  cnt : ∀ x, wf64 x → 0 < fj P k j x → ∃ l : Nat, (∀ z, D.atKey (klI x) z = cntD (fj P k j x) l) ∧ (l = k ↔ x ∈ (P.getD k []).take j) ∧ l ≤ k
theorem Ct.start (P : List (List Int)) : Ct P 0 0 (.map []) :=
  ⟨tidy_empty, fun x _ => by rw [fj_zero]; simp [has_eq, fr], fun x _ h => by rw [fj_zero] at h; simp [fr] at h⟩
theorem Ct.row {P : List (List Int)} {k : Nat} {D : DataW Unit} (h : Ct P k (P.getD k []).length D) (hk : k < P.length) : Ct P (k + 1) 0 D := by
  refine ⟨h.tidy, fun x hx => by rw [h.has x hx, fj_all P k x hk, fj_zero], fun x hx hp => ?_⟩
  rw [fj_zero, ← fj_all P k x hk] at hp ⊢
  obtain ⟨l, h1, h2, h3⟩ := h.cnt x hx hp
  exact ⟨l, h1, by simp; omega, by omega⟩
theorem Ct.old {P : List (List Int)} {k j : Nat} {D : DataW Unit} (h : Ct P k j D) (hj : j < (P.getD k []).length) (hm : (P.getD k []).getD j 0 ∈ (P.getD k []).take j) : Ct P k (j + 1) D := by
  refine ⟨h.tidy, fun x hx => by rw [h.has x hx, fj_old hj hm], fun x hx hp => ?_⟩
  rw [fj_old hj hm] at hp ⊢
  obtain ⟨l, h1, h2, h3⟩ := h.cnt x hx hp
  refine ⟨l, h1, ?_, h3⟩
  rw [h2, mem_next _ j x hj]
  exact ⟨.inl, fun h' => h'.elim id fun e => e ▸ hm⟩
theorem Ct.new {P : List (List Int)} {k j : Nat} {D : DataW Unit} (h : Ct P k j D) (hj : j < (P.getD k []).length) (hm : (P.getD k []).getD j 0 ∉ (P.getD k []).take j) : Ct P k (j + 1) (D.put (klI ((P.getD k []).getD j 0)) (cntD ((fj P k j ((P.getD k []).getD j 0) : Int) + 1) k)) := by
  have hn := fj_new hj hm
  have hmx := mem_next (P.getD k []) j
  refine ⟨h.tidy.put (klI_key _) _, fun x hx => ?_, fun x hx hp => ?_⟩
  · by_cases e : x = (P.getD k []).getD j 0
    · rw [e, has_put_same h.tidy.isMap (klI_key _), hn]
      simp
    · rw [has_put_other (fun h' => e (klI_inj h')), h.has x hx, fj_other hj e]
  · by_cases e : x = (P.getD k []).getD j 0
    · refine ⟨k, fun z => ?_, ?_, Nat.le_refl _⟩
      · rw [e, atKey_put_same h.tidy.isMap (klI_key _), hn]
        rfl
      · rw [hmx x hj]
        exact ⟨fun _ => .inr e, fun _ => rfl⟩
    · rw [fj_other hj e] at hp ⊢
      obtain ⟨l, h1, h2, h3⟩ := h.cnt x hx hp
      refine ⟨l, fun z => by rw [atKey_put_other (fun h' => e (klI_inj h')), h1], ?_, h3⟩
      rw [h2, hmx x hj]
      exact ⟨.inl, fun h' => h'.elim id fun e' => absurd e' e⟩
/-- What a look-up finds. -/
theorem Ct.look {P : List (List Int)} {k j : Nat} {D : DataW Unit} (h : Ct P k j D) {x : Int} (hx : wf64 x) {c : Int × Int} (hc : D.atKey (klI x) (cntD 0 0) = cntD c.1 c.2) :
    c.1 = (fj P k j x : Int) ∧ ((c.1 = 0 ∨ c.2 ≠ (k : Int)) ↔ x ∉ (P.getD k []).take j) := by
  rcases Nat.eq_zero_or_pos (fj P k j x) with h0 | h0
  · have hh := h.has x hx
    rw [h0] at hh
    rw [atKey_of_not_has hh] at hc
    obtain ⟨e1, e2⟩ := cntD_inj hc
    rw [h0, ← e1]
    refine ⟨rfl, fun _ hm => ?_, fun _ => .inl rfl⟩
    unfold fj at h0
    rw [if_pos hm] at h0
    omega
  · obtain ⟨l, h1, h2, h3⟩ := h.cnt x hx h0
    rw [h1] at hc
    obtain ⟨e1, e2⟩ := cntD_inj hc
    rw [← e1, ← e2, ← h2]
    refine ⟨rfl, ?_⟩
    omega
theorem wpList_lookup_cnt (w : World) {ops : Array Oper} {rest : List Oper} {o : Oper} {a : Act} {Q : Exit → Act → World → Prop}
    (hg : o.guard = none) (m x : Operand) (hop : o.op = Op.lookup 34 m x false) (b n : Nat) (D : DataW Unit)
    (hm : a.eval m = .map (some b)) (hown : w.ownsMap Try.prog 3 cntElem b n D) (z : Int) (hz : wf64 z) (hx : a.eval x = .int .i64 z)
    (hK : ∀ c : Int × Int, D.atKey (klI z) (cntD 0 0) = cntD c.1 c.2 → wpList Try.prog ops Q rest (a.put o.dst (.agg #[.int .i64 c.1, .int .i64 c.2])) w) :
    wpList Try.prog ops Q (o :: rest) a w := by
  refine wpList_plain hg fun K' hK' => ?_
  obtain ⟨v, ps, hrun, hv⟩ := hown.lookup lawI Try.underlying34 (zeroC w) (cntElem_mk (0, 0)) (keyI hz)
  obtain ⟨c, rfl, hc⟩ := cntElem_inv hv
  simp only [Prod.mk.injEq] at hc
  unfold cntV at hrun
  unfold Oper.wp
  simp [execOp, hop, hm, hx, hrun, Result.andThen]
  exact hK' _ _ (hK c hc.1)
end Go.Proofs.Ytmkppbcngpgkdab

/-
  Rows of rows and of ranks that a call builds, one after another.
-/
import Derived.Test.YtmkppbcngpgkdaaOLawL
namespace Go.Proofs.Ytmkppbcngpgkdaa
open Go.RowKit Go.Maps

/-- A slice, as a value. -/
def slV (s : Option Addr × Nat × Nat) : Value := .slice s.1 s.2.1 s.2.2
theorem slV_one (s : Option Addr × Nat × Nat) : (slV s).oneCell' = true := rfl
/-- bv holds the rows, rv the ranks; none of them lies in another's block. -/
structure Bw (B : Nat) (w : World) (bv rv : Value) (vs : List (Option Addr × Nat × Nat)) (rows : List (List Int)) (rs : List Int) : Prop where
  len : vs.length = rows.length
  brow : w.ownsRow B 25 1 bv vs.length (vs.map slV)
  cells : ∀ j, j < rows.length → (vs.getD j (none, 0, 0)).2.1 = (rows.getD j []).length ∧ RdI (fun k => B ≤ k ∧ k < w.heap.size ∧ bv.ownBlock ≠ some k ∧ rv.ownBlock ≠ some k) w (vs.getD j (none, 0, 0)).1 (vs.getD j (none, 0, 0)).2.2 (rows.getD j [])
  rrow : w.ownsRow B 2 1 rv rs.length (rs.map (Value.int .i64))
  apart : ∀ k, bv.ownBlock = some k → rv.ownBlock ≠ some k
theorem Bw.nil (B : Nat) (w : World) : Bw B w nilS nilS [] [] [] := ⟨rfl, World.ownsRow_nil _ _ _ _, fun j hj => absurd hj (by simp), World.ownsRow_nil _ _ _ _, by simp [Value.ownBlock]⟩
theorem getD_snoc {α : Type} (l : List α) (x d : α) (j : Nat) : (l ++ [x]).getD j d = if j < l.length then l.getD j d else if j = l.length then x else d := by
  simp only [List.getD_eq_getElem?_getD]
  split
  · rename_i h; rw [List.getElem?_append_left h]
  · rename_i h
    split
    · rename_i h'; subst h'; simp
    · rw [List.getElem?_eq_none (by simp; omega)]; rfl
section
variable {B : Nat} {w w1 w2 : World} {bv rv : Value} {vs : List (Option Addr × Nat × Nat)} {rows : List (List Int)} {rs : List Int}
theorem Bw.row {lv bv' : Value} {l : List Int} {tr : Option Addr × Nat × Nat} (h : Bw B w bv rv vs rows rs) (hB : B ≤ w.heap.size) (hb : Below w.heap.size w w1) (hl : w1.ownsRow w.heap.size 3 1 lv l.length (l.map (Value.int .i64))) (htr : lv = slV tr)
    (ho : w2.ownsRow B 25 1 bv' (vs ++ [tr]).length ((vs ++ [tr]).map slV)) (hk : Keep (bv.ownBlock = some ·) w1 w2) (hlo : bv'.ownBlock = bv.ownBlock ∨ ∀ k, bv'.ownBlock = some k → w1.heap.size ≤ k) : Bw B w2 bv' rv (vs ++ [tr]) (rows ++ [l]) rs := by
  have hz := hb.size
  have hz2 := hk.size
  have hnew : ∀ k, k < w1.heap.size → bv.ownBlock ≠ some k → bv'.ownBlock ≠ some k := by
    intro k h1 h2 e
    rcases hlo with h' | h'
    · exact h2 (h'.symm.trans e)
    · have := h' k e; omega
  refine ⟨by simp [h.len], ho, fun j hj => ?_, ?_, fun k hk' e => ?_⟩
  · rw [getD_snoc, getD_snoc, h.len]
    simp only [List.length_append, List.length_singleton] at hj
    by_cases hj' : j < rows.length
    · rw [if_pos hj', if_pos hj']
      obtain ⟨e1, r1⟩ := h.cells j hj'
      refine ⟨e1, r1.carry (fun k hk' => ?_) fun k hk' => ⟨hk'.1, by omega, hnew k (by omega) hk'.2.2.1, hk'.2.2.2⟩⟩
      rw [hk.block k (by omega) hk'.2.2.1]
      exact hb.block k hk'.2.1
    · rw [if_neg hj', if_pos (by omega), if_neg hj', if_pos (by omega)]
      subst htr
      obtain ⟨q, cq, e, hr⟩ := own_rd hl
      unfold slV at e
      simp only [Value.slice.injEq] at e
      obtain ⟨e1, e2, e3⟩ := e
      have hbn : ∀ k, (slV tr).ownBlock = some k → bv.ownBlock ≠ some k := fun k e e' => by have := (hl.lt k e).1; have := (h.brow.lt k e').2; omega
      refine ⟨e2, ?_⟩
      rw [e1, e3]
      refine hr.carry (fun k hk' => hk.block k (hl.lt k hk').2 (hbn k hk')) fun k hk' => ⟨by have := (hl.lt k hk').1; omega, by have := (hl.lt k hk').2; omega, hnew k (hl.lt k hk').2 (hbn k hk'), fun e => ?_⟩
      have := (hl.lt k hk').1
      have := (h.rrow.lt k e).2
      omega
  · refine own_same h.rrow fun k hk' => ?_
    have := (h.rrow.lt k hk').2
    rw [hk.block k (by omega) (fun e => h.apart k e hk')]
    exact hb.block k this
  · have := (h.rrow.lt k e).2
    exact hnew k (by omega) (fun e' => h.apart k e' e) hk'
theorem Bw.rank {rv' : Value} {x : Int} (h : Bw B w bv rv vs rows rs) (ho : w2.ownsRow B 2 1 rv' (rs ++ [x]).length ((rs ++ [x]).map (Value.int .i64))) (hk : Keep (rv.ownBlock = some ·) w w2) (hlo : rv'.ownBlock = rv.ownBlock ∨ ∀ k, rv'.ownBlock = some k → w.heap.size ≤ k) : Bw B w2 bv rv' vs rows (rs ++ [x]) := by
  have hz2 := hk.size
  have hnew : ∀ k, k < w.heap.size → rv.ownBlock ≠ some k → rv'.ownBlock ≠ some k := by
    intro k h1 h2 e
    rcases hlo with h' | h'
    · exact h2 (h'.symm.trans e)
    · have := h' k e; omega
  refine ⟨h.len, own_same h.brow (Same.of_keep hk fun k e => ⟨(h.brow.lt k e).2, h.apart k e⟩), fun j hj => ?_, ho, fun k hk' => hnew k (h.brow.lt k hk').2 (h.apart k hk')⟩
  obtain ⟨e1, r1⟩ := h.cells j hj
  exact ⟨e1, r1.carry (fun k hk' => hk.block k hk'.2.1 hk'.2.2.2) fun k hk' => ⟨hk'.1, by omega, hk'.2.2.1, hnew k hk'.2.1 hk'.2.2.2⟩⟩
theorem Bw.read (h : Bw B w bv rv vs rows rs) : ∃ q c q' c', bv = .slice q rows.length c ∧ rv = .slice q' rs.length c' ∧ RdR (· < w.heap.size) w q c rows ∧ RdI (· < w.heap.size) w q' c' rs := by
  obtain ⟨q', c', hr, hrr⟩ := own_rd h.rrow
  obtain ⟨q, c, hv, hrd⟩ := own_rd h.brow
  refine ⟨q, c, q', c', by rw [hv, h.len], hr, ⟨by have := hrd.1; rw [h.len] at this; exact this, fun j hj => ?_⟩, hrr.carry (fun _ _ => rfl) fun k e => (h.rrow.lt k e).2⟩
  obtain ⟨e1, r1⟩ := h.cells j hj
  have hjv : j < vs.length := by rw [h.len]; exact hj
  obtain ⟨b, o, hq, hO, hc⟩ := hrd.2 (by intro e; rw [e] at hjv; simp at hjv)
  refine ⟨b, o, _, _, hq, (h.brow.lt b hO).2, ?_, r1.carry (fun _ _ => rfl) fun k hk => hk.2.1⟩
  rw [hc j (vs.getD j (none, 0, 0)) (by rw [List.getElem?_eq_getElem hjv, getD_in hjv]), ← e1]
  rfl
end
/-- A parent, led backwards. -/
def bkZ (i : Nat) (x : Int) : Int := (x.tmod i + i).tmod i
theorem bkZ_in {i : Nat} (hi : 0 < i) (x : Int) : 0 ≤ bkZ i x ∧ bkZ i x < i ∧ -(i : Int) < x.tmod i ∧ x.tmod i < i := by
  have h1 : x.tmod i < i := Int.tmod_lt_of_pos x (by omega)
  have h2 : -(i : Int) < x.tmod i := by
    have := Int.tmod_lt_of_pos (-x) (b := (i : Int)) (by omega)
    rw [Int.neg_tmod] at this
    omega
  unfold bkZ
  exact ⟨Int.tmod_nonneg _ (by omega), Int.tmod_lt_of_pos _ (by omega), h2, h1⟩
/-- The rows, led backwards. -/
def bkR (P : List (List Int)) (i : Nat) : List Int := if i = 0 then [] else (P.getD i []).map (bkZ i)
def bkP (P : List (List Int)) (n : Nat) : List (List Int) := (List.range n).map (bkR P)
def bkK (R : List Int) (n : Nat) : List Int := (List.range n).map fun i => R.getD i 0
theorem bkP_snoc (P : List (List Int)) (n : Nat) : bkP P (n + 1) = bkP P n ++ [bkR P n] := by simp [bkP, List.range_succ]
theorem bkK_snoc (R : List Int) (n : Nat) : bkK R (n + 1) = bkK R n ++ [R.getD n 0] := by simp [bkK, List.range_succ]
theorem bkP_len (P : List (List Int)) (n : Nat) : (bkP P n).length = n := by simp [bkP]
theorem bkK_len (R : List Int) (n : Nat) : (bkK R n).length = n := by simp [bkK]
theorem bkP_at (P : List (List Int)) (n i : Nat) (hi : i < n) : (bkP P n).getD i [] = bkR P i := by
  rw [getD_in (by rw [bkP_len]; exact hi)]
  simp [bkP]
theorem bkR_in {P : List (List Int)} {i : Nat} {x : Int} (hx : x ∈ bkR P i) : 0 ≤ x ∧ x < i := by
  unfold bkR at hx
  split at hx
  · simp at hx
  · obtain ⟨y, _, rfl⟩ := List.mem_map.1 hx
    have := bkZ_in (i := i) (by omega) y
    exact ⟨this.1, this.2.1⟩
theorem bkP_ins (P : List (List Int)) (n : Nat) : insB n (bkP P n) = true := by
  unfold insB rowB
  simp only [List.all_eq_true, decide_eq_true_eq]
  intro r hr x hx
  obtain ⟨i, hi, rfl⟩ := List.mem_map.1 hr
  have := bkR_in hx
  have := List.mem_range.1 hi
  omega
theorem bkP_lin (P : List (List Int)) (R : List Int) (n : Nat) : ∃ L, linP (bkP P n) (bkK R n) = some L := by
  have hin : insB (bkP P n).length (bkP P n) = true := by rw [bkP_len]; exact bkP_ins P n
  obtain ⟨L, hL⟩ := lin_back (Q := toQ (bkP P n)) (R := bkK R n) (fun i p hp => by
    have h1 : p ∈ par (toQ (bkP P n)) i := hp
    have h2 := (zs_mem _ _).2 h1
    rw [par_toQ hin] at h2
    rcases Nat.lt_or_ge i n with h' | h'
    · rw [bkP_at P n i h'] at h2
      have := bkR_in h2
      omega
    · rw [List.getD_eq_getElem?_getD, List.getElem?_eq_none (by rw [bkP_len]; exact h')] at h2
      simp at h2)
  exact ⟨L, by rw [linP_ok (by rw [bkP_len, bkK_len]) hin]; exact hL⟩
theorem bkR_len (P : List (List Int)) (i m : Nat) (h : ∀ r ∈ P, r.length ≤ m) : (bkR P i).length ≤ m := by
  unfold bkR
  split
  · simp
  · rw [List.length_map]
    rcases Nat.lt_or_ge i P.length with h' | h'
    · exact h _ (getD_inm h')
    · rw [List.getD_eq_getElem?_getD, List.getElem?_eq_none h']; simp
end Go.Proofs.Ytmkppbcngpgkdaa

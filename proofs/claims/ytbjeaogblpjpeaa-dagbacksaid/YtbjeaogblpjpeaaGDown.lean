/-
  The places that a walk downwards has met.
-/
import Derived.Test.YtbjeaogblpjpeaaGMarked
namespace Go.Proofs.Ytbjeaogblpjpeaa
open Go.RowKit Go.Maps

/-- The places from k on, below M, to which a way leads, the greatest first. -/
noncomputable def downs (M : Nat) (E : Nat → List Nat) (F : Nat → Prop) (k : Nat) : List Nat := open Classical in ((List.range M).filter fun j => decide (k ≤ j ∧ Rch E F j)).reverse
theorem downs_top (M : Nat) (E : Nat → List Nat) (F : Nat → Prop) : downs M E F M = [] := by
  unfold downs
  rw [List.reverse_eq_nil_iff, List.filter_eq_nil_iff]
  intro j hj
  have := List.mem_range.1 hj
  simp
  omega
theorem downs_yes {M : Nat} {E : Nat → List Nat} {F : Nat → Prop} {k : Nat} (hk : k < M) (h : Rch E F k) : downs M E F k = downs M E F (k + 1) ++ [k] := by
  unfold downs
  rw [← List.reverse_cons]
  congr 1
  refine rise_ext (rise_filter _ _) ?_ fun x => ?_
  · rw [List.pairwise_cons]
    refine ⟨fun x hx => ?_, rise_filter _ _⟩
    simp at hx
    omega
  · simp only [List.mem_cons, List.mem_filter, List.mem_range, decide_eq_true_eq]
    constructor
    · rintro ⟨h1, h2, h3⟩
      by_cases e : x = k
      · exact .inl e
      · exact .inr ⟨h1, by omega, h3⟩
    · rintro (rfl | ⟨h1, h2, h3⟩)
      · exact ⟨hk, Nat.le_refl _, h⟩
      · exact ⟨h1, by omega, h3⟩
theorem downs_no {M : Nat} {E : Nat → List Nat} {F : Nat → Prop} {k : Nat} (h : ¬ Rch E F k) : downs M E F k = downs M E F (k + 1) := by
  unfold downs
  congr 1
  refine rise_ext (rise_filter _ _) (rise_filter _ _) fun x => ?_
  simp only [List.mem_filter, List.mem_range, decide_eq_true_eq]
  constructor
  · rintro ⟨h1, h2, h3⟩
    by_cases e : x = k
    · subst e; exact absurd h3 h
    · exact ⟨h1, by omega, h3⟩
  · rintro ⟨h1, h2, h3⟩
    exact ⟨h1, by omega, h3⟩
theorem downs_zero (M : Nat) (E : Nat → List Nat) (F : Nat → Prop) : (downs M E F 0).reverse = reach M E F := by
  unfold downs reach
  rw [List.reverse_reverse]
  refine rise_ext (rise_filter _ _) (rise_filter _ _) fun x => ?_
  simp only [List.mem_filter, List.mem_range, decide_eq_true_eq, Nat.zero_le, true_and]
theorem downs_len (M : Nat) (E : Nat → List Nat) (F : Nat → Prop) (k : Nat) : (zs (downs M E F k)).length ≤ M := by
  rw [zs_len]
  unfold downs
  rw [List.length_reverse]
  exact Nat.le_trans (List.length_filter_le _ _) (by simp)
theorem own_ne_bk {w : World} {B n cb : Nat} {v : Value} {xs : List Value} {C : List Bool} (h : w.ownsRow B 3 1 v n xs) (hb : Bk w cb C) : v.ownBlock ≠ some cb := by
  rcases h.2 with ⟨rfl, _⟩ | ⟨g, cap, cur, rfl, _, hg, _⟩
  · intro e; cases e
  · intro e
    cases e
    unfold Bk at hb
    rw [hg] at hb
    cases hb
theorem bk_grown {w w' : World} {B n cb : Nat} {v : Value} {xs : List Value} {C : List Bool} (h : w.ownsRow B 3 1 v n xs) (hb : Bk w cb C) (hg : w.grownBy w' v.ownBlock) : Bk w' cb C :=
  hb.same (hg.block cb (obj_lt hb) fun e => own_ne_bk h hb e.symm)
theorem bk_below {w w' : World} {cb : Nat} {C : List Bool} (hb : Bk w cb C) (h : Below w.heap.size w w') : Bk w' cb C := hb.same (h.block cb (obj_lt hb))
theorem own_keep {S : Nat → Prop} {w w' : World} {B e size n : Nat} {v : Value} {xs : List Value} (h : w.ownsRow B e size v n xs) (hk : Keep S w w') (hS : ∀ k, v.ownBlock = some k → ¬ S k) : w'.ownsRow B e size v n xs :=
  own_same h (Same.of_keep hk fun k hk' => ⟨(h.lt k hk').2, hS k hk'⟩)
theorem below_keep {B : Nat} {w wr w' : World} {b : Nat} (hb : Below B w wr) (hk : Keep (· = b) wr w') (hB : B ≤ wr.heap.size) (hbb : B ≤ b) : Below B w w' :=
  hb.trans (hk.below hB fun k h e => by omega)
theorem own_cast {α : Type} {enc : α → Value} {w : World} {B e : Nat} {v : Value} {a b : List α} (h : w.ownsRow B e 1 v a.length (a.map enc)) (hab : b = a) : w.ownsRow B e 1 v b.length (b.map enc) := by rw [hab]; exact h
/-- What a walk over ways tells. -/
def ReachP (n : Nat) (E : Nat → List Nat) (F : Nat → Prop) (w : World) (e : Ending) (w' : World) : Prop :=
  ∃ v, e = .returned v ∧ w'.ownsRow w.heap.size 3 1 v (zs (reach n E F)).length ((zs (reach n E F)).map (Value.int .i64)) ∧ Below w.heap.size w w'
/-- The marks that a walk has left at k. -/
def ComeP (M : Nat) (E : Nat → List Nat) (F : Nat → Prop) (k : Nat) (C : List Bool) : Prop := C.length = M ∧ ∀ j, j < M → (C.getD j false = true ↔ Cm E F k j)
theorem ComeP.yes {M : Nat} {E : Nat → List Nat} {F : Nat → Prop} {k : Nat} {C : List Bool} (h : ComeP M E F (k + 1) C) (hk : F k ∨ Rch E F k) : ComeP M E F k (setAll C (E k)) := by
  refine ⟨by rw [setAll_len]; exact h.1, fun j hj => ?_⟩
  rw [setAll_at C (E k) j (by rw [h.1]; exact hj), cm_yes hk, ← h.2 j hj]
  simp
theorem ComeP.no {M : Nat} {E : Nat → List Nat} {F : Nat → Prop} {k : Nat} {C : List Bool} (h : ComeP M E F (k + 1) C) (hk : ¬ (F k ∨ Rch E F k)) : ComeP M E F k C :=
  ⟨h.1, fun j hj => by rw [cm_no hk]; exact h.2 j hj⟩
theorem come_top {M : Nat} {E : Nat → List Nat} {F : Nat → Prop} (hE : ∀ i, ∀ j ∈ E i, j < i) (hF : ∀ i, F i → i < M) : ComeP M E F M (List.replicate M false) :=
  ⟨by simp, fun j _ => by rw [rep_at]; exact ⟨fun h => absurd h Bool.false_ne_true, fun h => absurd h (cm_top hE hF)⟩⟩
end Go.Proofs.Ytbjeaogblpjpeaa

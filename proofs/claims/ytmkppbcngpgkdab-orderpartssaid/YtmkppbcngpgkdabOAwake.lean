/-
  The chapter's examples hold.
-/
import Derived.Test.YtmkppbcngpgkdabOLinA
import Derived.Test.YtmkppbcngpgkdabOWithin
import Derived.Test.YtmkppbcngpgkdabOSame
namespace Go.Proofs.Ytmkppbcngpgkdab
open Go.RowKit Go.Maps

theorem row_new {α : Type} {enc : α → Value} (w : World) (xs : List α) (t : Nat) {w' : World} (hb : Below (w.heap.size + 1) (w.alloc (.cells (xs.map enc).toArray t)) w') : Rd enc (· = w.heap.size) w' (some ⟨w.heap.size, 0, none⟩) xs.length xs := by
  refine ⟨Nat.le_refl _, fun _ => ⟨w.heap.size, 0, rfl, rfl, fun j x hj => ?_⟩⟩
  rw [Nat.zero_add]
  exact cell_row (cur := xs.map enc) ((hb.block _ (by omega)).trans (heap_alloc_new _ _)) j _ (by rw [List.getElem?_map, hj]; rfl)
theorem ex_lin : linP [[2], [], []] [1, 3, 2] = some [2, 0, 1] := by decide +kernel
theorem ex_linear (w : World) : Calls Try.prog 12 #[.slice (some ⟨w.heap.size + 1, 0, none⟩) 3 3, .slice (some ⟨w.heap.size + 1 + 1, 0, none⟩) 3 3]
    (((w.alloc (.cells #[.int .i64 2] 3)).alloc (.cells #[.slice (some ⟨w.heap.size, 0, none⟩) 1 1, .slice none 0 0, .slice none 0 0] 24)).alloc (.cells #[.int .i64 1, .int .i64 3, .int .i64 2] 2))
    fun e w' => ∃ v, e = .returned (.tuple #[v, .int .i64 0]) ∧ w'.ownsRow w.heap.size 3 1 v 3 [.int .i64 2, .int .i64 0, .int .i64 1] ∧ Below w.heap.size w w' := by
  obtain ⟨w1, hw1⟩ : ∃ x, x = w.alloc (.cells #[.int .i64 2] 3) := ⟨_, rfl⟩
  obtain ⟨o, ho⟩ : ∃ o : Obj, o = Obj.cells #[.slice (some ⟨w.heap.size, 0, none⟩) 1 1, .slice none 0 0, .slice none 0 0] 24 := ⟨_, rfl⟩
  obtain ⟨w2, hw2⟩ : ∃ x, x = w1.alloc o := ⟨_, rfl⟩
  obtain ⟨w3, hw3⟩ : ∃ x, x = w2.alloc (.cells #[.int .i64 1, .int .i64 3, .int .i64 2] 2) := ⟨_, rfl⟩
  rw [← hw1, ← ho, ← hw2, ← hw3]
  have s1 : w1.heap.size = w.heap.size + 1 := by rw [hw1]; simp
  have s2 : w2.heap.size = w.heap.size + 1 + 1 := by rw [hw2]; simp [s1]
  have s3 : w3.heap.size = w.heap.size + 1 + 1 + 1 := by rw [hw3]; simp [s2]
  have b1 : Below w.heap.size w w1 := by rw [hw1]; exact (Below.refl _ _).alloc (Nat.le_refl _) _
  have b2 : Below w1.heap.size w1 w2 := by rw [hw2]; exact (Below.refl _ _).alloc (Nat.le_refl _) _
  have b3 : Below w2.heap.size w2 w3 := by rw [hw3]; exact (Below.refl _ _).alloc (Nat.le_refl _) _
  have b13 : Below w1.heap.size w1 w3 := b2.trans (b3.mono (by omega))
  have b03 : Below w.heap.size w w3 := b1.trans (b13.mono (by omega))
  have r0 : RdI (· < w3.heap.size) w3 (some ⟨w.heap.size, 0, none⟩) 1 [2] :=
    (row_new (enc := Value.int .i64) w [2] 3 (w' := w3) (by rw [← s1]; exact hw1 ▸ b13)).carry (fun _ _ => rfl) fun k hk => by omega
  have ro : w3.heap[w.heap.size + 1]? = some o := by
    rw [b3.block _ (by omega), hw2, ← s1]
    exact heap_alloc_new _ _
  have rr : RdI (· < w3.heap.size) w3 (some ⟨w.heap.size + 1 + 1, 0, none⟩) 3 [1, 3, 2] := by
    have := row_new (enc := Value.int .i64) w2 [1, 3, 2] 2 (w' := w3) (by rw [hw3]; exact Below.refl _ _)
    rw [s2] at this
    exact this.carry (fun _ _ => rfl) fun k hk => by omega
  have r : RdR (· < w3.heap.size) w3 (some ⟨w.heap.size + 1, 0, none⟩) 3 [[2], [], []] := by
    refine ⟨Nat.le_refl _, fun j hj => ?_⟩
    rw [ho] at ro
    have hj' : j < 3 := hj
    match j, hj' with
    | 0, _ => exact ⟨_, 0, _, _, rfl, by omega, cell_row (cur := [_, _, _]) ro 0 _ rfl, r0⟩
    | 1, _ => exact ⟨_, 0, _, _, rfl, by omega, cell_row (cur := [_, _, _]) ro 1 _ rfl, Rd.nil _ _ _ _ _⟩
    | 2, _ => exact ⟨_, 0, _, _, rfl, by omega, cell_row (cur := [_, _, _]) ro 2 _ rfl, Rd.nil _ _ _ _ _⟩
  have := linear_any [[2], [], []] [1, 3, 2] (some ⟨w.heap.size + 1, 0, none⟩) (some ⟨w.heap.size + 1 + 1, 0, none⟩) 3 3 w3 r rr (by decide) (by decide) (by decide)
  rw [ex_lin] at this
  refine this.mono ?_
  rintro e w' ⟨v, he, hown, hb⟩
  exact ⟨v, he, own_le hown (by omega), b03.trans (hb.mono (by omega))⟩
theorem ex_rs {l : List Int} (h : Rs [[1, 2], [2, 3]] 1 1 l) : l = [1, 3] := by
  refine riseZ_ext h.rise (by decide) fun x => ?_
  rw [h.mem x]
  constructor
  · rintro ⟨h1, h2, h3⟩
    have hx : x ∈ [1, 2] ∨ x ∈ [2, 3] := by
      obtain ⟨r, hr, hx⟩ := fr_pos.1 h1
      simp only [List.mem_cons, List.not_mem_nil, or_false] at hr
      rcases hr with rfl | rfl
      · exact .inl hx
      · exact .inr hx
    simp only [List.mem_cons, List.not_mem_nil, or_false] at hx ⊢
    rcases hx with (rfl | rfl) | (rfl | rfl)
    · exact .inl rfl
    · exact absurd h3 (by decide)
    · exact absurd h3 (by decide)
    · exact .inr rfl
  · intro hx
    simp only [List.mem_cons, List.not_mem_nil, or_false] at hx
    rcases hx with rfl | rfl
    · decide
    · decide
theorem ex_apart (w : World) : Calls Try.prog 7 #[.slice (some ⟨w.heap.size + 1 + 1, 0, none⟩) 2 2]
    (((w.alloc (.cells #[.int .i64 1, .int .i64 2] 3)).alloc (.cells #[.int .i64 2, .int .i64 3] 3)).alloc (.cells #[.slice (some ⟨w.heap.size, 0, none⟩) 2 2, .slice (some ⟨w.heap.size + 1, 0, none⟩) 2 2] 24))
    fun e w' => ∃ v, e = .returned v ∧ w'.ownsRow w.heap.size 3 1 v 2 [.int .i64 1, .int .i64 3] ∧ Below w.heap.size w w' := by
  obtain ⟨w1, hw1⟩ : ∃ x, x = w.alloc (.cells #[.int .i64 1, .int .i64 2] 3) := ⟨_, rfl⟩
  obtain ⟨w2, hw2⟩ : ∃ x, x = w1.alloc (.cells #[.int .i64 2, .int .i64 3] 3) := ⟨_, rfl⟩
  obtain ⟨o, ho⟩ : ∃ o : Obj, o = Obj.cells #[.slice (some ⟨w.heap.size, 0, none⟩) 2 2, .slice (some ⟨w.heap.size + 1, 0, none⟩) 2 2] 24 := ⟨_, rfl⟩
  obtain ⟨w3, hw3⟩ : ∃ x, x = w2.alloc o := ⟨_, rfl⟩
  rw [← hw1, ← ho, ← hw2, ← hw3]
  have s1 : w1.heap.size = w.heap.size + 1 := by rw [hw1]; simp
  have s2 : w2.heap.size = w.heap.size + 1 + 1 := by rw [hw2]; simp [s1]
  have s3 : w3.heap.size = w.heap.size + 1 + 1 + 1 := by rw [hw3]; simp [s2]
  have b1 : Below w.heap.size w w1 := by rw [hw1]; exact (Below.refl _ _).alloc (Nat.le_refl _) _
  have b2 : Below w1.heap.size w1 w2 := by rw [hw2]; exact (Below.refl _ _).alloc (Nat.le_refl _) _
  have b3 : Below w2.heap.size w2 w3 := by rw [hw3]; exact (Below.refl _ _).alloc (Nat.le_refl _) _
  have b13 : Below w1.heap.size w1 w3 := b2.trans (b3.mono (by omega))
  have b03 : Below w.heap.size w w3 := b1.trans (b13.mono (by omega))
  have r0 : RdI (· < w3.heap.size) w3 (some ⟨w.heap.size, 0, none⟩) 2 [1, 2] :=
    (row_new (enc := Value.int .i64) w [1, 2] 3 (w' := w3) (by rw [← s1]; exact hw1 ▸ b13)).carry (fun _ _ => rfl) fun k hk => by omega
  have r1 : RdI (· < w3.heap.size) w3 (some ⟨w.heap.size + 1, 0, none⟩) 2 [2, 3] := by
    have := row_new (enc := Value.int .i64) w1 [2, 3] 3 (w' := w3) (by rw [s1, ← s2]; exact hw2 ▸ b3)
    rw [s1] at this
    exact this.carry (fun _ _ => rfl) fun k hk => by omega
  have ro : w3.heap[w.heap.size + 1 + 1]? = some o := by
    rw [hw3, ← s2]
    exact heap_alloc_new _ _
  have r : RdR (· < w3.heap.size) w3 (some ⟨w.heap.size + 1 + 1, 0, none⟩) 2 [[1, 2], [2, 3]] := by
    refine ⟨Nat.le_refl _, fun j hj => ?_⟩
    rw [ho] at ro
    have hj' : j < 2 := hj
    match j, hj' with
    | 0, _ => exact ⟨_, 0, _, _, rfl, by omega, cell_row (cur := [_, _]) ro 0 _ rfl, r0⟩
    | 1, _ => exact ⟨_, 0, _, _, rfl, by omega, cell_row (cur := [_, _]) ro 1 _ rfl, r1⟩
  have := apart_any [[1, 2], [2, 3]] (some ⟨w.heap.size + 1 + 1, 0, none⟩) 2 w3 r (by decide) (by decide) (by
    intro x hx y hy
    simp only [List.mem_cons, List.not_mem_nil, or_false] at hx
    rcases hx with rfl | rfl <;> (simp only [List.mem_cons, List.not_mem_nil, or_false] at hy; rcases hy with rfl | rfl <;> (unfold wf64; omega)))
  refine this.mono ?_
  rintro e w' ⟨v, l, he, hown, hrs, _, hb⟩
  obtain rfl := ex_rs hrs
  exact ⟨v, he, own_le hown (by omega), b03.trans (hb.mono (by omega))⟩
theorem ex_same {B : Nat} {w : World} {v : Value} (l : List Int) (h : w.ownsRow B 3 1 v l.length (l.map (Value.int .i64))) (hl : l.length ≤ 1000) : ∃ q cq, v = .slice q l.length cq ∧
    Calls Try.prog 9 #[.slice q l.length cq, .slice (some ⟨w.heap.size, 0, none⟩) l.length l.length] (w.alloc (.cells (l.map (Value.int .i64)).toArray 3)) fun e w' => e = .returned (.bool true) ∧ Below w.heap.size w w' := by
  obtain ⟨q, cq, rfl, hr⟩ := own_rd h
  have hb : Below w.heap.size w (w.alloc (.cells (l.map (Value.int .i64)).toArray 3)) := (Below.refl _ _).alloc (Nat.le_refl _) _
  refine ⟨q, cq, rfl, ?_⟩
  have := same_any l l q (some ⟨w.heap.size, 0, none⟩) cq l.length (w.alloc (.cells (l.map (Value.int .i64)).toArray 3)) (hr.same (Same.of_below hb fun k hk => (h.lt k hk).2)) (row_new (enc := Value.int .i64) w l 3 (Below.refl _ _)) (by omega) (by omega)
  rw [decide_eq_true rfl] at this
  refine this.mono ?_
  rintro e w' ⟨he, hk⟩
  exact ⟨he, hb.trans (hk.below (by simp) fun _ _ h => h)⟩
theorem ex_same3 {B : Nat} {w : World} {v : Value} (h : w.ownsRow B 3 1 v 3 [.int .i64 2, .int .i64 0, .int .i64 1]) : ∃ q cq, v = .slice q 3 cq ∧
    Calls Try.prog 9 #[.slice q 3 cq, .slice (some ⟨w.heap.size, 0, none⟩) 3 3] (w.alloc (.cells #[.int .i64 2, .int .i64 0, .int .i64 1] 3)) fun e w' => e = .returned (.bool true) ∧ Below w.heap.size w w' := ex_same [2, 0, 1] h (by decide)
theorem ex_same2 {B : Nat} {w : World} {v : Value} (h : w.ownsRow B 3 1 v 2 [.int .i64 1, .int .i64 3]) : ∃ q cq, v = .slice q 2 cq ∧
    Calls Try.prog 9 #[.slice q 2 cq, .slice (some ⟨w.heap.size, 0, none⟩) 2 2] (w.alloc (.cells #[.int .i64 1, .int .i64 3] 3)) fun e w' => e = .returned (.bool true) ∧ Below w.heap.size w w' := ex_same [1, 3] h (by decide)

set_option maxRecDepth 100000 in
set_option maxHeartbeats 4000000 in
theorem awake_any (w : World) : Calls Try.prog 10 #[] w fun e w' => e = .returned (.bool true) ∧ Below w.heap.size w w' := by
  have hx := ex_linear w
  have HA : Hid (∀ wx, _) := ex_apart
  have tok1 : True := trivial
  go_enter Try.func10, Try.ntmps10
  go_wp2_with (first
    | (go_at_call 12; refine hx.mono ?_; rintro e w1 ⟨v1, rfl, ho1, hb1⟩; have hz1 := hb1.size; obtain ⟨q1, c1, rfl, hs1⟩ := ex_same3 ho1; clear ho1)
    | (go_at_call 9; have _t := tok1; refine hs1.mono ?_; rintro e w2 ⟨rfl, hb2⟩; have hb3 : Below w.heap.size w w2 := hb1.trans (hb2.mono hz1); have ha2 := HA.out w2; have hz3 := hb3.size; clear tok1)
    | (go_at_call 7; refine ha2.mono ?_; rintro e w4 ⟨v4, rfl, ho4, hb4⟩; have hb5 : Below w.heap.size w w4 := hb3.trans (hb4.mono hz3); have hz5 := hb5.size; obtain ⟨q4, c4, rfl, hs4⟩ := ex_same2 ho4; clear ho4)
    | (go_at_call 9; refine hs4.mono ?_; rintro e w6 ⟨rfl, hb6⟩; have hb7 : Below w.heap.size w w6 := hb5.trans (hb6.mono hz5)))
  go_ret
  exact ⟨rfl, hb7⟩
end Go.Proofs.Ytmkppbcngpgkdab

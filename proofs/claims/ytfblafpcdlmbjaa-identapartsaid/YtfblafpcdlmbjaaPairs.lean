/-
  The statement on names that are the same, walked.
-/
import Derived.Test.YtfblafpcdlmbjaaMake
import Derived.Laws.StructEq
namespace Go.Proofs.Ytfblafpcdlmbjaa
open Go.RowKit

theorem name_inj {c : UInt8} {l r l' r' : ByteArray} (hl : loc l = true) (hr : srv r = true) (hl' : loc l' = true) (hr' : srv r' = true) (h : name c l r = name c l' r') : l = l' ∧ r = r' := by
  have h1 := parts_name c l r hl hr
  rw [h, parts_name c l' r' hl' hr'] at h1
  simp only [Prod.mk.injEq] at h1
  exact ⟨h1.1.symm, h1.2.1.symm⟩

theorem eq_pair (a b c d : ByteArray) (w : World) : (Op.equalIn 10000 31 (.agg #[.string a, .string b]) (.agg #[.string c, .string d])).run Try.prog w = .ok ((a.toList == c.toList) && (b.toList == d.toList)) w := by
  have u9 := Try.underlying9
  have a9 := Try.isAgg9
  have z9 := Try.sizeOf9
  rw [show (10000 : Nat) = 9999 + 1 from rfl, Op.equalIn]
  simp only [Sem.run_bind, run_underlying Try.underlying31, Result.andThen_ok]
  simp only [Std.Legacy.Range.forIn_eq_forIn_range', Std.Legacy.Range.size, Nat.sub_zero, Nat.add_sub_cancel, Nat.div_one, List.range'_succ, List.range'_zero, List.forIn_cons, List.forIn_nil]
  go_simp
  cases h1 : (a.toList == c.toList) <;> cases h2 : (b.toList == d.toList) <;> simp_all

/-- The world with the two pairs boxed. -/
def boxed (w : World) (a b c d : ByteArray) : World := (w.alloc (.cells #[.string a, .string b] 31)).alloc (.cells #[.string c, .string d] 31)
theorem boxed_cells {w w' : World} {a b c d : ByteArray} (h : Below (boxed w a b c d).heap.size (boxed w a b c d) w') :
    w'.cell? ⟨w.heap.size, 0, none⟩ = some (.string a) ∧ w'.cell? ⟨w.heap.size, 1, none⟩ = some (.string b) ∧ w'.cell? ⟨w.heap.size + 1, 0, none⟩ = some (.string c) ∧ w'.cell? ⟨w.heap.size + 1, 1, none⟩ = some (.string d) := by
  have e : (boxed w a b c d).heap.size = w.heap.size + 1 + 1 := by simp [boxed]
  have g : ∀ i, (boxed w a b c d).cell? ⟨w.heap.size, i, none⟩ = (w.alloc (.cells #[.string a, .string b] 31)).cell? ⟨w.heap.size, i, none⟩ := fun i => World.cell?_alloc_past _ _ _ (by simp)
  refine ⟨?_, ?_, ?_, ?_⟩
  · rw [h.cell (by rw [e]; simp; omega), g]; exact World.cell?_alloc_at _ _ _ _ rfl
  · rw [h.cell (by rw [e]; simp; omega), g]; exact World.cell?_alloc_at _ _ _ _ rfl
  · rw [h.cell (by rw [e]; simp)]; exact World.cell?_alloc_at _ _ _ _ (by simp)
  · rw [h.cell (by rw [e]; simp)]; exact World.cell?_alloc_at _ _ _ _ (by simp)

set_option maxHeartbeats 2000000 in
theorem identApart_any (a b c d : ByteArray) (w : World) (za : a.size ≤ 140737488351232) (zb : b.size ≤ 140737488351232) (zc : c.size ≤ 140737488351232) (zd : d.size ≤ 140737488351232) :
    Calls Try.prog 7 #[.agg #[.string a, .string b], .agg #[.string c, .string d]] w fun e w' => e = .returned (.bool true) ∧ Below w.heap.size w w' := by
  have hb0 : Below w.heap.size w ((w.alloc (.cells #[.string a, .string b] 31)).alloc (.cells #[.string c, .string d] 31)) := ((Below.refl _ _).alloc (Nat.le_refl _) _).alloc (by simp) _
  by_cases hz : 1000 < a.size + b.size + c.size + d.size
  · have hz' : (1000 : Int) < (a.size : Int) + b.size + c.size + d.size := by omega
    go_enter Try.func7, Try.ntmps7
    go_wp2
    go_ret
    exact ⟨rfl, hb0⟩
  have hz' : ¬ (1000 : Int) < (a.size : Int) + b.size + c.size + d.size := by omega
  cases hab : (loc a && srv b) with
  | false =>
    have x1 := fun wx : World => makeUser_no a b wx za zb hab
    cases hcd : (loc c && srv d) with
    | false =>
      have x2 := fun wx : World => makeUser_no c d wx zc zd hcd
      go_enter Try.func7, Try.ntmps7
      go_wp2_with (first
        | (go_at_call 20; have _h := hb1; refine (x2 _).mono ?_; rintro e w2 ⟨rfl, hb2⟩)
        | (go_at_call 20; refine (x1 _).mono ?_; rintro e w1 ⟨rfl, hb1⟩; obtain ⟨g1, g2, g3, g4⟩ := boxed_cells hb1)
        | (go_at_call 13; refine (awake_any _).mono ?_; rintro e w3 ⟨rfl, hb3⟩))
      go_ret
      have c1 := hb0.trans (hb1.mono hb0.size)
      have c2 := c1.trans (hb2.mono c1.size)
      exact ⟨rfl, c2.trans (hb3.mono c2.size)⟩
    | true =>
      obtain ⟨hl, hr⟩ : loc c = true ∧ srv d = true := by simpa using hcd
      have x2 := fun wx : World => makeUser_yes c d wx hl hr
      go_enter Try.func7, Try.ntmps7
      go_wp2_with (first
        | (go_at_call 20; have _h := hb1; refine (x2 _).mono ?_; rintro e w2 ⟨rfl, hb2⟩)
        | (go_at_call 20; refine (x1 _).mono ?_; rintro e w1 ⟨rfl, hb1⟩; obtain ⟨g1, g2, g3, g4⟩ := boxed_cells hb1)
        | (go_at_call 13; refine (awake_any _).mono ?_; rintro e w3 ⟨rfl, hb3⟩))
      go_ret
      have c1 := hb0.trans (hb1.mono hb0.size)
      have c2 := c1.trans (hb2.mono c1.size)
      exact ⟨rfl, c2.trans (hb3.mono c2.size)⟩
  | true =>
    obtain ⟨hl0, hr0⟩ : loc a = true ∧ srv b = true := by simpa using hab
    have x1 := fun wx : World => makeUser_yes a b wx hl0 hr0
    cases hcd : (loc c && srv d) with
    | false =>
      have x2 := fun wx : World => makeUser_no c d wx zc zd hcd
      go_enter Try.func7, Try.ntmps7
      go_wp2_with (first
        | (go_at_call 20; have _h := hb1; refine (x2 _).mono ?_; rintro e w2 ⟨rfl, hb2⟩)
        | (go_at_call 20; refine (x1 _).mono ?_; rintro e w1 ⟨rfl, hb1⟩; obtain ⟨g1, g2, g3, g4⟩ := boxed_cells hb1)
        | (go_at_call 13; refine (awake_any _).mono ?_; rintro e w3 ⟨rfl, hb3⟩))
      go_ret
      have c1 := hb0.trans (hb1.mono hb0.size)
      have c2 := c1.trans (hb2.mono c1.size)
      exact ⟨rfl, c2.trans (hb3.mono c2.size)⟩
    | true =>
      obtain ⟨hl, hr⟩ : loc c = true ∧ srv d = true := by simpa using hcd
      have x2 := fun wx : World => makeUser_yes c d wx hl hr
      by_cases he : a = c ∧ b = d
      · obtain ⟨rfl, rfl⟩ := he
        have heq : ∀ wx : World, (Op.equalIn 10000 31 (.agg #[.string a, .string b]) (.agg #[.string a, .string b])).run Try.prog wx = .ok true wx := fun wx => by rw [eq_pair]; simp
        go_enter Try.func7, Try.ntmps7
        go_wp2_with (first
          | (go_at_call 20; have _h := hb1; refine (x2 _).mono ?_; rintro e w2 ⟨rfl, hb2⟩; obtain ⟨j1, j2, j3, j4⟩ := boxed_cells (hb1.trans (hb2.mono hb1.size)))
          | (go_at_call 20; refine (x1 _).mono ?_; rintro e w1 ⟨rfl, hb1⟩; obtain ⟨g1, g2, g3, g4⟩ := boxed_cells hb1)
          | (go_at_call 13; refine (awake_any _).mono ?_; rintro e w3 ⟨rfl, hb3⟩))
        go_ret
        have c1 := hb0.trans (hb1.mono hb0.size)
        have c2 := c1.trans (hb2.mono c1.size)
        exact ⟨rfl, c2.trans (hb3.mono c2.size)⟩
      · have hne : ((a.toList == c.toList) && (b.toList == d.toList)) = false := by
          rw [Bool.eq_false_iff]
          intro h
          simp only [Bool.and_eq_true, beq_iff_eq, Lib.toList_data] at h
          exact he ⟨ba_ext h.1, ba_ext h.2⟩
        have heq : ∀ wx : World, (Op.equalIn 10000 31 (.agg #[.string a, .string b]) (.agg #[.string c, .string d])).run Try.prog wx = .ok false wx := fun wx => by rw [eq_pair, hne]
        have hnn : ((name 64 a b).toList == (name 64 c d).toList) = false := by
          rw [Bool.eq_false_iff]
          intro h
          simp only [beq_iff_eq, Lib.toList_data] at h
          exact he (name_inj hl0 hr0 hl hr (ba_ext h))
        obtain ⟨u, hu⟩ : ∃ u, u = name 64 a b := ⟨_, rfl⟩
        obtain ⟨v, hv⟩ : ∃ v, v = name 64 c d := ⟨_, rfl⟩
        rw [← hu] at x1 hnn
        rw [← hv] at x2 hnn
        clear hu hv hne he
        go_enter Try.func7, Try.ntmps7
        go_wp2_with (first
          | (go_at_call 20; have _h := hb1; refine (x2 _).mono ?_; rintro e w2 ⟨rfl, hb2⟩; obtain ⟨j1, j2, j3, j4⟩ := boxed_cells (hb1.trans (hb2.mono hb1.size)))
          | (go_at_call 20; refine (x1 _).mono ?_; rintro e w1 ⟨rfl, hb1⟩; obtain ⟨g1, g2, g3, g4⟩ := boxed_cells hb1)
          | (go_at_call 13; refine (awake_any _).mono ?_; rintro e w3 ⟨rfl, hb3⟩))
        go_ret
        have c1 := hb0.trans (hb1.mono hb0.size)
        have c2 := c1.trans (hb2.mono c1.size)
        exact ⟨rfl, c2.trans (hb3.mono c2.size)⟩
end Go.Proofs.Ytfblafpcdlmbjaa

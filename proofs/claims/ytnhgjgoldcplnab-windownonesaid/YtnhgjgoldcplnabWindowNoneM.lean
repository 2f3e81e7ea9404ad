/-
  WindowNone: a sender and a receiver that are none take nothing; a piece may be so long, and no longer.
-/
import Derived.Test.YtnhgjgoldcplnabNG03
set_option maxRecDepth 100000
set_option maxHeartbeats 16000000
namespace Go.Proofs.Ytnhgjgoldcplnab
open Go.ChangeShapes Go.WideShapes Go.ChangeAt Go.RowKit
section
variable {H : Type} {enc : TypeId × Value → H} {W : World} {base : Nat} {v : Value} {d : DataW H} {p0 : List MemPlace}
theorem view_bool {t : TypeId} (ht : Try.prog.underlying t = some .bool) (hval : Value.okWide Try.prog W .any base t v) (h0 : DataW.Trod enc Try.prog W 0 (fun _ => true) true t v d p0) :
    ∃ n, v = .bool n ∧ d = .lit (.bool n) ∧ p0 = [] := by
 obtain ⟨fuel, hf⟩ := h0
 obtain ⟨n, hc, hx⟩ := DataW.trod_bool ht hf
 simp only [Prod.mk.injEq] at hx
 refine ⟨n, ?_, hx.1, hx.2⟩
 cases v <;> simp [Value.cells] at hc ⊢ <;> first | exact hc | (simp [Value.okWide, ht, Cell.okWide, Cell.ok] at hval)
end
theorem windowNone_lifted (os : Os) (started : os.Started) (H : Type) (enc : TypeId × Value → H) :
    ReturnsInHanded {} Try.checked os 3 .any (Rows.windowNoneSpec.pre6 enc Try.prog Try.f3 Rows.windowNoneRow.domain false) (Rows.windowNoneSpec.post enc Try.prog Try.f3 false true false false) := by
 refine returnsInHanded_of_change_sized (C := Try.checked) Try.own started (by kernel_rfl) Try.func3
  (ChangeSpec.witness6 (enc := enc) (C := Try.checked) false ⟨#[], #[.int .i64 0, .bool false], []⟩ 8 (by kernel_rfl) (by kernel_rfl) (by kernel_rfl) (by kernel_rfl)) ?_
 intro W base args ds gs before hval0 hW _ _ _
 have hval : ∀ (j : Nat) t v, Try.f3.params[j]? = some t → args[j]? = some v → Value.okWide Try.prog W .any base t v := hval0
 have hW' := hW
 obtain ⟨p, q, hA0, hV, rfl, _, _⟩ := hW
 have hA : DataW.TrodAll enc Try.prog W 0 (fun _ => true) true Try.f3.params.toList args.toList ds p := hA0
 rw [Try.params3] at hA hval
 obtain ⟨v0, v2, d0, d2, q0, q2, rfl, rfl, rfl, h0, h2⟩ := trodAll_two hA
 obtain ⟨rfl, rfl⟩ := trodVars_none hV
 clear hA0 hval0
 simp only [List.append_nil] at hW'
 obtain ⟨n0, rfl, rfl, rfl, w0⟩ := view_int Try.underlying2 (hval 0 2 v0 rfl rfl) h0
 obtain ⟨b0, rfl, rfl, rfl⟩ := view_bool Try.underlying4 (hval 1 4 v2 rfl rfl) h2
 have hw : wf64 n0 := by
  have h1 : IntKind.i64.min = -9223372036854775808 := rfl
  have h2 : IntKind.i64.max = 9223372036854775807 := rfl
  have := w0
  simp only [Lit.wf, Bool.and_eq_true, decide_eq_true_eq] at this
  unfold wf64
  omega
 refine (none_any W n0 hw b0).mono fun x W' ⟨he, hnx⟩ => ?_
 subst he
 exact ⟨_, rfl, _, _, _, [], [] ++ [], [], hW', trodAll_mk1 (shut_bool Try.underlying4 true), trodAll_mk2 (shut_int Try.underlying2 w0) (shut_bool Try.underlying4 b0), rfl, hnx.frame _, fun h => by cases h⟩
theorem windowNone_holds : Rows.WindowNoneSaid :=
 OpenClaim.holds_of_wide 3 Try.f3 rfl rfl rfl rfl rfl rfl rfl ⟨rfl, rfl, rfl, rfl, rfl⟩ rfl rfl rfl rfl rfl (by kernel_rfl) Try.func3 (by kernel_rfl)
  (of_decide_eq_true (by kernel_rfl)) (by unfold Func.isWrapper; first | (rw [if_pos (by decide +kernel)]; kernel_rfl) | (rw [if_neg (by decide +kernel)]; exact ⟨rfl, rfl⟩))
  (fun os started H enc _ => windowNone_lifted os started H enc)
end Go.Proofs.Ytnhgjgoldcplnab

/-
  DagNone: a graph that is none, and one that New did not make, have no things and take none; and the chapter's examples hold.
-/
import Derived.Test.YtbjeaogblpjpeabGView
import Derived.Test.YtbjeaogblpjpeabGLawN
namespace Go.Proofs.Ytbjeaogblpjpeab
open Go.ChangeShapes Go.WideShapes Go.ChangeAt Go.RowKit

theorem view_deed {H : Type} {enc : TypeId × Value → H} {W : World} {base : Nat} {v : Value} {d : DataW H} {p0 : List MemPlace} (hval : Value.okWide Try.prog W .any base 24 v)
    (h0 : DataW.Trod enc Try.prog W 0 (fun _ => true) true 24 v d p0) :
    ∃ (x : Dd) (p1 p2 : Option Addr) (c1 c2 : Nat), v = .agg #[.string x.name, .slice p1 x.prev.length c1, .slice p2 x.auth.length c2] ∧ RdS (· < W.heap.size) W p1 c1 x.prev ∧ RdS (· < W.heap.size) W p2 c2 x.auth ∧ wideD x := by
  obtain ⟨cs, rfl, _⟩ := okWide_struct Try.underlying24 hval
  obtain ⟨fuel, hf⟩ := h0
  obtain ⟨x, p1, p2, c1, c2, hcs, r⟩ := deed_of hf
  have e : cs = #[.string x.name, .slice p1 x.prev.length c1, .slice p2 x.auth.length c2] := by
    have : cs.toList = [.string x.name, .slice p1 x.prev.length c1, .slice p2 x.auth.length c2] := by simpa [Value.cells] using hcs
    rw [← Array.toList_inj, this]
  exact ⟨x, p1, p2, c1, c2, by rw [e], r⟩
set_option maxRecDepth 100000 in
theorem dagNone_lifted (os : Os) (started : os.Started) (H : Type) (enc : TypeId × Value → H) :
    ReturnsInHanded {} Try.checked os 3 .any (Rows.dagNoneSpec.pre6 enc Try.prog Try.f3 Rows.dagNoneRow.domain false) (Rows.dagNoneSpec.post enc Try.prog Try.f3 false true false false) := by
  refine returnsInHanded_of_change_sized (C := Try.checked) Try.own started (by kernel_rfl) Try.func3
    (ChangeSpec.witness6 (enc := enc) (C := Try.checked) false ⟨#[], #[.agg #[.string ByteArray.empty, .slice none 0 0, .slice none 0 0]], []⟩ 8 (by kernel_rfl) (by kernel_rfl) (by kernel_rfl) (by kernel_rfl)) ?_
  intro W base args ds gs before hval0 hW _ hsz0 _
  clear hsz0
  have hval : ∀ (j : Nat) t v, Try.f3.params[j]? = some t → args[j]? = some v → Value.okWide Try.prog W .any base t v := hval0
  have hW' := hW
  obtain ⟨p, q, hA0, hV, rfl, _, _⟩ := hW
  have hA : DataW.TrodAll enc Try.prog W 0 (fun _ => true) true Try.f3.params.toList args.toList ds p := hA0
  rw [Try.params3] at hA hval
  obtain ⟨v0, d0, rfl, rfl, h0⟩ := trodAll_one hA
  obtain ⟨rfl, rfl⟩ := trodVars_none hV
  clear hA0 hval0
  simp only [List.append_nil] at hW'
  have hlt0 : ∀ x ∈ p, x.block < W.heap.size := fun x hx => by simpa using hW'.lt x hx
  obtain ⟨x, p1, p2, c1, c2, rfl, r1, r2, hw⟩ := view_deed (hval 0 24 v0 rfl rfl) h0
  have hargs0 : ∀ (W' : World), Below W.heap.size W W' → DataW.Trod enc Try.prog W' 0 (fun b => decide (b < W.heap.size)) true 24 (.agg #[.string x.name, .slice p1 x.prev.length c1, .slice p2 x.auth.length c2]) d0 p :=
    fun W' hn => Below.trod Try.laidOut (by kernel_rfl) (of_decide_eq_true (by kernel_rfl)) h0 hn hlt0
  refine (dagNone_any x p1 p2 c1 c2 W r1 r2 hw).mono fun e W' ⟨he, hnx⟩ => ?_
  subst he
  exact ⟨_, rfl, _, _, _, [], p, [], hW', trodAll_mk1 (shut_bool Try.underlying4 true), trodAll_mk1 (hargs0 _ hnx), rfl, hnx.frame _, fun h => by cases h⟩

theorem dagNone_holds : Rows.DagNoneSaid :=
  OpenClaim.holds_of_wide 3 Try.f3 rfl rfl rfl rfl rfl rfl rfl ⟨rfl, rfl, rfl, rfl, rfl⟩ rfl rfl rfl rfl rfl (by kernel_rfl) Try.func3 (by kernel_rfl)
    (of_decide_eq_true (by kernel_rfl)) (by unfold Func.isWrapper; first | (rw [if_pos (by decide +kernel)]; kernel_rfl) | (rw [if_neg (by decide +kernel)]; exact ⟨rfl, rfl⟩))
    (fun os started H enc _ => dagNone_lifted os started H enc)
end Go.Proofs.Ytbjeaogblpjpeab

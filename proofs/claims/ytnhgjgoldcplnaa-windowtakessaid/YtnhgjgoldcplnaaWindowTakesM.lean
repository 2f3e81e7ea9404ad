/-
  WindowTakes: whatever pieces a receiver takes, it tells, wants and keeps what the document says, piece by piece, and keeps fewer than its window is wide (200 pieces of 500 bytes at most; else nothing is asked).
-/
import Derived.Test.YtnhgjgoldcplnaaDH05
set_option maxRecDepth 100000
set_option maxHeartbeats 16000000
namespace Go.Proofs.Ytnhgjgoldcplnaa
open Go.ChangeShapes Go.WideShapes Go.ChangeAt Go.RowKit
theorem windowTakes_lifted (os : Os) (started : os.Started) (H : Type) (enc : TypeId × Value → H) :
    ReturnsInHanded {} Try.checked os 4 .any (Rows.windowTakesSpec.pre6 enc Try.prog Try.f4 Rows.windowTakesRow.domain false) (Rows.windowTakesSpec.post enc Try.prog Try.f4 false true false false) := by
 refine returnsInHanded_of_change_sized (C := Try.checked) Try.own started (by kernel_rfl) Try.func4
  (ChangeSpec.witness6 (enc := enc) (C := Try.checked) false ⟨#[], #[.int .i64 0, .slice none 0 0], []⟩ 8 (by kernel_rfl) (by kernel_rfl) (by kernel_rfl) (by kernel_rfl)) ?_
 intro W base args ds gs before hval0 hW _ _ _
 have hval : ∀ (j : Nat) t v, Try.f4.params[j]? = some t → args[j]? = some v → Value.okWide Try.prog W .any base t v := hval0
 have hW' := hW
 obtain ⟨p, q, hA0, hV, rfl, _, _⟩ := hW
 have hA : DataW.TrodAll enc Try.prog W 0 (fun _ => true) true Try.f4.params.toList args.toList ds p := hA0
 rw [Try.params4] at hA hval
 obtain ⟨v0, v2, d0, d2, q0, q2, rfl, rfl, rfl, h0, h2⟩ := trodAll_two hA
 obtain ⟨rfl, rfl⟩ := trodVars_none hV
 clear hA0 hval0
 simp only [List.append_nil] at hW'
 obtain ⟨n0, rfl, rfl, rfl, w0⟩ := view_int Try.underlying3 (hval 0 3 v0 rfl rfl) h0
 have hlt2 : ∀ x ∈ q2, x.block < W.heap.size := fun x hx => hW'.lt x (by simp [hx])
 obtain ⟨l, hR, hl, hs⟩ := view_pieces (hval 1 40 v2 rfl rfl) h2
 have hargs2 : ∀ (W' : World), Below W.heap.size W W' → DataW.Trod enc Try.prog W' 0 (fun b => decide (b < W.heap.size)) true 40 v2 d2 q2 :=
  fun W' hn => Below.trod Try.laidOut (by kernel_rfl) (of_decide_eq_true (by kernel_rfl)) h2 hn hlt2
 refine (takes_any n0 hR hl hs).mono fun x W' ⟨he, hnx⟩ => ?_
 subst he
 exact ⟨_, rfl, _, _, _, [], [] ++ q2, [], hW', trodAll_mk1 (shut_bool Try.underlying4 true), trodAll_mk2 (shut_int Try.underlying3 w0) (hargs2 _ hnx), rfl, hnx.frame _, fun h => by cases h⟩
theorem windowTakes_holds : Rows.WindowTakesSaid :=
 OpenClaim.holds_of_wide 4 Try.f4 rfl rfl rfl rfl rfl rfl rfl ⟨rfl, rfl, rfl, rfl, rfl⟩ rfl rfl rfl rfl rfl (by kernel_rfl) Try.func4 (by kernel_rfl)
  (of_decide_eq_true (by kernel_rfl)) (by unfold Func.isWrapper; first | (rw [if_pos (by decide +kernel)]; kernel_rfl) | (rw [if_neg (by decide +kernel)]; exact ⟨rfl, rfl⟩))
  (fun os started H enc _ => windowTakes_lifted os started H enc)
end Go.Proofs.Ytnhgjgoldcplnaa

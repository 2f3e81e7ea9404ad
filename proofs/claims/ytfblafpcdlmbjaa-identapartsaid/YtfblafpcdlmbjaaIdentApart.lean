/-
  IdentApart: whatever two pairs of texts there are of which users can be made, the users are the same just if the pairs are; and the chapter's examples hold.
-/
import Derived.Test.YtfblafpcdlmbjaaPairs
import Derived.ProofKit
import Derived.SizedLaws
import Derived.OpenShut
namespace Go.Proofs.Ytfblafpcdlmbjaa
open Go.ChangeShapes Go.WideShapes Go.ChangeAt Go.RowKit
open Go.ChangeMaps (open_string shut_string)

theorem Try.own : ownKnob Try.prog.godebug = none := by kernel_rfl

theorem Try.laidOut : laidOutB Try.prog = true := by kernel_rfl
theorem Try.cells31 : Try.prog.cellsOf 31 = 2 := by kernel_rfl
theorem Try.cells9 : Try.prog.cellsOf 9 = 1 := by kernel_rfl

theorem view31 {H : Type} {enc : TypeId × Value → H} {W : World} {base : Nat} {v : Value} {d : DataW H} {p0 : List MemPlace} (hval : Value.okWide Try.prog W .any base 31 v)
    (h0 : DataW.Trod enc Try.prog W 0 (fun _ => true) true 31 v d p0) (hsz : ∀ n ∈ d.weights Try.prog 31, n ≤ reachBytes) :
    ∃ a b : ByteArray, v = .agg #[.string a, .string b] ∧ p0 = [] ∧ a.size ≤ 140737488351232 ∧ b.size ≤ 140737488351232 := by
  obtain ⟨cs, rfl⟩ : ∃ cs, v = .agg cs := by
    simp only [Value.okWide, Try.underlying31] at hval
    obtain ⟨cs, h1, _⟩ := hval
    exact ⟨cs, h1⟩
  obtain ⟨fuel, hf⟩ := h0
  obtain ⟨xs, m, _, hx, hl, hlen, hc⟩ := DataW.trod_array Try.underlying31 hf
  simp only [Prod.mk.injEq] at hx
  obtain ⟨rfl, rfl⟩ := hx
  rw [Try.cells31] at hl
  have hcs : (Value.agg cs).cells = cs := rfl
  rw [hcs] at hl hc
  obtain ⟨l, rfl⟩ : ∃ l : List Value, cs = l.toArray := ⟨cs.toList, by simp⟩
  simp only at hl hc
  match l, hl, xs, hlen with
  | [c0, c1], _, [y0, y1], _ =>
    have f0 := hc 0 (by omega)
    have f1 := hc 1 (by omega)
    rw [Try.cells9] at f0 f1
    obtain ⟨s1, e1, rfl, _⟩ := DataW.trod_string Try.underlying9 f0
    obtain ⟨s2, e2, rfl, _⟩ := DataW.trod_string Try.underlying9 f1
    cases e1; cases e2
    unfold DataW.weights at hsz
    rw [Try.underlying31] at hsz
    simp [DataW.weightsAll, DataW.weights, reachBytes] at hsz
    exact ⟨s1, s2, rfl, rfl, hsz.1, hsz.2⟩

set_option maxRecDepth 100000 in
theorem identApart_lifted (os : Os) (started : os.Started) (H : Type) (enc : TypeId × Value → H) :
    ReturnsInHanded {} Try.checked os 7 .any (Rows.identApartSpec.pre6 enc Try.prog Try.f7 Rows.identApartRow.domain false) (Rows.identApartSpec.post enc Try.prog Try.f7 false true false false) := by
  refine returnsInHanded_of_change_sized (C := Try.checked) Try.own started (by kernel_rfl) Try.func7
    (ChangeSpec.witness6 (enc := enc) (C := Try.checked) false ⟨#[], #[.agg #[.string ByteArray.empty, .string ByteArray.empty], .agg #[.string ByteArray.empty, .string ByteArray.empty]], []⟩ 8 (by kernel_rfl) (by kernel_rfl) (by kernel_rfl) (by kernel_rfl)) ?_
  intro W base args ds gs before hval0 hW _ hsz0 _
  have hsz : (DataW.weightsEach Try.prog (Try.f7.params.toList ++ Rows.identApartSpec.plain.varTypes Try.prog) (ds ++ gs)).all (· ≤ reachBytes) = true := hsz0
  clear hsz0
  have hval : ∀ (j : Nat) t v, Try.f7.params[j]? = some t → args[j]? = some v → Value.okWide Try.prog W .any base t v := hval0
  have hW' := hW
  obtain ⟨p, q, hA0, hV, rfl, _, _⟩ := hW
  have hA : DataW.TrodAll enc Try.prog W 0 (fun _ => true) true Try.f7.params.toList args.toList ds p := hA0
  rw [Try.params7] at hA hval hsz
  obtain ⟨v0, v1, d0, d1, q0, q1, rfl, rfl, rfl, h0, h1⟩ := trodAll_two hA
  obtain ⟨rfl, rfl⟩ := trodVars_none hV
  clear hA0 hval0
  simp only [List.append_nil] at hW'
  have hall : ∀ n ∈ d0.weights Try.prog 31 ++ d1.weights Try.prog 31, n ≤ reachBytes := by
    intro n hn
    have := List.all_eq_true.1 hsz n (by
      show n ∈ d0.weights Try.prog 31 ++ (d1.weights Try.prog 31 ++ _)
      rw [← List.append_assoc]
      exact List.mem_append_left _ hn)
    simpa using this
  obtain ⟨a, b, rfl, rfl, za, zb⟩ := view31 (hval 0 31 v0 rfl rfl) h0 (fun n hn => hall n (List.mem_append_left _ hn))
  obtain ⟨c, d, rfl, rfl, zc, zd⟩ := view31 (hval 1 31 v1 rfl rfl) h1 (fun n hn => hall n (List.mem_append_right _ hn))
  have hargs0 : ∀ (W' : World), Below W.heap.size W W' → DataW.Trod enc Try.prog W' 0 (fun b => decide (b < W.heap.size)) true 31 (.agg #[.string a, .string b]) d0 [] :=
    fun W' hn => Below.trod Try.laidOut (by kernel_rfl) (of_decide_eq_true (by kernel_rfl)) h0 hn (fun x hx => by cases hx)
  have hargs1 : ∀ (W' : World), Below W.heap.size W W' → DataW.Trod enc Try.prog W' 0 (fun b => decide (b < W.heap.size)) true 31 (.agg #[.string c, .string d]) d1 [] :=
    fun W' hn => Below.trod Try.laidOut (by kernel_rfl) (of_decide_eq_true (by kernel_rfl)) h1 hn (fun x hx => by cases hx)
  refine (identApart_any a b c d W za zb zc zd).mono fun e W' ⟨he, hnx⟩ => ?_
  subst he
  exact ⟨_, rfl, _, _, _, [], [], [], hW', trodAll_mk1 (shut_bool Try.underlying4 true), trodAll_mk2 (hargs0 _ hnx) (hargs1 _ hnx), rfl, hnx.frame _, fun h => by cases h⟩

theorem identApart_holds : Rows.IdentApartSaid :=
  OpenClaim.holds_of_wide 7 Try.f7 rfl rfl rfl rfl rfl rfl rfl ⟨rfl, rfl, rfl, rfl, rfl⟩ rfl rfl rfl rfl rfl (by kernel_rfl) Try.func7 (by kernel_rfl)
    (of_decide_eq_true (by kernel_rfl)) (by unfold Func.isWrapper; first | (rw [if_pos (by decide +kernel)]; kernel_rfl) | (rw [if_neg (by decide +kernel)]; exact ⟨rfl, rfl⟩))
    (fun os started H enc _ => identApart_lifted os started H enc)

end Go.Proofs.Ytfblafpcdlmbjaa

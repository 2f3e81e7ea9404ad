/-
  PowerLifts: whatever two levels there are, if they are few and the second may be put in the first's place, then nothing above the sender's own level is changed or made, nor another user's that is no less; and the chapter's examples hold.
-/
import Derived.Test.YtalmghbkdelaoaaPQ2
import Derived.OpenShut
namespace Go.Proofs.Ytalmghbkdelaoaa
open Go.ChangeShapes Go.WideShapes Go.ChangeAt Go.RowKit
open Go.ChangeMaps (open_string shut_string)

set_option maxRecDepth 100000 in
theorem view_two {H : Type} {enc : TypeId × Value → H} {W : World} {base : Nat} {v : Value} {d : DataW H} {p0 : List MemPlace} (hval : Value.okWide Try.prog W .any base 34 v)
    (h0 : DataW.Trod enc Try.prog W 0 (fun _ => true) true 34 v d p0) : ∃ a b pa pb, v = valTwo a b pa pb ∧ IsL (· < W.heap.size) W a pa ∧ IsL (· < W.heap.size) W b pb := by
  simp only [Value.okWide, Try.underlying34] at hval
  obtain ⟨cs, rfl, _⟩ := hval
  obtain ⟨fuel, hf⟩ := h0
  have hf' : DataW.trod enc Try.prog W 0 (fun _ => true) true fuel 34 cs.toList = some (d, p0) := by simpa [Value.cells] using hf
  obtain ⟨xs, m, _, _, hl, hlen, hx⟩ := DataW.trod_array Try.underlying34 hf'
  match xs, hlen with
  | [y0, y1], _ =>
    have f0 := hx 0 (by omega)
    have f1 := hx 1 (by omega)
    have r9 : Try.prog.cellsOf 24 = 9 := cellsPl
    generalize Try.prog.cellsOf 24 = c9 at f0 f1 r9
    subst r9
    obtain ⟨a, pa, ha, hIa⟩ := levels_of f0
    obtain ⟨b, pb, hb, hIb⟩ := levels_of f1
    refine ⟨a, b, pa, pb, ?_, hIa, hIb⟩
    have hc : Try.prog.cellsOf 34 = 18 := by kernel_rfl
    rw [hc] at hl
    have h2 : cs.toList = cellsL a pa ++ cellsL b pb := by
      rw [← ha, ← hb]
      have e9 : (cs.toList.drop (1 * 9)).take 9 = cs.toList.drop 9 := List.take_of_length_le (by simp at hl ⊢; omega)
      rw [e9]
      simp
    have h3 : cs = (cellsL a pa ++ cellsL b pb).toArray := by rw [← h2]
    rw [h3]
    rfl
set_option maxRecDepth 100000 in
theorem powerLifts_lifted (os : Os) (started : os.Started) (H : Type) (enc : TypeId × Value → H) :
    ReturnsInHanded {} Try.checked os 6 .any (Rows.powerLiftsSpec.pre6 enc Try.prog Try.f6 Rows.powerLiftsRow.domain false) (Rows.powerLiftsSpec.post enc Try.prog Try.f6 false true false false) := by
  refine returnsInHanded_of_change_sized (C := Try.checked) ownKP started (by kernel_rfl) Try.func6
    (ChangeSpec.witness6 (enc := enc) (C := Try.checked) false ⟨#[], #[.agg #[.int .i64 0, .int .i64 0, .int .i64 0, .int .i64 0, .int .i64 0, .int .i64 0, .int .i64 0, .slice none 0 0, .slice none 0 0, .int .i64 0, .int .i64 0, .int .i64 0, .int .i64 0, .int .i64 0, .int .i64 0, .int .i64 0, .slice none 0 0, .slice none 0 0], .string ⟨#[]⟩, .string ⟨#[]⟩], []⟩ 8 (by kernel_rfl) (by kernel_rfl) (by kernel_rfl) (by kernel_rfl)) ?_
  intro W base args ds gs before hval0 hW _ hsz0 _
  have hsz : (DataW.weightsEach Try.prog (Try.f6.params.toList ++ Rows.powerLiftsSpec.plain.varTypes Try.prog) (ds ++ gs)).all (· ≤ reachBytes) = true := hsz0
  clear hsz0
  have hval : ∀ (j : Nat) t v, Try.f6.params[j]? = some t → args[j]? = some v → Value.okWide Try.prog W .any base t v := hval0
  have hW' := hW
  obtain ⟨p, q, hA0, hV, rfl, _, _⟩ := hW
  have hA : DataW.TrodAll enc Try.prog W 0 (fun _ => true) true Try.f6.params.toList args.toList ds p := hA0
  rw [Try.params6] at hA hval hsz
  obtain ⟨v0, v1, v2, d0, d1, d2, q0, q1, q2, rfl, rfl, rfl, h0, h1, h2⟩ := trodAll_three hA
  obtain ⟨rfl, rfl⟩ := trodVars_none hV
  clear hA0 hval0
  simp only [List.append_nil] at hW'
  have hlt0 : ∀ x ∈ q0, x.block < W.heap.size := fun x hx => by simpa using hW'.lt x (List.mem_append_left _ (List.mem_append_left _ hx))
  obtain ⟨la, lb, pa, pb, rfl, hIa, hIb⟩ := view_two (hval 0 34 v0 rfl rfl) h0
  have hargs0 : ∀ (W' : World), Below W.heap.size W W' → DataW.Trod enc Try.prog W' 0 (fun b => decide (b < W.heap.size)) true 34 (valTwo la lb pa pb) d0 q0 :=
    fun W' hn => Below.trod laidOutP (by kernel_rfl) (of_decide_eq_true (by kernel_rfl)) h0 hn hlt0
  obtain ⟨s1, rfl, rfl, rfl, hs1⟩ := open_string Try.underlying9 (hval 1 9 v1 rfl rfl) h1
  obtain ⟨s2, rfl, rfl, rfl, hs2⟩ := open_string Try.underlying9 (hval 2 9 v2 rfl rfl) h2
  refine (powerLifts_any hIa hIb s1 s2).mono fun e W' ⟨he, hnx⟩ => ?_
  subst he
  exact ⟨_, rfl, _, _, _, [], q0 ++ ([] ++ []), [], hW', trodAll_mk1 (shut_bool Try.underlying4 true), trodAll_mk3 (hargs0 _ hnx) (shut_string Try.underlying9 hs1) (shut_string Try.underlying9 hs2), rfl, hnx.frame _, fun h => by cases h⟩
theorem powerLifts_holds : Rows.PowerLiftsSaid :=
  OpenClaim.holds_of_wide 6 Try.f6 rfl rfl rfl rfl rfl rfl rfl ⟨rfl, rfl, rfl, rfl, rfl⟩ rfl rfl rfl rfl rfl (by kernel_rfl) Try.func6 (by kernel_rfl)
    (of_decide_eq_true (by kernel_rfl)) (by unfold Func.isWrapper; first | (rw [if_pos (by decide +kernel)]; kernel_rfl) | (rw [if_neg (by decide +kernel)]; exact ⟨rfl, rfl⟩))
    (fun os started H enc _ => powerLifts_lifted os started H enc)
end Go.Proofs.Ytalmghbkdelaoaa

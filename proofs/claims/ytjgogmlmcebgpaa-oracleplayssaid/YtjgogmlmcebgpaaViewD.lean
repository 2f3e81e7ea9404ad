/-
  Deeds that came in, as the walks read them.
-/
import Derived.Test.YtjgogmlmcebgpaaView
import Derived.Test.YtjgogmlmcebgpaaFew
import Derived.Deep.Slices
namespace Go.Proofs.Ytjgogmlmcebgpaa
open Go.ChangeShapes Go.WideShapes Go.ChangeAt Go.RowKit

theorem Try.cells35 : Try.prog.cellsOf 35 = 5 := by kernel_rfl
theorem Try.cells3 : Try.prog.cellsOf 3 = 1 := by kernel_rfl
theorem Try.bytes35 : Try.prog.bytesOf 35 = 64 := by kernel_rfl

/-- A deed's cells, one behind the other. -/
def Dd.cells (d : Dd) : List Value := [.int .i64 d.kind, .string d.srv, .string d.txt, .string d.tok, .int .i64 d.n]
/-- A deed as it is read. -/
def Dd.datum {H : Type} (d : Dd) : DataW H := .agg [.lit (.int .i64 d.kind), .lit (.string d.srv.data.toList), .lit (.string d.txt.data.toList), .lit (.string d.tok.data.toList), .lit (.int .i64 d.n)]

theorem open_deed {H : Type} {enc : TypeId × Value → H} {W : World} {base : Nat} {spare : Nat → Bool} {held : Bool} {fuel : Nat} {cs : List Value} {x : DataW H × List MemPlace} (h : DataW.trod enc Try.prog W base spare held fuel 35 cs = some x) :
    ∃ d : Dd, cs = d.cells ∧ x = (d.datum, []) ∧ (Lit.int .i64 d.kind).wf = true ∧ (Lit.int .i64 d.n).wf = true := by
  obtain ⟨xs, n, _, rfl, hl, hlen, hf⟩ := DataW.trod_struct Try.underlying35 h
  rw [Try.cells35] at hl
  match cs, hl, xs, hlen with
  | [c0, c1, c2, c3, c4], _, [y0, y1, y2, y3, y4], _ =>
    have f0 : DataW.trod enc Try.prog W base spare held n 3 (([c0, c1, c2, c3, c4].drop 0).take (Try.prog.cellsOf 3)) = some y0 := hf 0 _ rfl
    have f1 : DataW.trod enc Try.prog W base spare held n 9 (([c0, c1, c2, c3, c4].drop 1).take (Try.prog.cellsOf 9)) = some y1 := hf 1 _ rfl
    have f2 : DataW.trod enc Try.prog W base spare held n 9 (([c0, c1, c2, c3, c4].drop 2).take (Try.prog.cellsOf 9)) = some y2 := hf 2 _ rfl
    have f3 : DataW.trod enc Try.prog W base spare held n 9 (([c0, c1, c2, c3, c4].drop 3).take (Try.prog.cellsOf 9)) = some y3 := hf 3 _ rfl
    have f4 : DataW.trod enc Try.prog W base spare held n 3 (([c0, c1, c2, c3, c4].drop 4).take (Try.prog.cellsOf 3)) = some y4 := hf 4 _ rfl
    rw [Try.cells3] at f0 f4
    rw [Try.cells9] at f1 f2 f3
    obtain ⟨k, e0, rfl, w0⟩ := DataW.trod_int Try.underlying3 f0
    obtain ⟨s1, e1, rfl, _⟩ := DataW.trod_string Try.underlying9 f1
    obtain ⟨s2, e2, rfl, _⟩ := DataW.trod_string Try.underlying9 f2
    obtain ⟨s3, e3, rfl, _⟩ := DataW.trod_string Try.underlying9 f3
    obtain ⟨m, e4, rfl, w4⟩ := DataW.trod_int Try.underlying3 f4
    cases e0; cases e1; cases e2; cases e3; cases e4
    exact ⟨⟨k, s1, s2, s3, m⟩, rfl, by simp [Dd.datum], w0, w4⟩

theorem fit_deed {H : Type} {d : Dd} (hk : (Lit.int .i64 d.kind).wf = true) (hn : (Lit.int .i64 d.n).wf = true) (hsz : ∀ n ∈ (d.datum (H := H)).weights Try.prog 35, n ≤ reachBytes) : d.fit := by
  have e : (d.datum (H := H)).weights Try.prog 35 = [d.srv.data.toList.length, d.txt.data.toList.length, d.tok.data.toList.length] := by
    unfold Dd.datum DataW.weights
    rw [Try.underlying35]
    simp [DataW.weightsEach, DataW.weights]
  rw [e] at hsz
  simp only [List.mem_cons, List.not_mem_nil, or_false, forall_eq_or_imp, forall_eq, reachBytes, Array.length_toList] at hsz
  exact ⟨hk, hn, hsz.1, hsz.2.1, hsz.2.2⟩

theorem at_of_cells {W : World} {base : Nat} {a : Addr} {d : Dd} (h : W.cells? base a 5 = some d.cells) : d.at W a := by
  obtain ⟨_, _, hc⟩ := World.cells?_some h
  have h0 := hc 0 (by omega)
  have hspot : a.spot = none := by
    have e : a.add 0 = a := by simp [Addr.add]
    rw [e] at h0
    unfold World.cell? at h0
    cases hs : a.spot with
    | none => rfl
    | some x =>
      rw [hs] at h0
      simp [Dd.cells] at h0
      split at h0 <;> simp at h0
  obtain ⟨b, o, sp⟩ := a
  simp only at hspot
  subst hspot
  have g0 := hc 0 (by omega)
  have g1 := hc 1 (by omega)
  have g2 := hc 2 (by omega)
  have g3 := hc 3 (by omega)
  have g4 := hc 4 (by omega)
  simp only [Addr.add, Dd.cells] at g0 g1 g2 g3 g4
  exact ⟨g0, g1, g2, g3, g4⟩

theorem view23 {H : Type} {enc : TypeId × Value → H} {W : World} {base : Nat} {v : Value} {d : DataW H} {p0 : List MemPlace} (hval : Value.okWide Try.prog W .any base 23 v)
    (h0 : DataW.Trod enc Try.prog W 0 (fun _ => true) true 23 v d p0) (hlt : ∀ x ∈ p0, x.block < W.heap.size) (hsz : ∀ n ∈ d.weights Try.prog 23, n ≤ reachBytes) :
    ∃ p l c, v = .slice p l.length c ∧ RdD W.heap.size W p c l ∧ (p = none → c = 0) ∧ l.length ≤ 140737488351232 := by
  obtain ⟨a0, len, cap, rfl⟩ := okWide_slice Try.underlying23 hval
  obtain ⟨fuel, hf⟩ := h0
  rcases Go.Deep.open_slice Try.underlying23 hf with ⟨hcs, hx⟩ | ⟨a, len', cap', m, n, D, Pl, hcs, _, hl, hm, hmm, hx, hcell⟩
  · simp [Value.cells] at hcs
    obtain ⟨rfl, rfl, rfl⟩ := hcs
    exact ⟨none, [], 0, rfl, ⟨Nat.le_refl _, fun j hj => by simp at hj⟩, fun _ => rfl, by simp⟩
  · simp [Value.cells] at hcs
    obtain ⟨rfl, rfl, rfl⟩ := hcs
    simp only [Prod.mk.injEq] at hx
    obtain ⟨rfl, rfl⟩ := hx
    simp only [if_true] at hmm
    subst hmm
    rw [Try.cells35] at hcell hlt
    have key : ∀ i, i < m → ∃ dd : Dd, dd.at W (a.add (i * 5)) ∧ D i = dd.datum ∧ (Lit.int .i64 dd.kind).wf = true ∧ (Lit.int .i64 dd.n).wf = true := by
      intro i hi
      obtain ⟨cs', hcs', htr⟩ := hcell i hi
      obtain ⟨dd, rfl, hx, hk, hn⟩ := open_deed htr
      exact ⟨dd, at_of_cells hcs', congrArg Prod.fst hx, hk, hn⟩
    obtain ⟨F, hF⟩ : ∃ F : Nat → Dd, ∀ i, i < m → (F i).at W (a.add (i * 5)) ∧ D i = (F i).datum ∧ (Lit.int .i64 (F i).kind).wf = true ∧ (Lit.int .i64 (F i).n).wf = true :=
      ⟨fun i => if h : i < m then Classical.choose (key i h) else Dd.none, fun i hi => by simp only [dif_pos hi]; exact Classical.choose_spec (key i hi)⟩
    have hlen : ((List.range len).map F).length = len := by simp
    have h1 := hsz ((((List.range len).map D).length + ((List.range (m - len)).map fun j => D (len + j)).length) * Try.prog.bytesOf 35) (by unfold DataW.weights; rw [Try.underlying23]; exact List.mem_cons_self)
    rw [Try.bytes35] at h1
    simp only [List.length_map, List.length_range, reachBytes] at h1
    refine ⟨some a, (List.range len).map F, m, by rw [hlen], ⟨by rw [hlen]; exact hl, fun j hj => ?_⟩, fun h => (by cases h), by rw [hlen]; omega⟩
    rw [hlen] at hj
    have eg : ((List.range len).map F).getD j Dd.none = F j := by simp [List.getD_eq_getElem?_getD, hj]
    obtain ⟨q1, q2, q3, q4⟩ := hF j (by omega)
    rw [eg]
    refine ⟨a, rfl, ?_, q1, fit_deed (H := H) q3 q4 (fun n hn => hsz n ?_)⟩
    · obtain ⟨b, off, spot⟩ := a
      exact hlt (.cell b off) (List.mem_append_left _ (MemPlace.mem_row.2 ⟨0, by omega, by simp⟩))
    · unfold DataW.weights
      rw [Try.underlying23]
      refine List.mem_cons_of_mem _ (List.mem_append_left _ (weights_all (d := D j) (List.mem_map.2 ⟨j, List.mem_range.2 hj, rfl⟩) ?_))
      rw [q2]
      exact hn

theorem view35 {H : Type} {enc : TypeId × Value → H} {W : World} {base : Nat} {v : Value} {d : DataW H} {p0 : List MemPlace} (hval : Value.okWide Try.prog W .any base 35 v)
    (h0 : DataW.Trod enc Try.prog W 0 (fun _ => true) true 35 v d p0) (hsz : ∀ n ∈ d.weights Try.prog 35, n ≤ reachBytes) :
    ∃ x : Dd, v = .agg x.cells.toArray ∧ p0 = [] ∧ x.fit := by
  obtain ⟨cs, rfl, _⟩ := okWide_struct Try.underlying35 hval
  obtain ⟨fuel, hf⟩ := h0
  obtain ⟨x, hcs, hx, hk, hn⟩ := open_deed hf
  simp only [Prod.mk.injEq] at hx
  obtain ⟨rfl, rfl⟩ := hx
  have e : cs = x.cells.toArray := by
    have : cs.toList = x.cells := by simpa [Value.cells] using hcs
    rw [← this]
  exact ⟨x, by rw [e], rfl, fit_deed hk hn hsz⟩
end Go.Proofs.Ytjgogmlmcebgpaa

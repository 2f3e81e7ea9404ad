/-
  Deeds, names, numbers and marks that came in, as the walks read them.
-/
import Derived.Test.YtbjeaogblpjpeaaGBoth
import Derived.Test.YtbjeaogblpjpeaaChecked
import Derived.ProofKit
import Derived.SizedLaws
import Derived.Deep.Strs
import Derived.Deep.Slices
import Derived.Deep.Grids
namespace Go.Proofs.Ytbjeaogblpjpeaa
open Go.ChangeShapes Go.WideShapes Go.ChangeAt Go.RowKit

theorem Try.own : ownKnob Try.prog.godebug = none := by kernel_rfl
theorem Try.laidOut : laidOutB Try.prog = true := by kernel_rfl
theorem Try.cells3 : Try.prog.cellsOf 3 = 1 := by kernel_rfl
theorem Try.cells4 : Try.prog.cellsOf 4 = 1 := by kernel_rfl
theorem Try.cells9 : Try.prog.cellsOf 9 = 1 := by kernel_rfl
theorem Try.cellsS : Try.prog.cellsOf 23 = 1 := by kernel_rfl
theorem Try.cellsD : Try.prog.cellsOf 56 = 3 := by kernel_rfl
theorem Try.bytes3 : Try.prog.bytesOf 3 = 8 := by kernel_rfl
theorem cell_lt {w : World} {a : Addr} {v : Value} (h : w.cell? a = some v) : a.block < w.heap.size := by
  rcases Nat.lt_or_ge a.block w.heap.size with h' | h'
  · exact h'
  · simp [World.cell?, Array.getElem?_eq_none h'] at h
theorem cell_none {w : World} {b o : Nat} {sp : Option Nat} {v : Value} (h : w.cell? ⟨b, o, sp⟩ = some v) : sp = none := by
  cases sp with
  | none => rfl
  | some x =>
    unfold World.cell? at h
    split at h <;> simp at h
theorem rd_of {α : Type} {enc : α → Value} {w : World} {a : Addr} {c : Nat} {xs : List α} (hc : xs.length ≤ c) (h : ∀ j x, xs[j]? = some x → w.cell? (a.add j) = some (enc x)) : Rd enc (· < w.heap.size) w (some a) c xs := by
  refine ⟨hc, fun hn => ?_⟩
  cases xs with
  | nil => exact absurd rfl hn
  | cons y r =>
    have h0 := h 0 y rfl
    have e0 : a.add 0 = a := by simp [Addr.add]
    rw [e0] at h0
    have hl := cell_lt h0
    obtain ⟨b, o, sp⟩ := a
    obtain rfl := cell_none h0
    exact ⟨b, o, rfl, hl, fun j x hj => by have := h j x hj; rw [add_flat] at this; exact this⟩
section
variable {H : Type} {enc : TypeId × Value → H} {W : World} {fuel : Nat} {cs : List Value} {x : DataW H × List MemPlace}
theorem strs_of (h : DataW.trod enc Try.prog W 0 (fun _ => true) true fuel 23 cs = some x) :
    ∃ p S c, cs = [.slice p S.length c] ∧ RdS (· < W.heap.size) W p c S ∧ S.length ≤ 9223372036854775807 ∧ ∀ s ∈ S, s.size ≤ 9223372036854775807 := by
  rcases Go.Deep.open_strs Try.underlying23 Try.underlying9 Try.cells9 h with ⟨rfl, hx⟩ | ⟨a, len, cap, m, Sx, rfl, _, hl, hm, hmm, hx, hcell⟩
  · exact ⟨none, [], 0, rfl, Rd.nil _ _ _ _ _, by simp, by simp⟩
  · simp only [if_true] at hmm
    subst hmm
    have hlen : ((List.range len).map Sx).length = len := by simp
    have hm' : m ≤ 9223372036854775807 := hm
    refine ⟨some a, (List.range len).map Sx, m, by rw [hlen], rd_of (by rw [hlen]; exact hl) fun j y hj => ?_, by rw [hlen]; omega, fun s hs => ?_⟩
    · have hjl : j < len := by have := (List.getElem?_eq_some_iff.1 hj).1; rw [hlen] at this; exact this
      rw [List.getElem?_map, List.getElem?_range hjl] at hj
      cases hj
      exact (hcell j (by omega)).1
    · obtain ⟨i, hi, rfl⟩ := List.mem_map.1 hs
      have := List.mem_range.1 hi
      exact (hcell i (by omega)).2
theorem deed_of (h : DataW.trod enc Try.prog W 0 (fun _ => true) true fuel 56 cs = some x) :
    ∃ (d : Dd) (p1 p2 : Option Addr) (c1 c2 : Nat), cs = [.string d.name, .slice p1 d.prev.length c1, .slice p2 d.auth.length c2] ∧ RdS (· < W.heap.size) W p1 c1 d.prev ∧ RdS (· < W.heap.size) W p2 c2 d.auth ∧ wideD d := by
  obtain ⟨xs, n, _, rfl, hl, hlen, hf⟩ := DataW.trod_struct Try.underlying56 h
  rw [Try.cellsD] at hl
  match cs, hl, xs, hlen with
  | [c0, c1, c2], _, [y0, y1, y2], _ =>
    have f0 : DataW.trod enc Try.prog W 0 (fun _ => true) true n 9 (([c0, c1, c2].drop 0).take (Try.prog.cellsOf 9)) = some y0 := hf 0 _ rfl
    have f1 : DataW.trod enc Try.prog W 0 (fun _ => true) true n 23 (([c0, c1, c2].drop 1).take (Try.prog.cellsOf 23)) = some y1 := hf 1 _ rfl
    have f2 : DataW.trod enc Try.prog W 0 (fun _ => true) true n 23 (([c0, c1, c2].drop 2).take (Try.prog.cellsOf 23)) = some y2 := hf 2 _ rfl
    rw [Try.cells9] at f0
    rw [Try.cellsS] at f1 f2
    obtain ⟨s, e0, _, hs⟩ := DataW.trod_string Try.underlying9 f0
    obtain ⟨p1, S1, k1, e1, r1, l1, w1⟩ := strs_of f1
    obtain ⟨p2, S2, k2, e2, r2, l2, w2⟩ := strs_of f2
    cases e0; cases e1; cases e2
    exact ⟨⟨s, S1, S2⟩, p1, p2, k1, k2, rfl, r1, r2, hs, ⟨l1, w1⟩, l2, w2⟩
theorem deeds_of (h : DataW.trod enc Try.prog W 0 (fun _ => true) true fuel 22 cs = some x) :
    ∃ p l c, cs = [.slice p l.length c] ∧ RdD (· < W.heap.size) W p c l ∧ l.length ≤ 9223372036854775807 ∧ ∀ d ∈ l, wideD d := by
  rcases Go.Deep.open_slice Try.underlying22 h with ⟨rfl, hx⟩ | ⟨a, len, cap, m, n, D, Pl, rfl, _, hl, hm, hmm, hx, hcell⟩
  · exact ⟨none, [], 0, rfl, ⟨Nat.le_refl _, fun j hj => absurd hj (by simp)⟩, by simp, by simp⟩
  · simp only [if_true] at hmm
    subst hmm
    rw [Try.cellsD] at hcell
    have hm' : m ≤ 9223372036854775807 := hm
    have key : ∀ i, i < m → ∃ d : Dd, ∃ b o p1 c1 p2 c2, a = ⟨b, o, none⟩ ∧ b < W.heap.size ∧ W.cell? ⟨b, o + i * 3, none⟩ = some (.string d.name) ∧ W.cell? ⟨b, o + i * 3 + 1, none⟩ = some (.slice p1 d.prev.length c1) ∧ W.cell? ⟨b, o + i * 3 + 2, none⟩ = some (.slice p2 d.auth.length c2) ∧ RdS (· < W.heap.size) W p1 c1 d.prev ∧ RdS (· < W.heap.size) W p2 c2 d.auth ∧ wideD d := by
      intro i hi
      obtain ⟨cs', hcs', htr⟩ := hcell i hi
      obtain ⟨d, p1, p2, c1, c2, rfl, r1, r2, hw⟩ := deed_of htr
      obtain ⟨_, _, hc⟩ := World.cells?_some hcs'
      have g0 := hc 0 (by omega)
      have g1 := hc 1 (by omega)
      have g2 := hc 2 (by omega)
      simp only [List.getElem?_cons_zero, List.getElem?_cons_succ] at g0 g1 g2
      have e0 : ((a.add (i * 3)).add 0) = a.add (i * 3) := by simp [Addr.add]
      rw [e0] at g0
      have hlt := cell_lt g0
      rw [add_block] at hlt
      obtain ⟨cs0, hcs0, htr0⟩ := hcell 0 (by omega)
      obtain ⟨d0, _, _, _, _, rfl, _⟩ := deed_of htr0
      obtain ⟨_, _, hc0⟩ := World.cells?_some hcs0
      have k0 := hc0 0 (by omega)
      simp only [List.getElem?_cons_zero] at k0
      have e00 : (a.add (0 * 3)).add 0 = a := by simp [Addr.add]
      rw [e00] at k0
      obtain ⟨b, o, sp⟩ := a
      obtain rfl := cell_none k0
      rw [add_flat] at g0 g1 g2
      rw [add_flat] at g1 g2
      exact ⟨d, b, o, p1, c1, p2, c2, rfl, hlt, g0, g1, g2, r1, r2, hw⟩
    obtain ⟨F, hF⟩ : ∃ F : Nat → Dd, ∀ i, i < m → ∃ b o p1 c1 p2 c2, a = ⟨b, o, none⟩ ∧ b < W.heap.size ∧ W.cell? ⟨b, o + i * 3, none⟩ = some (.string (F i).name) ∧ W.cell? ⟨b, o + i * 3 + 1, none⟩ = some (.slice p1 (F i).prev.length c1) ∧ W.cell? ⟨b, o + i * 3 + 2, none⟩ = some (.slice p2 (F i).auth.length c2) ∧ RdS (· < W.heap.size) W p1 c1 (F i).prev ∧ RdS (· < W.heap.size) W p2 c2 (F i).auth ∧ wideD (F i) :=
      ⟨fun i => if h : i < m then Classical.choose (key i h) else noD, fun i hi => by simp only [dif_pos hi]; exact Classical.choose_spec (key i hi)⟩
    have hlen : ((List.range len).map F).length = len := by simp
    refine ⟨some a, (List.range len).map F, m, by rw [hlen], ⟨by rw [hlen]; exact hl, fun j hj => ?_⟩, by rw [hlen]; omega, fun d hd => ?_⟩
    · rw [hlen] at hj
      have eg : ((List.range len).map F).getD j noD = F j := by simp [List.getD_eq_getElem?_getD, hj]
      rw [eg]
      obtain ⟨b, o, p1, c1, p2, c2, rfl, h1, h2, h3, h4, h5, h6, _⟩ := hF j (by omega)
      exact ⟨b, o, p1, c1, p2, c2, rfl, h1, h2, h3, h4, h5, h6⟩
    · obtain ⟨i, hi, rfl⟩ := List.mem_map.1 hd
      have := List.mem_range.1 hi
      obtain ⟨_, _, _, _, _, _, _, _, _, _, _, _, _, h⟩ := hF i (by omega)
      exact h
theorem ints_of (h : DataW.trod enc Try.prog W 0 (fun _ => true) true fuel 35 cs = some x) (hsz : ∀ elems spare, x.1 = .slice elems spare → (elems.length + spare.length) * Try.prog.bytesOf 3 ≤ reachBytes) :
    ∃ p l c, cs = [.slice p l.length c] ∧ RdI (· < W.heap.size) W p c l ∧ l.length ≤ 140737488351232 ∧ (∀ y ∈ l, -9223372036854775808 ≤ y ∧ y ≤ 9223372036854775807) ∧ (p = none → c = 0) := by
  rcases open_ints Try.underlying35 Try.underlying3 Try.cells3 h with ⟨rfl, hx⟩ | ⟨a, len, cap, zl, rfl, _, hl, hm, hz, hx, hcell, hwz⟩
  · exact ⟨none, [], 0, rfl, Rd.nil _ _ _ _ _, by simp, by simp, fun _ => rfl⟩
  · simp only [if_true] at hz
    have hreach := hsz _ _ (congrArg Prod.fst hx)
    rw [Try.bytes3] at hreach
    simp only [lits, List.length_map, List.length_take, List.length_drop, reachBytes] at hreach
    have hlen : (zl.take len).length = len := by simp; omega
    refine ⟨some a, zl.take len, cap, by rw [hlen], rd_of (by rw [hlen]; exact hl) fun j y hj => ?_, by rw [hlen]; omega, fun y hy => ?_, fun h => by cases h⟩
    · have hjl : j < len := by have := (List.getElem?_eq_some_iff.1 hj).1; rw [hlen] at this; exact this
      rw [List.getElem?_take, if_pos hjl] at hj
      rw [hcell j (by omega), List.getD_eq_getElem?_getD, hj]
      rfl
    · have := hwz y (List.mem_of_mem_take hy)
      have h1 : IntKind.i64.min = -9223372036854775808 := rfl
      have h2 : IntKind.i64.max = 9223372036854775807 := rfl
      simp only [Lit.wf, Bool.and_eq_true, decide_eq_true_eq] at this
      omega
theorem bools_of (h : DataW.trod enc Try.prog W 0 (fun _ => true) true fuel 48 cs = some x) :
    ∃ p l c, cs = [.slice p l.length c] ∧ RdB (· < W.heap.size) W p c l ∧ l.length ≤ 9223372036854775807 := by
  rcases Go.Deep.open_bools Try.underlying48 Try.underlying4 Try.cells4 h with ⟨rfl, hx⟩ | ⟨a, len, cap, B, rfl, _, hl, hm, hx, hcell⟩
  · exact ⟨none, [], 0, rfl, Rd.nil _ _ _ _ _, by simp⟩
  · have hlen : ((List.range len).map B).length = len := by simp
    have hm' : cap ≤ 9223372036854775807 := hm
    refine ⟨some a, (List.range len).map B, cap, by rw [hlen], rd_of (by rw [hlen]; exact hl) fun j y hj => ?_, by rw [hlen]; omega⟩
    have hjl : j < len := by have := (List.getElem?_eq_some_iff.1 hj).1; rw [hlen] at this; exact this
    rw [List.getElem?_map, List.getElem?_range hjl] at hj
    cases hj
    exact hcell j (by omega)
end
theorem arg_weights {H : Type} {ts : List TypeId} {ds : List (DataW H)} (h : (DataW.weightsEach Try.prog ts ds).all (· ≤ reachBytes) = true) {j : Nat} {t : TypeId} {d : DataW H} (ht : ts[j]? = some t) (hd : ds[j]? = some d) :
    ∀ n ∈ d.weights Try.prog t, n ≤ reachBytes := by
  intro n hn
  have := List.all_eq_true.1 h _ (DataW.weights_mem_each ht hd n hn)
  simpa using this
section
variable {H : Type} {enc : TypeId × Value → H} {W : World} {base : Nat} {v : Value} {d : DataW H} {p0 : List MemPlace}
theorem view_deeds (hval : Value.okWide Try.prog W .any base 22 v) (h0 : DataW.Trod enc Try.prog W 0 (fun _ => true) true 22 v d p0) :
    ∃ p l c, v = .slice p l.length c ∧ RdD (· < W.heap.size) W p c l ∧ l.length ≤ 9223372036854775807 ∧ ∀ d ∈ l, wideD d := by
  obtain ⟨a0, len, cap, rfl⟩ := okWide_slice Try.underlying22 hval
  obtain ⟨fuel, hf⟩ := h0
  obtain ⟨p, l, c, hcs, r⟩ := deeds_of hf
  simp [Value.cells] at hcs
  obtain ⟨rfl, rfl, rfl⟩ := hcs
  exact ⟨_, l, _, rfl, r⟩
theorem view_strs (hval : Value.okWide Try.prog W .any base 23 v) (h0 : DataW.Trod enc Try.prog W 0 (fun _ => true) true 23 v d p0) :
    ∃ p S c, v = .slice p S.length c ∧ RdS (· < W.heap.size) W p c S ∧ S.length ≤ 9223372036854775807 ∧ ∀ s ∈ S, s.size ≤ 9223372036854775807 := by
  obtain ⟨a0, len, cap, rfl⟩ := okWide_slice Try.underlying23 hval
  obtain ⟨fuel, hf⟩ := h0
  obtain ⟨p, l, c, hcs, r⟩ := strs_of hf
  simp [Value.cells] at hcs
  obtain ⟨rfl, rfl, rfl⟩ := hcs
  exact ⟨_, l, _, rfl, r⟩
theorem view_bools (hval : Value.okWide Try.prog W .any base 48 v) (h0 : DataW.Trod enc Try.prog W 0 (fun _ => true) true 48 v d p0) :
    ∃ p l c, v = .slice p l.length c ∧ RdB (· < W.heap.size) W p c l ∧ l.length ≤ 9223372036854775807 := by
  obtain ⟨a0, len, cap, rfl⟩ := okWide_slice Try.underlying48 hval
  obtain ⟨fuel, hf⟩ := h0
  obtain ⟨p, l, c, hcs, r⟩ := bools_of hf
  simp [Value.cells] at hcs
  obtain ⟨rfl, rfl, rfl⟩ := hcs
  exact ⟨_, l, _, rfl, r⟩
theorem view_ints (hval : Value.okWide Try.prog W .any base 35 v) (h0 : DataW.Trod enc Try.prog W 0 (fun _ => true) true 35 v d p0) (hsz : ∀ n ∈ d.weights Try.prog 35, n ≤ reachBytes) :
    ∃ p l c, v = .slice p l.length c ∧ RdI (· < W.heap.size) W p c l ∧ l.length ≤ 140737488351232 ∧ (∀ y ∈ l, -9223372036854775808 ≤ y ∧ y ≤ 9223372036854775807) ∧ (p = none → c = 0) := by
  obtain ⟨a0, len, cap, rfl⟩ := okWide_slice Try.underlying35 hval
  obtain ⟨fuel, hf⟩ := h0
  obtain ⟨p, l, c, hcs, r⟩ := ints_of hf (fun elems spare e => hsz _ (by
    simp only at e
    rw [e]
    unfold DataW.weights
    rw [Try.underlying35]
    exact List.mem_cons_self))
  simp [Value.cells] at hcs
  obtain ⟨rfl, rfl, rfl⟩ := hcs
  exact ⟨_, l, _, rfl, r⟩
end
end Go.Proofs.Ytbjeaogblpjpeaa

/-
  Rows and ranks that came in, as the walks read them.
-/
import Derived.Test.YtmkppbcngpgkdabOCount
import Derived.Test.YtmkppbcngpgkdabChecked
import Derived.ProofKit
import Derived.SizedLaws
import Derived.Deep.Slices
namespace Go.Proofs.Ytmkppbcngpgkdab
open Go.ChangeShapes Go.WideShapes Go.ChangeAt Go.RowKit

theorem Try.own : ownKnob Try.prog.godebug = none := by kernel_rfl
theorem Try.laidOut : laidOutB Try.prog = true := by kernel_rfl
theorem Try.cells2 : Try.prog.cellsOf 2 = 1 := by kernel_rfl
theorem Try.cells3 : Try.prog.cellsOf 3 = 1 := by kernel_rfl
theorem Try.cellsI : Try.prog.cellsOf 24 = 1 := by kernel_rfl
theorem cell_lt {w : World} {a : Addr} {v : Value} (h : w.cell? a = some v) : a.block < w.heap.size := by
  rcases Nat.lt_or_ge a.block w.heap.size with h' | h'
  · exact h'
  · simp [World.cell?, Array.getElem?_eq_none h'] at h
theorem cell_none {w : World} {b o : Nat} {sp : Option Nat} {v : Value} (h : w.cell? ⟨b, o, sp⟩ = some v) : sp = none := by
  cases sp with
  | none => rfl
  | some x =>
    unfold World.cell? at h
    split at h <;> simp at h
theorem rd_of {α : Type} {enc : α → Value} {w : World} {a : Addr} {c : Nat} {xs : List α} (hc : xs.length ≤ c) (h : ∀ j x, xs[j]? = some x → w.cell? (a.add j) = some (enc x)) : Rd enc (· < w.heap.size) w (some a) c xs := by
  refine ⟨hc, fun hn => ?_⟩
  cases xs with
  | nil => exact absurd rfl hn
  | cons y r =>
    have h0 := h 0 y rfl
    have e0 : a.add 0 = a := by simp [Addr.add]
    rw [e0] at h0
    have hl := cell_lt h0
    obtain ⟨b, o, sp⟩ := a
    obtain rfl := cell_none h0
    exact ⟨b, o, rfl, hl, fun j x hj => by have := h j x hj; rw [add_flat] at this; exact this⟩
section
variable {H : Type} {enc : TypeId × Value → H} {W : World} {fuel : Nat} {cs : List Value} {x : DataW H × List MemPlace}
theorem ints_of (h : DataW.trod enc Try.prog W 0 (fun _ => true) true fuel 24 cs = some x) :
    ∃ p l c, cs = [.slice p l.length c] ∧ RdI (· < W.heap.size) W p c l ∧ l.length ≤ 9223372036854775807 ∧ ∀ y ∈ l, wf64 y := by
  rcases open_ints Try.underlying24 Try.underlying3 Try.cells3 h with ⟨rfl, hx⟩ | ⟨a, len, cap, zl, rfl, _, hl, hm, hz, hx, hcell, hwz⟩
  · exact ⟨none, [], 0, rfl, Rd.nil _ _ _ _ _, by simp, by simp⟩
  · simp only [if_true] at hz
    have hm' : cap ≤ 9223372036854775807 := hm
    have hlen : (zl.take len).length = len := by simp; omega
    refine ⟨some a, zl.take len, cap, by rw [hlen], rd_of (by rw [hlen]; exact hl) fun j y hj => ?_, by rw [hlen]; omega, fun y hy => ?_⟩
    · have hjl : j < len := by have := (List.getElem?_eq_some_iff.1 hj).1; rw [hlen] at this; exact this
      rw [List.getElem?_take, if_pos hjl] at hj
      rw [hcell j (by omega), List.getD_eq_getElem?_getD, hj]
      rfl
    · have := hwz y (List.mem_of_mem_take hy)
      have h1 : IntKind.i64.min = -9223372036854775808 := rfl
      have h2 : IntKind.i64.max = 9223372036854775807 := rfl
      simp only [Lit.wf, Bool.and_eq_true, decide_eq_true_eq] at this
      unfold wf64
      omega
theorem ranks_of (h : DataW.trod enc Try.prog W 0 (fun _ => true) true fuel 33 cs = some x) :
    ∃ p l c, cs = [.slice p l.length c] ∧ RdI (· < W.heap.size) W p c l ∧ l.length ≤ 9223372036854775807 ∧ ∀ y ∈ l, wf64 y := by
  rcases open_ints Try.underlying33 Try.underlying2 Try.cells2 h with ⟨rfl, hx⟩ | ⟨a, len, cap, zl, rfl, _, hl, hm, hz, hx, hcell, hwz⟩
  · exact ⟨none, [], 0, rfl, Rd.nil _ _ _ _ _, by simp, by simp⟩
  · simp only [if_true] at hz
    have hm' : cap ≤ 9223372036854775807 := hm
    have hlen : (zl.take len).length = len := by simp; omega
    refine ⟨some a, zl.take len, cap, by rw [hlen], rd_of (by rw [hlen]; exact hl) fun j y hj => ?_, by rw [hlen]; omega, fun y hy => ?_⟩
    · have hjl : j < len := by have := (List.getElem?_eq_some_iff.1 hj).1; rw [hlen] at this; exact this
      rw [List.getElem?_take, if_pos hjl] at hj
      rw [hcell j (by omega), List.getD_eq_getElem?_getD, hj]
      rfl
    · have := hwz y (List.mem_of_mem_take hy)
      have h1 : IntKind.i64.min = -9223372036854775808 := rfl
      have h2 : IntKind.i64.max = 9223372036854775807 := rfl
      simp only [Lit.wf, Bool.and_eq_true, decide_eq_true_eq] at this
      unfold wf64
      omega
theorem rows_of (h : DataW.trod enc Try.prog W 0 (fun _ => true) true fuel 22 cs = some x) :
    ∃ p P c, cs = [.slice p P.length c] ∧ RdR (· < W.heap.size) W p c P ∧ P.length ≤ 9223372036854775807 ∧ ∀ r ∈ P, r.length ≤ 9223372036854775807 ∧ ∀ y ∈ r, wf64 y := by
  rcases Go.Deep.open_slice Try.underlying22 h with ⟨rfl, hx⟩ | ⟨a, len, cap, m, n, D, Pl, rfl, _, hl, hm, hmm, hx, hcell⟩
  · exact ⟨none, [], 0, rfl, RdR.nil _ _ _ _, by simp, by simp⟩
  · simp only [if_true] at hmm
    subst hmm
    rw [Try.cellsI] at hcell
    have hm' : m ≤ 9223372036854775807 := hm
    have key : ∀ i, i < m → ∃ r : List Int, ∃ b o p1 c1, a = ⟨b, o, none⟩ ∧ b < W.heap.size ∧ W.cell? ⟨b, o + i, none⟩ = some (.slice p1 r.length c1) ∧ RdI (· < W.heap.size) W p1 c1 r ∧ r.length ≤ 9223372036854775807 ∧ ∀ y ∈ r, wf64 y := by
      intro i hi
      obtain ⟨cs', hcs', htr⟩ := hcell i hi
      obtain ⟨p1, r, c1, rfl, r1, hw⟩ := ints_of htr
      obtain ⟨_, _, hc⟩ := World.cells?_some hcs'
      have g0 := hc 0 (by omega)
      simp only [List.getElem?_cons_zero] at g0
      have e0 : ((a.add (i * 1)).add 0) = a.add i := by simp [Addr.add]
      rw [e0] at g0
      have hlt := cell_lt g0
      rw [add_block] at hlt
      obtain ⟨cs0, hcs0, htr0⟩ := hcell 0 (by omega)
      obtain ⟨_, _, _, rfl, _⟩ := ints_of htr0
      obtain ⟨_, _, hc0⟩ := World.cells?_some hcs0
      have k0 := hc0 0 (by omega)
      simp only [List.getElem?_cons_zero] at k0
      have e00 : (a.add (0 * 1)).add 0 = a := by simp [Addr.add]
      rw [e00] at k0
      obtain ⟨b, o, sp⟩ := a
      obtain rfl := cell_none k0
      rw [add_flat] at g0
      exact ⟨r, b, o, p1, c1, rfl, hlt, g0, r1, hw⟩
    obtain ⟨F, hF⟩ : ∃ F : Nat → List Int, ∀ i, i < m → ∃ b o p1 c1, a = ⟨b, o, none⟩ ∧ b < W.heap.size ∧ W.cell? ⟨b, o + i, none⟩ = some (.slice p1 (F i).length c1) ∧ RdI (· < W.heap.size) W p1 c1 (F i) ∧ (F i).length ≤ 9223372036854775807 ∧ ∀ y ∈ F i, wf64 y :=
      ⟨fun i => if h : i < m then Classical.choose (key i h) else [], fun i hi => by simp only [dif_pos hi]; exact Classical.choose_spec (key i hi)⟩
    have hlen : ((List.range len).map F).length = len := by simp
    refine ⟨some a, (List.range len).map F, m, by rw [hlen], ⟨by rw [hlen]; exact hl, fun j hj => ?_⟩, by rw [hlen]; omega, fun r hr => ?_⟩
    · rw [hlen] at hj
      have eg : ((List.range len).map F).getD j [] = F j := by simp [List.getD_eq_getElem?_getD, hj]
      rw [eg]
      obtain ⟨b, o, p1, c1, rfl, h1, h2, h3, _⟩ := hF j (by omega)
      exact ⟨b, o, p1, c1, rfl, h1, h2, h3⟩
    · obtain ⟨i, hi, rfl⟩ := List.mem_map.1 hr
      have := List.mem_range.1 hi
      obtain ⟨_, _, _, _, _, _, _, _, h⟩ := hF i (by omega)
      exact h
variable {base : Nat} {v : Value} {d : DataW H} {p0 : List MemPlace}
theorem view_rows (hval : Value.okWide Try.prog W .any base 22 v) (h0 : DataW.Trod enc Try.prog W 0 (fun _ => true) true 22 v d p0) :
    ∃ p P c, v = .slice p P.length c ∧ RdR (· < W.heap.size) W p c P ∧ P.length ≤ 9223372036854775807 ∧ ∀ r ∈ P, r.length ≤ 9223372036854775807 ∧ ∀ y ∈ r, wf64 y := by
  obtain ⟨a0, len, cap, rfl⟩ := okWide_slice Try.underlying22 hval
  obtain ⟨fuel, hf⟩ := h0
  obtain ⟨p, l, c, hcs, r⟩ := rows_of hf
  simp [Value.cells] at hcs
  obtain ⟨rfl, rfl, rfl⟩ := hcs
  exact ⟨_, l, _, rfl, r⟩
theorem view_ranks (hval : Value.okWide Try.prog W .any base 33 v) (h0 : DataW.Trod enc Try.prog W 0 (fun _ => true) true 33 v d p0) :
    ∃ p l c, v = .slice p l.length c ∧ RdI (· < W.heap.size) W p c l ∧ l.length ≤ 9223372036854775807 ∧ ∀ y ∈ l, wf64 y := by
  obtain ⟨a0, len, cap, rfl⟩ := okWide_slice Try.underlying33 hval
  obtain ⟨fuel, hf⟩ := h0
  obtain ⟨p, l, c, hcs, r⟩ := ranks_of hf
  simp [Value.cells] at hcs
  obtain ⟨rfl, rfl, rfl⟩ := hcs
  exact ⟨_, l, _, rfl, r⟩
end
end Go.Proofs.Ytmkppbcngpgkdab

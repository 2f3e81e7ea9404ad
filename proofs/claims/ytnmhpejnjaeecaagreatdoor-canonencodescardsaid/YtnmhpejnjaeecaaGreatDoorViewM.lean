/-
  A slice of bytes that came in, as the walks read it.
-/
import Derived.Test.YtnmhpejnjaeecaaGreatDoorM1
import Derived.Test.YtnmhpejnjaeecaaGreatDoorChecked
import Derived.ProofKit
import Derived.SizedLaws
namespace Go.Proofs.YtnmhpejnjaeecaaGreatDoor
open Go.ChangeShapes Go.WideShapes Go.ChangeAt Go.RowKit

theorem laidOutK : laidOutB Tryz.prog = true := by kernel_rfl
theorem cells5K : Tryz.prog.cellsOf 5 = 1 := by kernel_rfl
theorem bytes5K : Tryz.prog.bytesOf 5 = 1 := by kernel_rfl

set_option maxRecDepth 100000 in
theorem viewB {H : Type} {enc : TypeId × Value → H} {W : World} {base : Nat} {v : Value} {d : DataW H} {p0 : List MemPlace} (hval : Value.okWide Tryz.prog W .any base 27 v)
    (h0 : DataW.Trod enc Tryz.prog W 0 (fun _ => true) true 27 v d p0) (hlt : ∀ x ∈ p0, x.block < W.heap.size)
    (hsz : ∀ elems spare, d = .slice elems spare → (elems.length + spare.length) * Tryz.prog.bytesOf 5 ≤ reachBytes) :
    ∃ p zs c, v = .slice p zs.length c ∧ Rd W.heap.size W p c zs ∧ (p = none → c = 0) ∧ zs.length ≤ 140737488351232 := by
  obtain ⟨a0, len, cap, rfl⟩ := okWide_slice Tryz.underlying27 hval
  obtain ⟨fuel, hf⟩ := h0
  rcases open_ints Tryz.underlying27 Tryz.underlying5 cells5K hf with ⟨hcs, hx⟩ | ⟨a, len', cap', zs, hcs, _, hl, hm, hz, hx, hcell, hwz⟩
  · simp [Value.cells] at hcs
    obtain ⟨rfl, rfl, rfl⟩ := hcs
    exact ⟨none, [], 0, rfl, ⟨Nat.le_refl _, by simp, fun j hj => by simp at hj⟩, fun _ => rfl, by simp⟩
  · simp [Value.cells] at hcs
    obtain ⟨rfl, rfl, rfl⟩ := hcs
    simp only [Prod.mk.injEq] at hx
    obtain ⟨rfl, rfl⟩ := hx
    simp only [if_true] at hz
    have hreach := hsz _ _ rfl
    rw [bytes5K] at hreach
    simp only [lits, List.length_map, List.length_take, List.length_drop, reachBytes] at hreach
    have hlen : (zs.take len).length = len := by simp; omega
    refine ⟨some a, zs.take len, cap, by rw [hlen], ⟨by rw [hlen]; exact hl, fun x hx => ?_, fun j hj => ⟨a, rfl, ?_, ?_⟩⟩, fun h => (by cases h), by rw [hlen]; omega⟩
    · have := hwz x (List.mem_of_mem_take hx)
      have h1 : IntKind.u8.min = 0 := rfl
      have h2 : IntKind.u8.max = 255 := rfl
      simp only [Lit.wf, Bool.and_eq_true, decide_eq_true_eq] at this
      omega
    · rw [hlen] at hj
      obtain ⟨b, off, spot⟩ := a
      exact hlt (.cell b off) (MemPlace.mem_row.2 ⟨0, by omega, by simp⟩)
    · rw [hlen] at hj
      rw [hcell j (by omega)]
      simp [List.getD_eq_getElem?_getD, hj]
end Go.Proofs.YtnmhpejnjaeecaaGreatDoor

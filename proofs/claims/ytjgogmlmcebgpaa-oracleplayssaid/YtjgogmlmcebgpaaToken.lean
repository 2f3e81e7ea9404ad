/-
  token, by its contract: it tells some text, whatever was told.
-/
import Derived.Test.YtjgogmlmcebgpaaFew
namespace Go.Proofs.Ytjgogmlmcebgpaa
open Go.RowKit Go.Maps

theorem place_round (n : Int) (L : Nat) (h0 : 0 < L) (hL : L ≤ 1000000) : ∃ j : Nat, (wrap64 (n.tmod L + L)).tmod L = (j : Int) ∧ j < L := by
  have h1 : -(L : Int) < n.tmod L := by have := Int.lt_tmod_of_pos n (b := (L : Int)) (by omega); omega
  have h2 : n.tmod L < L := Int.tmod_lt_of_pos _ (by omega)
  obtain ⟨m, hm⟩ : ∃ m : Nat, n.tmod L + L = (m : Int) := ⟨(n.tmod L + L).toNat, by omega⟩
  have h3 : wrap64 (m : Int) = m := IntWalk.wrap64_in _ ⟨by omega, by omega⟩
  refine ⟨m % L, ?_, Nat.mod_lt _ h0⟩
  rw [hm, h3]
  exact (Int.ofNat_tmod m L).symm

set_option maxHeartbeats 2000000 in
theorem token_any (kd : Int) (d : Dd) (T : List ByteArray) (q : Option Addr) (cq : Nat) (w : World) (_hd : d.fit) (hT : T.length ≤ 1000000) (hrd : RdS w.heap.size w q cq T) :
    Calls Try.prog 18 #[.agg #[.int .i64 kd, .string d.srv, .string d.txt, .string d.tok, .int .i64 d.n], .slice q T.length cq] w fun e w' => ∃ tk, e = .returned (.string tk) ∧ Below w.heap.size w w' := by
  have HB : Hid (Below w.heap.size w (w.alloc (.cells #[.int .i64 kd, .string d.srv, .string d.txt, .string d.tok, .int .i64 d.n] 35))) := (Below.refl _ _).alloc (Nat.le_refl _) _
  by_cases h1 : d.tok.toList = []
  · by_cases h2 : T.length = 0
    · go_enter Try.func18, Try.ntmps18
      go_wp2
      go_ret
      exact ⟨_, rfl, HB.out⟩
    · obtain ⟨j, hj, hjl⟩ := place_round d.n T.length (by omega) hT
      obtain ⟨a, rfl, ha, hcell⟩ := (hrd.carry HB.out).2 j hjl
      clear hrd
      go_enter Try.func18, Try.ntmps18
      go_wp2
      go_ret
      exact ⟨_, rfl, HB.out⟩
  · go_enter Try.func18, Try.ntmps18
    go_wp2
    go_ret
    exact ⟨_, rfl, HB.out⟩
end Go.Proofs.Ytjgogmlmcebgpaa

/-
  Rows of deeds, as they are read; few, by its contract.
-/
import Derived.Test.YtjgogmlmcebgpaaText
import Derived.Test.YtjgogmlmcebgpaaOrd
import Derived.Maps.RangeWalk
namespace Go.Proofs.Ytjgogmlmcebgpaa
open Go.RowKit Go.Maps

/-- A deed. -/
structure Dd where
  kind : Int
  srv : ByteArray
  txt : ByteArray
  tok : ByteArray
  n : Int
/-- A deed's cells. -/
def Dd.at (w : World) (a : Addr) (d : Dd) : Prop :=
  w.cell? a = some (.int .i64 d.kind) ∧ w.cell? ⟨a.block, a.off + 1, none⟩ = some (.string d.srv) ∧ w.cell? ⟨a.block, a.off + 2, none⟩ = some (.string d.txt) ∧ w.cell? ⟨a.block, a.off + 3, none⟩ = some (.string d.tok) ∧ w.cell? ⟨a.block, a.off + 4, none⟩ = some (.int .i64 d.n)
/-- Its numbers fit, its texts are no longer than memory. -/
def Dd.fit (d : Dd) : Prop := (Lit.int .i64 d.kind).wf = true ∧ (Lit.int .i64 d.n).wf = true ∧ d.srv.size ≤ 140737488351232 ∧ d.txt.size ≤ 140737488351232 ∧ d.tok.size ≤ 140737488351232
def Dd.none : Dd := ⟨0, ⟨#[]⟩, ⟨#[]⟩, ⟨#[]⟩, 0⟩
/-- At p the deeds l are read; they lie below block B. -/
def RdD (B : Nat) (w : World) (p : Option Addr) (c : Nat) (l : List Dd) : Prop :=
  l.length ≤ c ∧ ∀ j, j < l.length → ∃ a, p = some a ∧ a.block < B ∧ (l.getD j Dd.none).at w (a.add (j * 5)) ∧ (l.getD j Dd.none).fit

def smallD (d : Dd) : Bool := decide (d.txt.size ≤ 500) && (decide (d.srv.size ≤ 100) && decide (d.tok.size ≤ 100))
def fewB (l : List Dd) (S : List ByteArray) : Bool := decide (l.length ≤ 100) && (decide (S.length ≤ 100) && (S.all (fun x => decide (x.size ≤ 100)) && l.all smallD))
theorem fewB_iff {l : List Dd} {S : List ByteArray} : fewB l S = true ↔ l.length ≤ 100 ∧ S.length ≤ 100 ∧ (∀ x ∈ S, x.size ≤ 100) ∧ ∀ d ∈ l, d.txt.size ≤ 500 ∧ d.srv.size ≤ 100 ∧ d.tok.size ≤ 100 := by
  simp [fewB, smallD]
theorem fewB_no {l : List Dd} {S : List ByteArray} (h : ¬ (l.length ≤ 100 ∧ S.length ≤ 100 ∧ (∀ x ∈ S, x.size ≤ 100) ∧ ∀ d ∈ l, d.txt.size ≤ 500 ∧ d.srv.size ≤ 100 ∧ d.tok.size ≤ 100)) : fewB l S = false := by
  cases hb : fewB l S with
  | false => rfl
  | true => exact absurd (fewB_iff.1 hb) h
theorem getD_mem {α : Type} {l : List α} {k : Nat} {d : α} (h : k < l.length) : l.getD k d ∈ l := by
  rw [List.getD_eq_getElem?_getD, List.getElem?_eq_getElem h]
  exact List.getElem_mem h
theorem all_of_getD {α : Type} {l : List α} {d : α} {P : α → Prop} (h : ∀ j, j < l.length → P (l.getD j d)) : ∀ x ∈ l, P x := by
  intro x hx
  obtain ⟨j, hj, rfl⟩ := List.getElem_of_mem hx
  have := h j hj
  rw [List.getD_eq_getElem?_getD, List.getElem?_eq_getElem hj] at this
  exact this

set_option maxHeartbeats 2000000 in
theorem few_any (l : List Dd) (p : Option Addr) (c : Nat) (S : List ByteArray) (q : Option Addr) (cq : Nat) (w : World) (B : Nat) (hl : l.length ≤ 140737488351232) (hS : S.length ≤ 140737488351232) (hSs : ∀ x ∈ S, x.size ≤ 140737488351232)
    (hrl : RdD B w p c l) (hrS : RdS B w q cq S) :
    Calls Try.prog 9 #[.slice p l.length c, .slice q S.length cq] w fun e w' => e = .returned (.bool (fewB l S)) ∧ w = w' := by
  by_cases h1 : 100 < l.length
  · go_enter Try.func9, Try.ntmps9
    go_wp2
    go_ret
    exact ⟨ret_bool (fewB_no (by omega)).symm, rfl⟩
  by_cases h2 : 100 < S.length
  · go_enter Try.func9, Try.ntmps9
    go_wp2
    go_ret
    exact ⟨ret_bool (fewB_no (by omega)).symm, rfl⟩
  have h1' : l.length ≤ 100 := by omega
  have h2' : S.length ≤ 100 := by omega
  go_enter Try.func9, Try.ntmps9
  go_wp2
  go_loop [5] (fun i => ∃ k : Nat, k ≤ S.length ∧ i = .int .i64 k ∧ ∀ j, j < k → (S.getD j ⟨#[]⟩).size ≤ 100) (fun i => S.length - (intOf i).toNat)
  case atStart => exact ⟨0, Nat.zero_le _, rfl, fun j hj => by omega⟩
  case round =>
    obtain ⟨k, hk, rfl, hall⟩ := hrel
    have HA : Hid (∀ j, j < k → (S.getD j ⟨#[]⟩).size ≤ 100) := hall
    clear hall
    by_cases hlt : k < S.length
    · obtain ⟨ad, rfl, had, hcell⟩ := hrS.2 k hlt
      have hm := getD_mem (d := ⟨#[]⟩) hlt
      obtain ⟨x, hx⟩ : ∃ x, S.getD k ⟨#[]⟩ = x := ⟨_, rfl⟩
      rw [hx] at hcell hm
      have hxs := hSs x hm
      have HX : Hid (S.getD k ⟨#[]⟩ = x) := hx
      clear hx
      by_cases hb : 100 < x.size
      · go_wp2
        go_ret
        refine ⟨ret_bool (fewB_no ?_).symm, rfl⟩
        rintro ⟨_, _, h3, _⟩
        have := h3 x hm
        omega
      · go_wp2
        go_round
        case rel => exact ⟨k + 1, by omega, by go_num, fun j hj => by
                              by_cases e : j = k
                              · rw [e, HX.out]; omega
                              · exact HA.out j (by omega)⟩
        case measure => simp [intOf]; omega
    · obtain rfl : k = S.length := by omega
      go_wp2
      go_loop [6] (fun i => ∃ k : Nat, k ≤ l.length ∧ i = .int .i64 k ∧ ∀ j, j < k → (l.getD j Dd.none).txt.size ≤ 500 ∧ (l.getD j Dd.none).srv.size ≤ 100 ∧ (l.getD j Dd.none).tok.size ≤ 100) (fun i => l.length - (intOf i).toNat)
      case atStart => exact ⟨0, Nat.zero_le _, rfl, fun j hj => by omega⟩
      case round =>
        obtain ⟨k, hk, rfl, hall⟩ := hrel
        have HB : Hid (∀ j, j < k → (l.getD j Dd.none).txt.size ≤ 500 ∧ (l.getD j Dd.none).srv.size ≤ 100 ∧ (l.getD j Dd.none).tok.size ≤ 100) := hall
        clear hall
        by_cases hlt : k < l.length
        · obtain ⟨ad, rfl, had, ⟨e0, e1, e2, e3, e4⟩, f0, f1, f2, f3, f4⟩ := hrl.2 k hlt
          have hm := getD_mem (d := Dd.none) hlt
          obtain ⟨x, hx⟩ : ∃ x, l.getD k Dd.none = x := ⟨_, rfl⟩
          rw [hx] at e0 e1 e2 e3 e4 f0 f1 f2 f3 f4 hm
          have HX : Hid (l.getD k Dd.none = x) := hx
          clear hx
          by_cases hb : x.txt.size ≤ 500 ∧ x.srv.size ≤ 100 ∧ x.tok.size ≤ 100
          · have g1 := hb.1
            have g2 := hb.2.1
            have g3 := hb.2.2
            go_wp2
            go_round
            case rel => exact ⟨k + 1, by omega, by go_num, fun j hj => by
                              by_cases e : j = k
                              · rw [e, HX.out]; exact hb
                              · exact HB.out j (by omega)⟩
            case measure => simp [intOf]; omega
          · have hno : Hid (fewB l S = false) := fewB_no (by rintro ⟨_, _, _, h3⟩; exact hb (h3 x hm))
            by_cases g1 : 500 < x.txt.size
            · go_wp2
              go_ret
              exact ⟨ret_bool hno.out.symm, rfl⟩
            · by_cases g2 : 100 < x.srv.size
              · go_wp2
                go_ret
                exact ⟨ret_bool hno.out.symm, rfl⟩
              · have g3 : 100 < x.tok.size := by omega
                go_wp2
                go_ret
                exact ⟨ret_bool hno.out.symm, rfl⟩
        · obtain rfl : k = l.length := by omega
          have hyes : Hid (fewB l S = true) := fewB_iff.2 ⟨h1', h2', all_of_getD HA.out, all_of_getD HB.out⟩
          go_wp2
          go_ret
          exact ⟨ret_bool hyes.out.symm, rfl⟩
end Go.Proofs.Ytjgogmlmcebgpaa

/-
  Which states are small, by a contract.
  A map of names to values of JSON, as the reader of events has it.
  The reader of events: what it has left, and how it takes a value: by contracts.
-/
import Derived.Test.YtldegjjaknelgaaGreatDoorAY26
set_option maxRecDepth 100000
set_option maxHeartbeats 16000000
namespace Go.Proofs.YtldegjjaknelgaaGreatDoor
open Go.RowKit
structure FewK (l : List Kn) : Prop where
 len : l.length ≤ 20
 names : ∀ k ∈ l, k.1.size ≤ 100
 evs : ∀ k ∈ l, FewE k.2
theorem FewK.sz {l : List Kn} (h : FewK l) : SzK l := ⟨Nat.le_trans h.len (by decide), fun k hk => sz_less 13 20 _ (by decide) (h.evs k hk).cont, fun k hk => by have := (h.evs k hk).texts; omega⟩
def FewKP (w w' : World) (l : List Kn) (x : Ending) : Prop := (∃ b : Bool, x = .returned (.bool b) ∧ (b = true → FewK l)) ∧ Below w.heap.size w w'
theorem allK {l : List Kn} {P : Kn → Prop} (h : ∀ x, x < l.length → P (l.getD x zK)) : ∀ k ∈ l, P k := fun k hk => by
 obtain ⟨y, hy, rfl⟩ := List.getElem_of_mem hk
 have := h y hy
 rwa [List.getD_eq_getElem?_getD, List.getElem?_eq_getElem hy] at this
theorem few11_any {O : Nat → Prop} {w : World} {p : Option Addr} {c : Nat} {l : List Kn} (h : RdE O w p c l) (hO : ∀ b, O b → b < w.heap.size) (hB : ∀ k ∈ l, BigE k.2) :
    Calls Tryz.prog 10 #[.slice p l.length c] w fun e w' => FewKP w w' l e := by
 obtain ⟨n, hn⟩ : ∃ n, l.length = n := ⟨_, rfl⟩
 have HN : Hid (l.length = n) := hn
 have HNO : Hid (∀ W', Below w.heap.size w W' → FewKP w W' l (.returned (.bool false))) := fun W' h => ⟨⟨false, rfl, fun h => by cases h⟩, h⟩
 have hc := h.1
 rw [hn] at hc ⊢
 clear hn
 by_cases h20 : (20 : Int) < n
 · go_enter Tryz.func10, Tryz.ntmps10
   go_wp2
   go_ret
   exact HNO.out _ (Below.refl _ _)
 have HR : Hid (∀ k, k < n → ∃ b o q, p = some ⟨b, o, none⟩ ∧ b < w.heap.size ∧ (∀ X, Below w.heap.size w X → X.cell? ⟨b, o + k * 17, none⟩ = some (.string (l.getD k zK).1) ∧ X.rangeAt b (o + k * 17 + 1) (cellsE (l.getD k zK).2 q) ∧ IsE (· < w.heap.size) X (l.getD k zK).2 q)) := fun k hk => by
  obtain ⟨b, o, q, hp, hOb, hcells, hE⟩ := h.2 k (by rw [HN.out]; exact hk)
  refine ⟨b, o, q, hp, hO b hOb, fun X hX => ⟨(hX.cell (p := ⟨b, o + k * 17, none⟩) (hO b hOb)).trans (hcells 0 _ rfl), fun j v hv => ?_, hE.carry fun y hy => ⟨hO y hy, hX.block y (hO y hy)⟩⟩⟩
  rw [show o + k * 17 + 1 + j = o + k * 17 + (j + 1) by omega]
  exact (hX.cell (p := ⟨b, o + k * 17 + (j + 1), none⟩) (hO b hOb)).trans (hcells (j + 1) v hv)
 have HBG : Hid (∀ k, k < n → BigE (l.getD k zK).2) := fun k hk => hB _ (getK_mem (by rw [HN.out]; exact hk))
 clear h hB
 go_enter Tryz.func10, Tryz.ntmps10
 go_wp2
 go_loopw [3] (fun i wx => ∃ k : Nat, i = .int .i64 k ∧ k ≤ n ∧ Hid (∀ x, x < k → (l.getD x zK).1.size ≤ 100 ∧ FewE (l.getD x zK).2) ∧ Below w.heap.size w wx) (fun i _ => n - (intOf i).toNat)
 case atStart => exact ⟨0, rfl, Nat.zero_le _, fun m hm => absurd hm (by omega), Below.refl _ _⟩
 case round =>
  obtain ⟨k, rfl, hk, HF, hbw⟩ := hrel
  by_cases hlt : k < n
  · have hki : (k : Int) < (n : Int) := by omega
    obtain ⟨b, o, q, rfl, hbl, hX⟩ := HR.out k hlt
    obtain ⟨hc0, hrg, hE⟩ := hX wr hbw
    have HRG := (show Hid _ from hrg)
    have hFew := eFew_any (l.getD k zK).2 q wr hE (fun y hy => Nat.lt_of_lt_of_le hy hbw.size) (HBG.out k hlt)
    obtain ⟨x, hx⟩ : ∃ x, l.getD k zK = x := ⟨_, rfl⟩
    have HU : Hid (l.getD k zK = x) := hx
    rw [hx] at hc0 hFew HRG
    clear hx hrg hE hX
    unfold valE at hFew
    by_cases hs : (100 : Int) < x.1.size
    · go_wp2
      go_ret
      exact HNO.out _ hbw
    · have hs2 : x.1.size ≤ 100 := by omega
      go_wp2_with (first
       | (refine wpList_load_midg (by kernel_rfl) 28 _ rfl b (o + k * 17 + 1) rfl (cellsE x.2 q) (run_loadAt_mid _ b (o + k * 17 + 1) 28 (cellsE x.2 q) _ HRG.out Tryz.underlying28 rfl infoE) ?_)
       | (go_at_call 9; refine hFew.mono ?_; rintro e w1 ⟨⟨bo, rfl, hbo⟩, hb1⟩; cases bo))
      · go_ret
        exact HNO.out _ (belowP hbw hb1)
      · go_roundw
        case rel => exact ⟨k + 1, by go_num, hlt, fun y hy => (Nat.lt_succ_iff_lt_or_eq.1 hy).elim (HF.out y) fun e => by rw [e, HU.out]; exact ⟨hs2, hbo (by trivial)⟩, belowP hbw hb1⟩
        case measure => simp [intOf]; omega
  · obtain rfl : k = n := by omega
    go_wp2
    go_ret
    refine ⟨⟨true, rfl, fun _ => ⟨by rw [HN.out]; omega, ?_, ?_⟩⟩, hbw⟩
    · exact allK (P := fun k => k.1.size ≤ 100) (by rw [HN.out]; exact fun x hx => (HF.out x hx).1)
    · exact allK (P := fun k => FewE k.2) (by rw [HN.out]; exact fun x hx => (HF.out x hx).2)
end Go.Proofs.YtldegjjaknelgaaGreatDoor

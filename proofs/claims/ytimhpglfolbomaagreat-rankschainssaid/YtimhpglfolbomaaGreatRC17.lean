/-
  A value of JSON that came in, as the walks read it.
  Whether no two of a row are the same, by a set: a contract.
  A map or list that is being made, a key and a value after another: what lies in memory.
  A key and a value more, by a contract: what told's own function does.
  The small parts of an event's shape and JSON, by contracts: within, digest, text, number.
  Lists of texts, and maps of signatures, as JSON: by contracts.
  A map of names to values of JSON, as the reader of events has it.
  The reader of events: what it has left, and how it takes a value: by contracts.
-/
import Derived.Test.YtimhpglfolbomaaGreatRC16
import Derived.Test.YtimhpglfolbomaaGreatChecked
import Derived.ProofKit
import Derived.SizedLaws
import Derived.SliceStrings
import Derived.Laws.OwnMore
set_option maxRecDepth 100000
set_option maxHeartbeats 16000000
namespace Go.Proofs.YtimhpglfolbomaaGreat
open Go.ChangeShapes Go.WideShapes Go.ChangeAt Go.RowKit
theorem cellsJ : Tryz.prog.cellsOf 36 = 5 := by kernel_rfl
theorem cellsS : Tryz.prog.cellsOf 9 = 1 := by kernel_rfl
theorem cellsI3 : Tryz.prog.cellsOf 3 = 1 := by kernel_rfl
theorem cellsI2 : Tryz.prog.cellsOf 2 = 1 := by kernel_rfl
theorem cellsKs : Tryz.prog.cellsOf 22 = 1 := by kernel_rfl
theorem cellsLs : Tryz.prog.cellsOf 34 = 1 := by kernel_rfl
theorem cell_lt {w : World} {a : Addr} {v : Value} (h : w.cell? a = some v) : a.block < w.heap.size := by
 rcases Nat.lt_or_ge a.block w.heap.size with h' | h'
 · exact h'
 · simp [World.cell?, Array.getElem?_eq_none h'] at h
theorem cell_none {w : World} {b o : Nat} {sp : Option Nat} {v : Value} (h : w.cell? ⟨b, o, sp⟩ = some v) : sp = none := by
 cases sp with
 | none => rfl
 | some x =>
  unfold World.cell? at h
  split at h <;> simp at h
theorem isJs_of {O : Nat → Prop} {w : World} {b o : Nat} (hO : O b) : ∀ (l : List J) (n : Nat), (∀ i, i < l.length → ∃ cs, (∀ m v, cs[m]? = some v → w.cell? ⟨b, o + (n + i) * 5 + m, none⟩ = some v) ∧ isJ O w (l.getD i J.zero) cs) → isJs O w (some ⟨b, o, none⟩) n l
 | [], _, _ => by unfold isJs; trivial
 | j :: r, n, h => by
  unfold isJs
  obtain ⟨cs, h1, h2⟩ := h 0 (by simp)
  refine ⟨⟨b, o, cs, rfl, hO, fun m v hv => ?_, h2⟩, isJs_of hO r (n + 1) fun i hi => ?_⟩
  · have := h1 m v hv
    simpa using this
  · obtain ⟨cs, h1, h2⟩ := h (i + 1) (by simp; omega)
    refine ⟨cs, fun m v hv => ?_, h2⟩
    have := h1 m v hv
    rwa [show n + (i + 1) = n + 1 + i by omega] at this
theorem pick_list {α : Type} {z : α} {P : Nat → α → Prop} : ∀ n, (∀ i, i < n → ∃ x, P i x) → ∃ l : List α, l.length = n ∧ ∀ i, i < n → P i (l.getD i z)
 | 0, _ => ⟨[], rfl, fun i hi => absurd hi (by omega)⟩
 | n + 1, h => by
  obtain ⟨l, hl, hp⟩ := pick_list (z := z) n fun i hi => h i (by omega)
  obtain ⟨x, hx⟩ := h n (by omega)
  refine ⟨l ++ [x], by simp [hl], fun i hi => ?_⟩
  by_cases hin : i < n
  · have : (l ++ [x]).getD i z = l.getD i z := by
      rw [List.getD_eq_getElem?_getD, List.getD_eq_getElem?_getD, List.getElem?_append_left (by omega)]
    rw [this]
    exact hp i hin
  · obtain rfl : i = n := by omega
    have : (l ++ [x]).getD i z = x := by
     rw [List.getD_eq_getElem?_getD, List.getElem?_append_right (by omega), hl]
     simp
    rw [this]
    exact hx
theorem viewJ {H : Type} {enc : TypeId × Value → H} {W : World} : ∀ (fuel : Nat) (cs : List Value) (x : DataW H × List MemPlace), DataW.trod enc Tryz.prog W 0 (fun _ => true) true fuel 36 cs = some x → ∃ j, isJ (fun b => b < W.heap.size) W j cs
 | 0, cs, x, h => by
  obtain ⟨_, n, hf, _⟩ := DataW.trod_struct Tryz.underlying36 h
  omega
 | fuel + 1, cs, x, h => by
  obtain ⟨xs, n, hf, _, hl, hlen, hfs⟩ := DataW.trod_struct Tryz.underlying36 h
  obtain rfl : fuel = n := by omega
  rw [cellsJ] at hl
  match cs, hl with
  | [c0, c1, c2, c3, c4], _ =>
   match xs, hlen with
   | [y0, y1, y2, y3, y4], _ =>
    have g0 : DataW.trod enc Tryz.prog W 0 (fun _ => true) true fuel 3 (([c0, c1, c2, c3, c4].drop 0).take (Tryz.prog.cellsOf 3)) = some y0 := hfs 0 _ rfl
    rw [cellsI3] at g0
    have f0 : DataW.trod enc Tryz.prog W 0 (fun _ => true) true fuel 3 [c0] = some y0 := g0
    have g1 : DataW.trod enc Tryz.prog W 0 (fun _ => true) true fuel 2 (([c0, c1, c2, c3, c4].drop 1).take (Tryz.prog.cellsOf 2)) = some y1 := hfs 1 _ rfl
    rw [cellsI2] at g1
    have f1 : DataW.trod enc Tryz.prog W 0 (fun _ => true) true fuel 2 [c1] = some y1 := g1
    have g2 : DataW.trod enc Tryz.prog W 0 (fun _ => true) true fuel 9 (([c0, c1, c2, c3, c4].drop 2).take (Tryz.prog.cellsOf 9)) = some y2 := hfs 2 _ rfl
    rw [cellsS] at g2
    have f2 : DataW.trod enc Tryz.prog W 0 (fun _ => true) true fuel 9 [c2] = some y2 := g2
    have g3 : DataW.trod enc Tryz.prog W 0 (fun _ => true) true fuel 22 (([c0, c1, c2, c3, c4].drop 3).take (Tryz.prog.cellsOf 22)) = some y3 := hfs 3 _ rfl
    rw [cellsKs] at g3
    have f3 : DataW.trod enc Tryz.prog W 0 (fun _ => true) true fuel 22 [c3] = some y3 := g3
    have g4 : DataW.trod enc Tryz.prog W 0 (fun _ => true) true fuel 34 (([c0, c1, c2, c3, c4].drop 4).take (Tryz.prog.cellsOf 34)) = some y4 := hfs 4 _ rfl
    rw [cellsLs] at g4
    have f4 : DataW.trod enc Tryz.prog W 0 (fun _ => true) true fuel 34 [c4] = some y4 := g4
    obtain ⟨k, e0, _, _⟩ := DataW.trod_int Tryz.underlying3 f0
    obtain ⟨i, e1, _, _⟩ := DataW.trod_int Tryz.underlying2 f1
    obtain ⟨t, e2, _, _⟩ := DataW.trod_string Tryz.underlying9 f2
    simp only [List.cons.injEq, and_true] at e0 e1 e2
    subst e0 e1 e2
    have hkeys : ∃ pk nk ck ks, c3 = .slice pk nk ck ∧ nk = ks.length ∧ RdK (fun b => b < W.heap.size) W pk ck ks := by
     rcases open_strings Tryz.underlying22 Tryz.underlying9 cellsS f3 with ⟨e3, _⟩ | ⟨a, len, cap, ss, e3, _, hlc, _, hss, _, hcell, _⟩
     · simp only [List.cons.injEq, and_true] at e3
       exact ⟨none, 0, 0, [], e3, rfl, RdK.nil _ _⟩
     · simp only [List.cons.injEq, and_true] at e3
       simp only [if_true] at hss
       refine ⟨some a, len, cap, ss.take len, e3, by simp; omega, by simp; omega, fun j hj => ⟨a, rfl, ?_, ?_⟩⟩
       · have hj' : j < len := by simp at hj; omega
         have := cell_lt (hcell j (by omega))
         rwa [add_block] at this
       · have hj' : j < len := by simp at hj; omega
         rw [hcell j (by omega)]
         congr 2
         rw [List.getD_eq_getElem?_getD, List.getD_eq_getElem?_getD, List.getElem?_take, if_pos hj', List.getElem?_eq_getElem (by omega)]
         rfl
    have hlist : ∃ pl nl cl l, c4 = .slice pl nl cl ∧ nl = l.length ∧ l.length ≤ cl ∧ isJs (fun b => b < W.heap.size) W pl 0 l := by
     rcases DataW.trod_slice Tryz.underlying34 f4 with ⟨e4, _⟩ | ⟨a, len, cap, elems, rest, n', hn', e4, _, _, hlc, _, hel, hget, _, _⟩
     · simp only [List.cons.injEq, and_true] at e4
       exact ⟨none, 0, 0, [], e4, rfl, Nat.le_refl _, by unfold isJs; trivial⟩
     · simp only [List.cons.injEq, and_true] at e4
       rw [cellsJ] at hget
       cases len with
       | zero => exact ⟨some a, 0, cap, [], e4, rfl, Nat.zero_le _, by unfold isJs; trivial⟩
       | succ len =>
        obtain ⟨b, o, sp⟩ := a
        have hone : ∀ i, i < len + 1 → ∃ cs, W.cells? 0 ((⟨b, o, sp⟩ : Addr).add (i * 5)) 5 = some cs ∧ ∃ y, DataW.trod enc Tryz.prog W 0 (fun _ => true) true n' 36 cs = some y := fun i hi => by
         have h1 := hget i hi
         rw [List.getElem?_eq_getElem (by omega), Option.bind_eq_some_iff] at h1
         obtain ⟨cs, h2, h3⟩ := h1
         exact ⟨cs, h2, _, h3⟩
        have hsp : sp = none := by
         obtain ⟨cs, h2, _⟩ := hone 0 (by omega)
         have h3 := (World.cells?_some h2).2.2 0 (by omega)
         have h4 : (((⟨b, o, sp⟩ : Addr).add (0 * 5)).add 0) = ⟨b, o, sp⟩ := by
          unfold Addr.add
          simp
         rw [h4] at h3
         have hlen5 := (World.cells?_some h2).2.1
         rw [List.getElem?_eq_getElem (by omega)] at h3
         exact cell_none h3
        subst hsp
        have hadd : ∀ m, (⟨b, o, none⟩ : Addr).add m = ⟨b, o + m, none⟩ := fun m => by unfold Addr.add; split <;> simp_all
        have hadd2 : ∀ m m', ((⟨b, o + m, none⟩ : Addr)).add m' = ⟨b, o + m + m', none⟩ := fun m m' => by unfold Addr.add; split <;> simp_all
        have hb : b < W.heap.size := by
         obtain ⟨cs, h2, _⟩ := hone 0 (by omega)
         have := World.cells?_block h2 (by decide)
         rwa [hadd] at this
        obtain ⟨l, hl1, hl2⟩ := pick_list (z := J.zero) (P := fun i j => ∃ cs, (∀ m v, cs[m]? = some v → W.cell? ⟨b, o + (0 + i) * 5 + m, none⟩ = some v) ∧ isJ (fun b => b < W.heap.size) W j cs) (len + 1) fun i hi => by
         obtain ⟨cs, h2, y, h3⟩ := hone i hi
         obtain ⟨j, hj⟩ := viewJ n' cs y h3
         refine ⟨j, cs, fun m v hv => ?_, hj⟩
         have h5 := (World.cells?_some h2).2.2
         have hlen5 := (World.cells?_some h2).2.1
         have hm : m < 5 := by
          have := (List.getElem?_eq_some_iff.1 hv).1
          omega
         have h6 := h5 m hm
         rw [hadd, hadd2, hv] at h6
         rw [show o + (0 + i) * 5 + m = o + i * 5 + m by omega]
         exact h6
        exact ⟨some ⟨b, o, none⟩, len + 1, cap, l, e4, hl1.symm, by omega, isJs_of (O := fun b => b < W.heap.size) hb l 0 fun i hi => hl2 i (by omega)⟩
    obtain ⟨pk, nk, ck, ks, rfl, rfl, hk⟩ := hkeys
    obtain ⟨pl, nl, cl, l, rfl, rfl, hlc, hll⟩ := hlist
    exact ⟨.mk k i t ks l, by unfold isJ; exact ⟨pk, ck, pl, cl, rfl, hk, hlc, hll⟩⟩
end Go.Proofs.YtimhpglfolbomaaGreat

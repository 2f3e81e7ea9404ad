/-
  What the reader of a content tells: by contracts.
  Levels and numbers of a content: by contracts.
  A map of names to levels.
  A row of names as a map: by a contract.
  Two rows of names joined: by contracts.
  The changes from a row of names to the next, gone through by a function: by a contract.
  The letters of bytes and the bytes of letters, as plain functions on lists of integers: what base.Encode and base.Decode tell.
  The small functions of base, by their contracts.
  Which letters a name may have, asked by a closure, and whether a text is of such letters: by contracts.
  Servers' names, local names and types: the program's own, and the document's, by contracts.
-/
import Derived.Test.YtalmghbkdelaoaaP06
import Derived.RangeFuncNested
import Derived.Lib.AppendZeros
import Derived.RangeFuncBound
import Derived.RangeFuncCalls
import Derived.RangeFuncLeaves
import Derived.Shelf.Abstract
import Derived.Shelf.RegionOpen
import Derived.OwnWalkIn
import Derived.TacticsInMore
import Derived.LoopNIn
import Derived.LoopIn
import Derived.Laws.StructEq
import Derived.Deep.CutRange
import Derived.Deep.CutBlock
import Derived.Laws.BitsLemmas
import Derived.Lib.Walk
set_option maxRecDepth 100000
set_option maxHeartbeats 64000000
namespace Go.Proofs.Ytalmghbkdelaoaa
open Go.RowKit

theorem resultsP_cell_tmp {fn : Func} {a u : Tmp} {t : TypeId} (h : fn.results = #[.cell a t, .tmp u]) (tmps : Array Value) (P : Program) (w : World) {ad : Addr} {v : Value} (hp : tmps.getD a undef = .pointer (some ad)) (hl : (loadVar t ad).run P w = .ok v w) :
    (results fn tmps).run P w = .ok (.tuple #[v, tmps.getD u undef]) w := by
  rw [Array.getD_eq_getD_getElem?] at hp
  simp [results, h, hp, hl, asAddr]
theorem loadJP {w : World} {b t : Nat} {a0 a1 a2 a3 a4 : Value} (h : w.heap[b]? = some (.cells #[a0, a1, a2, a3, a4] t (0, 0))) : (loadVar 51 ⟨b, 0, none⟩).run Try.prog w = .ok (.agg #[a0, a1, a2, a3, a4]) w := by
  have k0 := cellP h 0 _ rfl; have k1 := cellP h 1 _ rfl; have k2 := cellP h 2 _ rfl; have k3 := cellP h 3 _ rfl; have k4 := cellP h 4 _ rfl
  simp [loadVar, go_sem, k0, k1, k2, k3, k4]
theorem isJP_parts {O : Nat → Prop} {w : World} {kx ix : Int} {tx : ByteArray} {ks : List ByteArray} {l : List J} {k i : Int} {t : ByteArray} {pk pl : Option Addr} {nk ck nl cl : Nat} (h : isJ O w (.mk kx ix tx ks l) [.int .i64 k, .int .i64 i, .string t, .slice pk nk ck, .slice pl nl cl]) :
    k = kx ∧ i = ix ∧ t = tx ∧ nk = ks.length ∧ nl = l.length ∧ RdK O w pk ck ks ∧ l.length ≤ cl ∧ isJs O w pl 0 l := by
  unfold isJ at h
  obtain ⟨pk', ck', pl', cl', e, h1, h2, h3⟩ := h
  simp only [List.cons.injEq, Value.int.injEq, Value.string.injEq, Value.slice.injEq, true_and, and_true] at e
  obtain ⟨rfl, rfl, rfl, ⟨rfl, rfl, rfl⟩, rfl, rfl, rfl⟩ := e
  exact ⟨rfl, rfl, rfl, rfl, rfl, h1, h2, h3⟩
abbrev zJP : Value := .agg #[.int .i64 0, .int .i64 0, .string ⟨#[]⟩, .slice none 0 0, .slice none 0 0]
/-- What stands under a key is told. -/
def UnderT (O : Nat → Prop) (w' : World) : Option J → Ending → Prop
  | none, e => e = .returned (.tuple #[zJP, .bool false])
  | some v, e => ∃ k i t p n c q m d, e = .returned (.tuple #[.agg #[.int .i64 k, .int .i64 i, .string t, .slice p n c, .slice q m d], .bool true]) ∧ isJ O w' v [.int .i64 k, .int .i64 i, .string t, .slice p n c, .slice q m d]
theorem At.found {ks : List ByteArray} {s : ByteArray} {n : Nat} (h : At ks s n) {l : List J} (hl : ks.length ≤ l.length) (hn : n < ks.length) (he : (keyAtK ks n).toList == s.toList) : lookJ ks l s = some (l.getD n J.zero) :=
  lookJ_at hl hn (bytes_eq.1 he) fun m hm => ltP_ne (h.lo m hm)
theorem At.none {ks : List ByteArray} {s : ByteArray} {n : Nat} (h : At ks s n) (hr : rises ks = true) {l : List J} (he : (decide (n < ks.length) && ((keyAtK ks n).toList == s.toList)) = false) : lookJ ks l s = none := by
  refine lookJ_none fun hm => ?_
  obtain ⟨m, hml, hms⟩ := List.getElem_of_mem hm
  have hk : keyAtK ks m = s := by unfold keyAtK; rw [List.getD_eq_getElem?_getD, List.getElem?_eq_getElem hml]; exact hms
  rcases Nat.lt_or_ge m n with h1 | h1
  · exact ltP_ne (h.lo m h1) hk
  · have hnl : n < ks.length := by omega
    by_cases e : m = n
    · subst e
      rw [hk] at he
      simp [hnl] at he
    · have := rises_lt hr (m := n) (n := m) (by omega) hml
      rw [show ks.getD m nix = s from hk] at this
      have h2 := h.hi n (Nat.le_refl _) hnl
      unfold keyAtK at h2
      rw [this] at h2
      cases h2
theorem under_any {O : Nat → Prop} {w : World} {Rb d : Nat} {j : J} {k i : Int} {t : ByteArray} {pk pl : Option Addr} {nk ck nl cl : Nat} {bad : Bool} (hR : w.heap[Rb]? = some (.cells #[.int .i64 k, .int .i64 i, .string t, .slice pk nk ck, .slice pl nl cl, .bool bad] 65 (0, 0)))
    (hj : isJ O w j [.int .i64 k, .int .i64 i, .string t, .slice pk nk ck, .slice pl nl cl]) (hO : ∀ x, O x → x < w.heap.size) (hok : OkJ (d + 1) j) (s : ByteArray) :
    Calls Try.prog 42 #[.pointer (some ⟨Rb, 0, none⟩), .string s] w fun e w' => UnderT O w' (lookJ j.ks j.ls s) e ∧ Below w.heap.size w w' := by
  obtain ⟨kx, ix, tx, ks, l⟩ := j
  obtain ⟨rfl, rfl, rfl, rfl, rfl, hk, hcl, hjs⟩ := isJP_parts hj
  clear hj
  have hris := hok.parts.1
  have hkn := hok.parts.2.2.2.1
  have hlen := hok.lens
  simp only [J.ks, J.ls]
  obtain ⟨wA, hwA⟩ : ∃ wA, wA = w.alloc (.cells #[.int .i64 0, .int .i64 0, .string ⟨#[]⟩, .slice none 0 0, .slice none 0 0] 51) := ⟨_, rfl⟩
  have hbA : Below w.heap.size w wA := by rw [hwA]; exact (Below.refl _ _).alloc (Nat.le_refl _) _
  have hA : wA.heap[w.heap.size]? = some (.cells #[.int .i64 0, .int .i64 0, .string ⟨#[]⟩, .slice none 0 0, .slice none 0 0] 51 (0, 0)) := by rw [hwA]; exact newP _
  have hRA := (hbA.block Rb (objP_lt hR)).trans hR
  have hS := search_any (hk.carry (O' := O) (w' := wA) fun x hx => ⟨hx, hbA.block x (hO x hx)⟩) hris hkn s
  have r3 := cellP hRA 3 _ rfl
  have r4 := cellP hRA 4 _ rfl
  have hRlt := objP_lt hR
  have i0 := cellP hA 0 _ rfl; have i1 := cellP hA 1 _ rfl; have i2 := cellP hA 2 _ rfl; have i3 := cellP hA 3 _ rfl; have i4 := cellP hA 4 _ rfl
  have z0 := fzP hA 0; have z1 := fzP hA 1; have z2 := fzP hA 2; have z3 := fzP hA 3; have z4 := fzP hA 4
  have HA : Hid (wA.heap[w.heap.size]? = some (.cells #[.int .i64 0, .int .i64 0, .string ⟨#[]⟩, .slice none 0 0, .slice none 0 0] 51 (0, 0))) := hA
  have HRI : Hid (rises ks = true) := hris
  have HLE : Hid (ks.length ≤ l.length) := hlen
  have HJS : Hid (isJs O w pl 0 l) := hjs
  obtain ⟨nk, hnk⟩ : ∃ n, ks.length = n := ⟨_, rfl⟩
  obtain ⟨nl, hnl⟩ : ∃ n, l.length = n := ⟨_, rfl⟩
  have HNK : Hid (ks.length = nk) := hnk
  have HNL : Hid (l.length = nl) := hnl
  rw [hnk] at hS r3 hkn
  rw [hnl] at r4 hcl
  clear hnk hnl hris hlen hjs hk hok hR hRA hA
  go_enter Try.func42, Try.ntmps42
  go_upto_region 1 with fail
  rw [← hwA]
  clear hwA
  go_upto_region 2 with (go_at_call 50; refine hS.mono ?_; rintro e w' ⟨⟨n, rfl, hat⟩, rfl⟩)
  have HAT : Hid (At ks s n) := hat
  cases hf : (decide (n < nk) && ((keyAtK ks n).toList == s.toList)) with
  | false =>
    have HLK : Hid (lookJ ks l s = none) := HAT.out.none HRI.out (by rw [HNK.out]; exact hf)
    clear hS hat HAT HJS
    go_wp2
    have h5 := setL_all (b := w.heap.size) [.int .i64 0, .int .i64 0, .string ⟨#[]⟩, .slice none 0 0, .slice none 0 0] HA.out rfl
    have HK5 := setL_keep w.heap.size [.int .i64 0, .int .i64 0, .string ⟨#[]⟩, .slice none 0 0, .slice none 0 0] wA 0
    simp only [setL, Nat.zero_add, Nat.reduceAdd] at h5 HK5
    refine bodyPost_ret (resultsP_cell_tmp rfl _ _ _ rfl (loadJP h5)) rfl ?_
    rw [HLK.out]
    exact ⟨rfl, hbA.trans (HK5.below hbA.size fun k hk e => by unfold OneP at e; omega)⟩
  | true =>
    have hf' := hf
    simp only [Bool.and_eq_true, decide_eq_true_eq] at hf'
    have hnl : n < nl := by have := HLE.out; rw [HNK.out, HNL.out] at this; omega
    have HLK : Hid (lookJ ks l s = some (l.getD n J.zero)) := HAT.out.found HLE.out (by rw [HNK.out]; exact hf'.1) hf'.2
    obtain ⟨lb, lo, cs, hpl, hOb, hcells, hyj⟩ := isJs.at l 0 n HJS.out (by rw [HNL.out]; exact hnl)
    subst hpl
    obtain ⟨kv, iv, tv, pv, nv, cv, qv, mv, dv, rfl⟩ := isJ_shape hyj
    have cc : ∀ m v, [Value.int .i64 kv, .int .i64 iv, .string tv, .slice pv nv cv, .slice qv mv dv][m]? = some v → wA.cell? ⟨lb, lo + n * 5 + m, none⟩ = some v := fun m v h => by
      have := hcells m v h
      rw [Nat.zero_add] at this
      exact (World.cell?_of_block (a := ⟨lb, lo + n * 5 + m, none⟩) (hbA.block lb (hO lb hOb))).trans this
    have y0 : wA.cell? ⟨lb, lo + n * 5, none⟩ = some (.int .i64 kv) := cc 0 _ rfl
    have y1 := cc 1 _ rfl
    have y2 := cc 2 _ rfl
    have y3 := cc 3 _ rfl
    have y4 := cc 4 _ rfl
    have HYJ : Hid (isJ O w (l.getD n J.zero) [Value.int .i64 kv, .int .i64 iv, .string tv, .slice pv nv cv, .slice qv mv dv]) := hyj
    have hlb := hO lb hOb
    clear cc hcells hyj hS hat HAT HJS hf'
    go_wp2
    have h5 := setL_all (b := w.heap.size) [.int .i64 kv, .int .i64 iv, .string tv, .slice pv nv cv, .slice qv mv dv] HA.out rfl
    have HK5 := setL_keep w.heap.size [.int .i64 kv, .int .i64 iv, .string tv, .slice pv nv cv, .slice qv mv dv] wA 0
    simp only [setL, Nat.zero_add, Nat.reduceAdd] at h5 HK5
    refine bodyPost_ret (resultsP_cell_tmp rfl _ _ _ rfl (loadJP h5)) rfl ?_
    rw [HLK.out]
    have hbE := hbA.trans (HK5.below hbA.size fun k hk e => by unfold OneP at e; omega)
    exact ⟨⟨_, _, _, _, _, _, _, _, _, rfl, HYJ.out.carry fun x hx => ⟨hx, hbE.block x (hO x hx)⟩⟩, hbE⟩

/-- May a value be a level? -/
def lvOk (k i : Int) : Bool := decide (k = 2) && (decide (-1073741824 ≤ i) && decide (i ≤ 1073741824))
/-- The reader's block. -/
abbrev RdrIs (w : World) (Rb : Nat) (a0 a1 a2 a3 a4 : Value) (bad : Bool) : Prop := w.heap[Rb]? = some (.cells #[a0, a1, a2, a3, a4, .bool bad] 65 (0, 0))
theorem RdrIs.set {w : World} {Rb : Nat} {a0 a1 a2 a3 a4 : Value} {bad : Bool} (h : RdrIs w Rb a0 a1 a2 a3 a4 bad) (b : Bool) : RdrIs (w.setCell ⟨Rb, 5, none⟩ (.bool b)) Rb a0 a1 a2 a3 a4 b := by
  show (w.setCell ⟨Rb, 5, none⟩ (.bool b)).heap[Rb]? = _
  rw [heap_setCell_same w Rb 5 _ _ _ h]
  rfl
theorem level_any {w : World} {Rb : Nat} {a0 a1 a2 a3 a4 : Value} {bad : Bool} (hR : RdrIs w Rb a0 a1 a2 a3 a4 bad) (k i : Int) (t : ByteArray) (p q : Option Addr) (n c m d : Nat) :
    Calls Try.prog 43 #[.pointer (some ⟨Rb, 0, none⟩), .agg #[.int .i64 k, .int .i64 i, .string t, .slice p n c, .slice q m d]] w fun e w' => e = .returned (.int .i64 i) ∧ RdrIs w' Rb a0 a1 a2 a3 a4 (bad || !lvOk k i) ∧ Keep (OneP Rb) w w' := by
  obtain ⟨wA, hwA⟩ : ∃ wA, wA = w.alloc (.cells #[.int .i64 k, .int .i64 i, .string t, .slice p n c, .slice q m d] 51) := ⟨_, rfl⟩
  have hbA : Below w.heap.size w wA := by rw [hwA]; exact (Below.refl _ _).alloc (Nat.le_refl _) _
  have hA : wA.heap[w.heap.size]? = some (.cells #[.int .i64 k, .int .i64 i, .string t, .slice p n c, .slice q m d] 51 (0, 0)) := by rw [hwA]; exact newP _
  have hlt := objP_lt hR
  have hRA : RdrIs wA Rb a0 a1 a2 a3 a4 bad := (hbA.block Rb hlt).trans hR
  have i0 := cellP hA 0 _ rfl; have i1 := cellP hA 1 _ rfl
  have r5 := cellP hRA 5 _ rfl
  have rz := fzP hRA 5
  have HBE : Hid (Keep (OneP Rb) w wA) := Keep.of_below hbA
  have HRA : Hid (RdrIs wA Rb a0 a1 a2 a3 a4 bad) := hRA
  have i0' : (wA.setCell ⟨Rb, 5, none⟩ (.bool true)).cell? ⟨w.heap.size, 0, none⟩ = some (.int .i64 k) := by
    rw [World.cell?_of_block (Below.heap_setCell wA ⟨Rb, 5, none⟩ _ w.heap.size (by simp; omega))]; exact i0
  have i1' : (wA.setCell ⟨Rb, 5, none⟩ (.bool true)).cell? ⟨w.heap.size, 1, none⟩ = some (.int .i64 i) := by
    rw [World.cell?_of_block (Below.heap_setCell wA ⟨Rb, 5, none⟩ _ w.heap.size (by simp; omega))]; exact i1
  clear hA hRA hR
  by_cases hk : k = 2
  · by_cases h1 : -1073741824 ≤ i
    · by_cases h2 : i ≤ 1073741824
      · have HL : Hid (lvOk k i = true) := by show _ = _; simp [lvOk, hk, h1, h2]
        subst hk
        go_enter Try.func43, Try.ntmps43
        go_upto_region 1 with fail
        rw [← hwA]
        clear hwA
        go_wp2
        go_ret
        rw [HL.out]
        exact ⟨rfl, by simpa using HRA.out, HBE.out⟩
      · have HL : Hid (lvOk k i = false) := by show _ = _; simp [lvOk, hk, h1, h2]
        subst hk
        go_enter Try.func43, Try.ntmps43
        go_upto_region 1 with fail
        rw [← hwA]
        clear hwA
        go_wp2
        go_ret
        rw [HL.out]
        exact ⟨rfl, by simpa using HRA.out.set true, HBE.out.setCell (p := ⟨Rb, 5, none⟩) (fun _ => (rfl : Rb = Rb)) _⟩
    · have HL : Hid (lvOk k i = false) := by show _ = _; simp [lvOk, hk, h1]
      subst hk
      go_enter Try.func43, Try.ntmps43
      go_upto_region 1 with fail
      rw [← hwA]
      clear hwA
      go_wp2
      go_ret
      rw [HL.out]
      exact ⟨rfl, by simpa using HRA.out.set true, HBE.out.setCell (p := ⟨Rb, 5, none⟩) (fun _ => (rfl : Rb = Rb)) _⟩
  · have HL : Hid (lvOk k i = false) := by show _ = _; simp [lvOk, hk]
    go_enter Try.func43, Try.ntmps43
    go_upto_region 1 with fail
    rw [← hwA]
    clear hwA
    go_wp2
    go_ret
    rw [HL.out]
    exact ⟨rfl, by simpa using HRA.out.set true, HBE.out.setCell (p := ⟨Rb, 5, none⟩) (fun _ => (rfl : Rb = Rb)) _⟩
/-- The number under a key, and whether it may not be. -/
def numT (d : Int) : Option J → Int × Bool
  | none => (d, false)
  | some v => (v.nm, !lvOk v.kd v.nm)
theorem number_any {O : Nat → Prop} {w : World} {Rb d : Nat} {j : J} {k i : Int} {t : ByteArray} {pk pl : Option Addr} {nk ck nl cl : Nat} {bad : Bool} (hR : RdrIs w Rb (.int .i64 k) (.int .i64 i) (.string t) (.slice pk nk ck) (.slice pl nl cl) bad)
    (hj : isJ O w j [.int .i64 k, .int .i64 i, .string t, .slice pk nk ck, .slice pl nl cl]) (hO : ∀ x, O x → x < w.heap.size) (hok : OkJ (d + 1) j) (s : ByteArray) (z : Int) :
    Calls Try.prog 30 #[.pointer (some ⟨Rb, 0, none⟩), .string s, .int .i64 z] w fun e w' => e = .returned (.int .i64 (numT z (lookJ j.ks j.ls s)).1) ∧ RdrIs w' Rb (.int .i64 k) (.int .i64 i) (.string t) (.slice pk nk ck) (.slice pl nl cl) (bad || (numT z (lookJ j.ks j.ls s)).2) ∧ Keep (OneP Rb) w w' := by
  have hU := under_any hR hj hO hok s
  have HR : Hid (∀ X, Below w.heap.size w X → RdrIs X Rb (.int .i64 k) (.int .i64 i) (.string t) (.slice pk nk ck) (.slice pl nl cl) bad) := fun X hX => (hX.block Rb (objP_lt hR)).trans hR
  have HLT : Hid (Rb < w.heap.size) := objP_lt hR
  clear hR hj hok hO
  generalize lookJ j.ks j.ls s = o at hU
  cases o with
  | none =>
    go_enter Try.func30, Try.ntmps30
    go_wp2_with (go_at_call 42; refine hU.mono ?_; rintro e w1 ⟨he, hb1⟩; replace he : e = _ := he; subst he)
    go_ret
    refine ⟨rfl, ?_, ?_⟩
    · simp only [numT, Bool.or_false]
      exact HR.out _ (belowP hb1 ((Below.refl _ _).alloc (Nat.le_refl _) _))
    · exact Keep.of_below (belowP hb1 ((Below.refl _ _).alloc (Nat.le_refl _) _))
  | some v =>
    go_enter Try.func30, Try.ntmps30
    go_wp2_with (first
      | (go_at_call 42; refine hU.mono ?_; rintro e w1 ⟨⟨kv, iv, tv, pv, nv, cv, qv, mv, dv, rfl, hv⟩, hb1⟩
         have HV : Hid (v.kd = kv ∧ v.nm = iv) := by obtain ⟨_, _, _, _, _⟩ := v; obtain ⟨rfl, rfl, _⟩ := isJP_parts hv; exact ⟨rfl, rfl⟩
         have hbA : Below w.heap.size w (w1.alloc (.cells #[.int .i64 kv, .int .i64 iv, .string tv, .slice pv nv cv, .slice qv mv dv] 51)) := belowP hb1 ((Below.refl _ _).alloc (Nat.le_refl _) _)
         have hL := level_any (HR.out _ hbA) kv iv tv pv qv nv cv mv dv
         clear hv)
      | (go_at_call 43; refine hL.mono ?_; rintro e w2 ⟨rfl, hr2, hk2⟩))
    go_ret
    simp only [numT, HV.out.1, HV.out.2]
    exact ⟨rfl, hr2, (Keep.of_below hbA).then hk2⟩
end Go.Proofs.Ytalmghbkdelaoaa
namespace Go.Proofs.Ytalmghbkdelaoaa
open Go.RowKit Go.Maps

def klP (s : ByteArray) : Lit := .string s.data.toList
def okP (s : ByteArray) : Prop := s.size ≤ maxLen
theorem klP_inj {s t : ByteArray} (h : klP s = klP t) : s = t := by
  unfold klP at h
  cases s; cases t
  simp only [Lit.string.injEq] at h
  rw [Array.toList_inj.1 h]
theorem keyP {s : ByteArray} (h : okP s) : keyOf Try.prog 9 (.string s) = some (klP s) := WideMaps.keyOf_string_mk Try.underlying9 h
theorem lawP9 : Keyed Try.prog 9 := string_keyed Try.underlying9
/-- A value is read as it stands. -/
def rawP (v : Value) : Option (DataW Value × List MemPlace) := some (.held v, [])
/-- What the pairs say of a name. -/
def lookP : List (ByteArray × Value) → ByteArray → Option Value
  | [], _ => none
  | p :: r, s => if p.1.data = s.data then some p.2 else lookP r s
theorem dataP_inj {a b : ByteArray} (h : a.data = b.data) : a = b := by
  cases a; cases b
  simp only at h
  rw [h]
theorem lookP_none {es : List (ByteArray × Value)} {s : ByteArray} : lookP es s = none ↔ s ∉ es.map (·.1) := by
  induction es with
  | nil => simp [lookP]
  | cons p r ih =>
    unfold lookP
    by_cases h : p.1.data = s.data
    · rw [if_pos h]
      simp [dataP_inj h]
    · rw [if_neg h, ih]
      simp
      intro _ e
      exact h (by rw [e])
theorem lookP_snoc {es : List (ByteArray × Value)} {k s : ByteArray} {v : Value} (hk : k ∉ es.map (·.1)) : lookP (es ++ [(k, v)]) s = if k.data = s.data then some v else lookP es s := by
  induction es with
  | nil => simp [lookP]
  | cons p r ih =>
    have hk1 : k ≠ p.1 := fun e => hk (by simp [e])
    have hk2 : k ∉ r.map (·.1) := fun h => hk (by simp at h ⊢; exact .inr h)
    simp only [List.cons_append, lookP, ih hk2]
    by_cases h : p.1.data = s.data
    · rw [if_pos h, if_neg (fun e => hk1 (dataP_inj (e.trans h.symm))), if_pos h]
    · rw [if_neg h, if_neg h]
/-- Block M is the map of the pairs es. -/
structure MapP (w : World) (M : Nat) (es : List (ByteArray × Value)) : Prop where
  own : ∃ D n, w.ownsMap Try.prog 9 rawP M n D ∧ n ≤ 100000 ∧ (∀ s, okP s → Maps.has D (klP s) = (lookP es s).isSome) ∧ (∀ s z, okP s → D.atKey (klP s) (.held z) = .held ((lookP es s).getD z)) ∧ Maps.size D = es.length
  apart : (es.map (·.1)).Pairwise (· ≠ ·)
theorem MapP.keep {S : Nat → Prop} {w w' : World} {M : Nat} {es : List (ByteArray × Value)} (h : MapP w M es) (hk : Keep S w w') (hS : ¬ S M) : MapP w' M es := by
  obtain ⟨⟨D, n, ⟨ms, clock, hb, F, hs, hD⟩, r⟩, ha⟩ := h
  exact ⟨⟨D, n, ⟨ms, clock, (hk.block M (Array.getElem?_eq_some_iff.1 hb).1 hS).trans hb, F, hs, hD⟩, r⟩, ha⟩
theorem MapP.lt {w : World} {M : Nat} {es : List (ByteArray × Value)} (h : MapP w M es) : M < w.heap.size := by
  obtain ⟨⟨D, n, ho, _⟩, _⟩ := h
  exact ho.lt
theorem MapP.made (w : World) : MapP (w.alloc (.map #[] 0)) w.heap.size [] :=
  ⟨⟨.map [], 0, World.ownsMap_made _ _ _ _, by omega, fun _ _ => rfl, fun _ _ _ => rfl, rfl⟩, List.Pairwise.nil⟩
/-- No level. -/
abbrev zHv : Value := .agg #[.bool false, .int .i64 0]
theorem zeroH (w : World) : (zeroValue 58).run Try.prog w = .ok zHv w := by kernel_rfl
theorem MapP.look {w : World} {M : Nat} {es : List (ByteArray × Value)} (h : MapP w M es) {s : ByteArray} (hs : okP s) : (Instr.lookup 72 (.map (some M)) (.string s) false).run Try.prog w = .ok ((lookP es s).getD zHv) w := by
  obtain ⟨⟨D, n, ho, _, _, hat, _⟩, _⟩ := h
  obtain ⟨v, ps, hrun, hv⟩ := ho.lookup lawP9 Try.underlying72 (zeroH w) (zd := .held zHv) (zp := []) rfl (keyP hs)
  rw [hat s _ hs] at hv
  unfold rawP at hv
  have : v = (lookP es s).getD zHv := by
    have := Option.some.inj hv
    have := congrArg Prod.fst this
    exact DataW.held.inj this
  rw [hrun, this]
theorem MapP.put {w : World} {M : Nat} {es : List (ByteArray × Value)} (h : MapP w M es) {s : ByteArray} (hs : okP s) (hn : s ∉ es.map (·.1)) (hl : es.length < 90000) (v : Value) :
    ∃ w', (Instr.mapUpdate 72 (.map (some M)) (.string s) v).run Try.prog w = .ok () w' ∧ MapP w' M (es ++ [(s, v)]) ∧ w.grownBy w' (some M) := by
  obtain ⟨⟨D, n, ho, hn1, hh, hat, hsz⟩, ha⟩ := h
  have ho' := ho
  obtain ⟨ms, clock, hb, F, hms, hD⟩ := ho'
  have hml : ms.size = Maps.size D := by
    rw [hD]
    simp [Maps.size, length_sorted]
  have ho2 : w.ownsMap Try.prog 9 rawP M es.length D := ⟨ms, clock, hb, F, by omega, hD⟩
  obtain ⟨w', hrun, ho3, hg⟩ := ho2.update lawP9 Try.underlying72 (by unfold maxLen; omega) (keyP hs) (d := .held v) (ps := []) rfl
  have hm := ho2.isMap
  have hns := lookP_none.2 hn
  refine ⟨w', hrun, ⟨⟨D.put (klP s) (.held v), es.length + 1, ho3, by omega, fun x hx => ?_, fun x z hx => ?_, ?_⟩, ?_⟩, hg⟩
  · rw [lookP_snoc hn]
    by_cases e : x = s
    · subst e
      rw [has_put_same hm (show WideAt.IsKeyLit (klP x) from trivial), if_pos rfl]; rfl
    · rw [has_put_other (fun h' => e (klP_inj h')), hh x hx, if_neg (fun h' => e (dataP_inj h').symm)]
  · rw [lookP_snoc hn]
    by_cases e : x = s
    · subst e
      rw [atKey_put_same hm (show WideAt.IsKeyLit (klP x) from trivial), if_pos rfl]; rfl
    · rw [atKey_put_other (fun h' => e (klP_inj h')), hat x z hx, if_neg (fun h' => e (dataP_inj h').symm)]
  · rw [size_put (ho2.tidy lawP9), hh s hs, hns, hsz]
    simp
  · rw [List.map_append, List.pairwise_append]
    refine ⟨ha, by simp, fun a ha' b hb' e => ?_⟩
    simp at hb'
    subst hb'
    exact hn (e ▸ ha')
/-- What a name has, as a value. -/
def heldV : Option Int → Value
  | none => .agg #[.bool false, .int .i64 0]
  | some x => .agg #[.bool true, .int .i64 x]
/-- Block M is the map of the levels that the names l have. -/
def MapN (w : World) (M : Nat) (l : Nms) : Prop := ∃ es, MapP w M es ∧ es.length ≤ l.length ∧ ∀ s, (lookP es s).getD zHv = heldV (fnd l s) ∧ (lookP es s).isSome = (fnd l s).isSome
theorem MapN.made (w : World) : MapN (w.alloc (.map #[] 0)) w.heap.size [] := ⟨[], MapP.made w, Nat.le_refl _, fun _ => ⟨rfl, rfl⟩⟩
theorem MapN.same {w w' : World} {M : Nat} {l : Nms} (h : MapN w M l) (e : w'.heap[M]? = w.heap[M]?) : MapN w' M l := by
  obtain ⟨es, ⟨⟨D, n, ⟨ms, clock, hb, r1⟩, r2⟩, r3⟩, r4⟩ := h
  exact ⟨es, ⟨⟨D, n, ⟨ms, clock, e.trans hb, r1⟩, r2⟩, r3⟩, r4⟩
theorem MapN.lt {w : World} {M : Nat} {l : Nms} (h : MapN w M l) : M < w.heap.size := by
  obtain ⟨es, h, _⟩ := h
  exact h.lt
theorem MapN.walk {w : World} {M : Nat} {l : Nms} (h : MapN w M l) : ∃ o, w.heap[M]? = some o ∧ o.isWalk = true ∧ o.isCells = false := by
  obtain ⟨es, ⟨⟨D, n, ⟨ms, clock, hb, r1⟩, r2⟩, r3⟩, r4⟩ := h
  exact ⟨_, hb, rfl, rfl⟩
theorem MapN.look {w : World} {M : Nat} {l : Nms} (h : MapN w M l) {s : ByteArray} (hs : okP s) : (Instr.lookup 72 (.map (some M)) (.string s) false).run Try.prog w = .ok (heldV (fnd l s)) w := by
  obtain ⟨es, h, _, hl⟩ := h
  rw [h.look hs, (hl s).1]
theorem fnd_snoc_old {l : Nms} {s : ByteArray} {x y : Int} (h : fnd l s = some y) (t : ByteArray) : fnd (l ++ [(s, x)]) t = fnd l t := by
  rw [fnd_append]
  cases e : fnd l t with
  | some z => rfl
  | none =>
    simp only [fnd]
    by_cases e2 : (s.toList == t.toList) = true
    · rw [bytes_eq.1 e2, e] at h; cases h
    · rw [if_neg e2]
theorem fnd_snoc_new {l : Nms} {s : ByteArray} {x : Int} (h : fnd l s = none) (t : ByteArray) : fnd (l ++ [(s, x)]) t = if s.toList == t.toList then some x else fnd l t := by
  rw [fnd_append]
  by_cases e2 : (s.toList == t.toList) = true
  · rw [if_pos e2, ← bytes_eq.1 e2, h]
    simp [fnd]
  · rw [if_neg e2]
    cases e : fnd l t with
    | some z => rfl
    | none => simp only [fnd]; rw [if_neg e2]
theorem MapN.old {w : World} {M : Nat} {l : Nms} (h : MapN w M l) {s : ByteArray} {x y : Int} (hf : fnd l s = some y) : MapN w M (l ++ [(s, x)]) := by
  obtain ⟨es, hm, hl, hq⟩ := h
  exact ⟨es, hm, by simp; omega, fun t => by rw [fnd_snoc_old hf]; exact hq t⟩
theorem MapN.put {w : World} {M : Nat} {l : Nms} (h : MapN w M l) {s : ByteArray} (hs : okP s) {x : Int} (hf : fnd l s = none) (hl : l.length < 90000) :
    ∃ w', (Instr.mapUpdate 72 (.map (some M)) (.string s) (.agg #[.bool true, .int .i64 x])).run Try.prog w = .ok () w' ∧ MapN w' M (l ++ [(s, x)]) ∧ w.grownBy w' (some M) := by
  obtain ⟨es, hm, hle, hq⟩ := h
  have hn : lookP es s = none := by
    have := (hq s).2
    rw [hf] at this
    cases e : lookP es s with
    | none => rfl
    | some v => rw [e] at this; cases this
  obtain ⟨w', hr, hm', hg⟩ := hm.put hs (lookP_none.1 hn) (by omega) (.agg #[.bool true, .int .i64 x])
  refine ⟨w', hr, ⟨_, hm', by simp; omega, fun t => ?_⟩, hg⟩
  rw [fnd_snoc_new hf, lookP_snoc (lookP_none.1 hn)]
  by_cases e : s = t
  · subst e
    simp [heldV]
  · rw [if_neg (fun h => e (dataP_inj h)), if_neg (fun h => e (bytes_eq.1 h))]
    exact hq t

theorem runP_makeMap_room {t k e : TypeId} (ht : Try.prog.underlying t = some (.map k e)) (n : Int) (w : World) : (Instr.makeMap t (some (.int .i64 n))).run Try.prog w = .ok (.map (some w.heap.size)) (w.alloc (.map #[] 0)) := by
  simp [Instr.makeMap, run_underlying ht, asInt, asIntOf, Result.andThen]
theorem okP_of {s : ByteArray} (h : s.size ≤ 1000000000) : okP s := by unfold okP maxLen; omega
theorem field_has (a b : Value) (w : World) : (Instr.field 58 (.agg #[a, b]) 0).run Try.prog w = .ok a w := by kernel_rfl
theorem byName_any {O : Nat → Prop} {w : World} {p : Option Addr} {c : Nat} {l : Nms} (h : RdN O w p c l) (hO : ∀ k, O k → k < w.heap.size) (hz : SzN l) :
    Calls Try.prog 37 #[.slice p l.length c] w fun e w' => (∃ M, e = .returned (.map (some M)) ∧ w.heap.size ≤ M ∧ MapN w' M l) ∧ Below w.heap.size w w' := by
  obtain ⟨n, hn⟩ : ∃ n, l.length = n := ⟨_, rfl⟩
  have HN : Hid (l.length = n) := hn
  have hz1 := hz.1
  have hc := h.1.1
  rw [hn] at hz1 hc ⊢
  clear hn
  have hmm := runP_makeMap_room Try.underlying72
  go_enter Try.func37, Try.ntmps37
  go_wp2
  go_loopw [11] (fun i wr => ∃ k : Nat, i = .int .i64 k ∧ k ≤ n ∧ MapN wr w.heap.size (l.take k) ∧ Below w.heap.size w wr) (fun i _ => n - (intOf i).toNat)
  case atStart => exact ⟨0, rfl, Nat.zero_le _, MapN.made w, (Below.refl _ _).alloc (Nat.le_refl _) _⟩
  case round =>
    clear hmm
    obtain ⟨k, rfl, hk, hm, hbr⟩ := hrel
    by_cases hkn : k < n
    · have hkl : k < l.length := by rw [HN.out]; exact hkn
      obtain ⟨b, o, rfl, hb, h1, h2⟩ := h.at hkl
      have h1' := (hbr.cell (p := ⟨b, o + k * 2, none⟩) (hO b hb)).trans h1
      have h2' := (hbr.cell (p := ⟨b, o + k * 2 + 1, none⟩) (hO b hb)).trans h2
      have hbs := hbr.size
      have hbl := hO b hb
      have hok := okP_of (hz.at hkl)
      have HT : Hid (l.take (k + 1) = l.take k ++ [l.getD k zN]) := take_one hkl
      have HTL : Hid ((l.take k).length = k) := by show _ = _; rw [List.length_take]; omega
      generalize l.getD k zN = x at h1' h2' HT hok
      obtain ⟨xn, xl⟩ := x
      simp only at h1' h2' hok
      clear h1 h2
      have hma : MapN (wr.alloc (.cells #[.string xn, .int .i64 xl] 36)) w.heap.size (l.take k) := hm.same (Below.heap_alloc _ _ _ hm.lt)
      have HBA : Hid (Below w.heap.size w (wr.alloc (.cells #[.string xn, .int .i64 xl] 36))) := hbr.trans ((Below.refl _ _).alloc hbs _)
      have hlk := hma.look hok
      have hfl := field_has
      cases hf : fnd (l.take k) xn with
      | none =>
        rw [hf] at hlk
        obtain ⟨w2, hput, hm2, hg2⟩ := hma.put hok (x := xl) hf (by rw [HTL.out]; omega)
        have HM2 : Hid (MapN w2 w.heap.size (l.take (k + 1))) := by show MapN _ _ _; rw [HT.out]; exact hm2
        have HB2 : Hid (Below w.heap.size w w2) := HBA.out.grown hg2 HBA.out.size (fun q e => by cases e; exact Nat.le_refl _)
        simp only [heldV] at hlk
        clear hm2 hg2 hm hma hf
        go_wp2
        go_roundw
        case rel => exact ⟨k + 1, by simp, by omega, HM2.out, HB2.out⟩
        case measure => simp [intOf]; omega
      | some y =>
        rw [hf] at hlk
        have HM2 : Hid (MapN (wr.alloc (.cells #[.string xn, .int .i64 xl] 36)) w.heap.size (l.take (k + 1))) := by show MapN _ _ _; rw [HT.out]; exact hma.old hf
        simp only [heldV] at hlk
        clear hm hma hf
        go_wp2
        go_roundw
        case rel => exact ⟨k + 1, by simp, by omega, HM2.out, HBA.out⟩
        case measure => simp [intOf]; omega
    · obtain rfl : k = n := by omega
      have HM : Hid (MapN wr w.heap.size l) := by show MapN _ _ _; rw [← List.take_length (l := l), HN.out]; exact hm
      clear hm
      go_wp2
      go_ret
      exact ⟨⟨_, rfl, Nat.le_refl _, HM.out⟩, hbr⟩

theorem Try.infoNm : (Try.prog.info? 36).map (fun i => (i.zero, i.size, i.bytes)) = some (some (.agg #[.string ⟨#[]⟩, .int .i64 0]), 2, 24) := by kernel_rfl
theorem flatN_one : ∀ (l : Nms) (u : Value), u ∈ flatN l → u.oneCell' = true
  | [], _, h => by simp [flatN] at h
  | x :: r, u, h => by
    simp only [flatN, List.mem_cons] at h
    rcases h with rfl | rfl | h
    · rfl
    · rfl
    · exact flatN_one r u h
theorem RdN.cells {O : Nat → Prop} {w : World} {a : Addr} {c : Nat} {l : Nms} (h : RdN O w (some a) c l) : ∀ j u, (flatN l)[j]? = some u → w.cell? (a.add j) = some u := by
  intro j u hu
  by_cases hl : l = []
  · subst hl; simp [flatN] at hu
  obtain ⟨b, o, hp, _, hc⟩ := h.2 hl
  cases hp
  have hj : j < l.length * 2 := by rw [← flatN_len]; exact (List.getElem?_eq_some_iff.1 hu).1
  have hq : j / 2 < l.length := by omega
  have hx := List.getElem?_eq_getElem hq
  have hf := flatN_at l (j / 2) _ hx
  have hcc := hc (j / 2) _ hx
  rw [addP_flat]
  rcases Nat.mod_two_eq_zero_or_one j with e | e
  · rw [show j = j / 2 * 2 by omega] at hu
    rw [hf.1] at hu
    cases hu
    rw [show o + j = o + j / 2 * 2 by omega]
    exact hcc.1
  · rw [show j = j / 2 * 2 + 1 by omega] at hu
    rw [hf.2] at hu
    cases hu
    rw [show o + j = o + j / 2 * 2 + 1 by omega]
    exact hcc.2
/-- A row that is read, behind a row of the call's own. -/
theorem wpList_append_rdN {w : World} {ops : Array Oper} {rest : List Oper} {o : Oper} {a : Act} {Q : Exit → Act → World → Prop} (hgd : o.guard = none) (s x : Operand)
    (ho : o.op = .call { callee := .builtin .append, args := #[s, x], argTypes := #[22, 22] })
    (base : Nat) (v : Value) (L : Nms) (hs : a.eval s = v) (hown : w.ownsRow base 36 2 v L.length (flatN L)) {O : Nat → Prop} {p : Option Addr} {c : Nat} {l : Nms} (hrd : RdN O w p c l) (hx : a.eval x = .slice p l.length c)
    (hlen : L.length ≤ 100000000) (hlen2 : l.length ≤ 100000000) (hbase : base ≤ w.heap.size)
    (h : ∀ v' w', w'.ownsRow base 36 2 v' (L ++ l).length (flatN (L ++ l)) → w.grownBy w' v.ownBlock → wpList Try.prog ops Q rest (a.put o.dst v') w') : wpList Try.prog ops Q (o :: rest) a w := by
  obtain ⟨i0, hi, hz0, hz1, hz2⟩ := info_parts Try.infoNm
  cases p with
  | none =>
    obtain rfl : c = 0 := hrd.1.2 rfl
    have hl0 : l = [] := List.eq_nil_of_length_eq_zero (by have := hrd.1.1; omega)
    subst hl0
    refine wpList_append_own_none hgd s x 22 ho base 36 i0 2 Try.underlying22 hi v L.length (flatN L) hs hown hx (h v w ?_ ⟨rfl, rfl, rfl, Nat.le_refl _, fun _ _ _ => rfl⟩)
    rw [List.append_nil]; exact hown
  | some ad =>
    refine wpList_append_own w hgd s x 22 ho base 36 i0 _ 2 24 Try.underlying22 hi hz0 hz1 hz2 rfl (by decide) v L.length (flatN L) hs hown ad l.length c (flatN l) hx (flatN_len l) hrd.cells (flatN_one l) (by unfold maxLen; omega) (by omega) hbase ?_
    intro v' w' hown' hgrow _
    exact h v' w' (by rw [List.length_append, flatN_append]; exact hown') hgrow
theorem wpList_append_run {w w' : World} {ops : Array Oper} {rest : List Oper} {o : Oper} {a : Act} {Q : Exit → Act → World → Prop} (hgd : o.guard = none) (s x : Operand) (t u : TypeId)
    (ho : o.op = .call { callee := .builtin .append, args := #[s, x], argTypes := #[t, u] }) {vs vx v' : Value} (hs : a.eval s = vs) (hx : a.eval x = vx) (hrun : (Builtin.append_ #[t, u] o.type #[vs, vx]).run Try.prog w = .ok v' w')
    (h : wpList Try.prog ops Q rest (a.put o.dst v') w') : wpList Try.prog ops Q (o :: rest) a w := by
  refine wpList_plain hgd fun K hK => ?_
  unfold Oper.wp
  simp [execOp, ho, resolve, invoke, builtin, hs, hx, hrun, Result.andThen]
  exact hK _ _ h
theorem grow_any {w : World} (n : Nat) (hn : n ≤ 1000000) :
    Calls Try.prog 47 #[.slice none 0 0, .int .i64 n] w fun e w' => (∃ v, e = .returned v ∧ w'.ownsRow w.heap.size 36 2 v 0 []) ∧ Below w.heap.size w w' := by
  obtain ⟨i0, hi, hz0, hz1, hz2⟩ := info_parts Try.infoNm
  by_cases h0 : n = 0
  · subst h0
    go_enter Try.func47, Try.ntmps47
    go_wp2
    go_ret
    exact ⟨⟨_, rfl, World.ownsRow_nil _ _ _ _⟩, Below.refl _ _⟩
  · have hr := fun ty => Lib.run_append_nil_zeros (P := Try.prog) w 22 3 ty 36 i0 _ .i64 .i64 Try.underlying22 Try.underlying3 hi hz0 n (by omega) (by rw [hz1]; decide) (by omega) (by rw [hz2]; omega)
    have hge := grownCap_ge w n 0 36
    have hle := grownCap_le_maxLen w n 0 36 (by unfold maxLen; omega)
    have hsz1 : (Builtin.zeroCells (Value.agg #[Value.string ⟨#[]⟩, Value.int .i64 0]).cells n ++ Builtin.zeroCells (Value.agg #[Value.string ⟨#[]⟩, Value.int .i64 0]).cells (grownCap w n 0 36 - n)).size = grownCap w n 0 36 * 2 := by
      rw [Array.size_append, size_zeroCells, size_zeroCells]
      show n * 2 + (grownCap w n 0 36 - n) * 2 = _
      omega
    have HSZ := (show Hid _ from hsz1)
    clear hsz1
    generalize (Builtin.zeroCells (Value.agg #[Value.string ⟨#[]⟩, Value.int .i64 0]).cells n ++ Builtin.zeroCells (Value.agg #[Value.string ⟨#[]⟩, Value.int .i64 0]).cells (grownCap w n 0 36 - n)) = Z at hr HSZ
    generalize grownCap w n 0 36 = cap at hr hge hle HSZ
    go_enter Try.func47, Try.ntmps47
    go_wp2_with (refine wpList_append_run rfl _ _ 22 3 rfl rfl rfl (hr _) ?_)
    go_ret
    refine ⟨⟨_, rfl, rfl, .inr ⟨w.heap.size, cap, Z, rfl, Nat.le_refl _, heap_alloc_new w.drew _, Nat.zero_le _, hle, HSZ.out, by simp⟩⟩, ⟨rfl, rfl, rfl, by simp, fun k hk => Below.heap_alloc w.drew _ k hk⟩⟩
/-- Two rows of names as one row's parts. -/
theorem part_sum (a b : Nms) (k : Nat) : ∃ m : Nat, m = (([a, b].take k).map List.length).sum := ⟨_, rfl⟩
theorem concat_any {O : Nat → Prop} {w : World} {p q : Option Addr} {c d g : Nat} {a b : Nms} (ha : RdN O w p c a) (hb : RdN O w q d b) (hO : ∀ k, O k → k < w.heap.size) (hza : SzN a) (hzb : SzN b)
    (h0 : w.cell? ⟨g, 0, none⟩ = some (.slice p a.length c)) (h1 : w.cell? ⟨g, 1, none⟩ = some (.slice q b.length d)) (hg : g < w.heap.size) :
    Calls Try.prog 38 #[.slice (some ⟨g, 0, none⟩) 2 2] w fun e w' => (∃ v, e = .returned v ∧ w'.ownsRow w.heap.size 36 2 v (a ++ b).length (flatN (a ++ b))) ∧ Below w.heap.size w w' := by
  obtain ⟨na, hna⟩ : ∃ n, a.length = n := ⟨_, rfl⟩
  obtain ⟨nb, hnb⟩ : ∃ n, b.length = n := ⟨_, rfl⟩
  have HNA : Hid (a.length = na) := hna
  have HNB : Hid (b.length = nb) := hnb
  have hza1 := hza.1
  have hzb1 := hzb.1
  rw [hna] at h0 hza1
  rw [hnb] at h1 hzb1
  clear hna hnb
  go_enter Try.func38, Try.ntmps38
  go_wp2
  go_loopw [3, 11] (fun s i wr => wr = w ∧ ((s = .int .i64 0 ∧ i = .int .i64 0) ∨ (s = .int .i64 na ∧ i = .int .i64 1) ∨ (s = .int .i64 ((na + nb : Nat) : Int) ∧ i = .int .i64 2))) (fun _ i _ => 2 - (intOf i).toNat)
  case atStart => exact ⟨rfl, .inl ⟨rfl, rfl⟩⟩
  case round =>
    obtain ⟨hwr, ⟨rfl, rfl⟩ | ⟨rfl, rfl⟩ | ⟨rfl, rfl⟩⟩ := hrel
    all_goals (rw [hwr]; clear hwr wr)
    · go_wp2
      go_roundw
      case rel => exact ⟨trivial, .inr (.inl ⟨by simp, rfl⟩)⟩
      case measure => simp [intOf]
    · go_wp2
      go_roundw
      case rel => exact ⟨trivial, .inr (.inr ⟨by simp, rfl⟩)⟩
      case measure => simp [intOf]
    · have hG := grow_any (w := w) (na + nb) (by omega)
      go_wp2_with (go_at_call 47; refine hG.mono ?_; rintro e w1 ⟨⟨v0, rfl, hown0⟩, hb1⟩)
      have HC0 : Hid (w.cell? ⟨g, 0, none⟩ = some (.slice p na c)) := h0
      have HC1 : Hid (w.cell? ⟨g, 1, none⟩ = some (.slice q nb d)) := h1
      have HA : Hid (RdN O w p c a) := ha
      have HB : Hid (RdN O w q d b) := hb
      clear hG h0 h1 ha hb
      go_loopw [6, 27] (fun v i wx => (∃ k : Nat, i = .int .i64 k ∧ ((k = 0 ∧ wx.ownsRow w.heap.size 36 2 v ([] : Nms).length (flatN [])) ∨ (k = 1 ∧ wx.ownsRow w.heap.size 36 2 v a.length (flatN a)) ∨ (k = 2 ∧ wx.ownsRow w.heap.size 36 2 v (a ++ b).length (flatN (a ++ b))))) ∧ Below w.heap.size w wx) (fun _ i _ => 2 - (intOf i).toNat)
      case atStart => exact ⟨⟨0, rfl, .inl ⟨rfl, hown0⟩⟩, hb1⟩
      case round =>
        obtain ⟨⟨k, rfl, hk⟩, hbr⟩ := hrel
        have h0r := (hbr.cell (p := ⟨g, 0, none⟩) hg).trans HC0.out
        have h1r := (hbr.cell (p := ⟨g, 1, none⟩) hg).trans HC1.out
        have hsr := hbr.size
        rcases hk with ⟨rfl, hown⟩ | ⟨rfl, hown⟩ | ⟨rfl, hown⟩
        · have hrd := HA.out.below hO hbr
          have hx := HNA.out
          go_wp2_with (refine wpList_append_rdN rfl _ _ rfl w.heap.size _ [] rfl hown hrd (by rw [HNA.out]; rfl) (by simp) (by rw [HNA.out]; omega) hsr ?_; intro v2 w2 hown2 hg2)
          go_roundw
          case rel => exact ⟨⟨1, rfl, .inr (.inl ⟨rfl, hown2⟩)⟩, hbr.grown hg2 hsr (fun k e => (hown.lt k e).1)⟩
          case measure => simp [intOf]
        · have hrd := HB.out.below hO hbr
          go_wp2_with (refine wpList_append_rdN rfl _ _ rfl w.heap.size _ a rfl hown hrd (by rw [HNB.out]; rfl) (by rw [HNA.out]; omega) (by rw [HNB.out]; omega) hsr ?_; intro v2 w2 hown2 hg2)
          go_roundw
          case rel => exact ⟨⟨2, rfl, .inr (.inr ⟨rfl, hown2⟩)⟩, hbr.grown hg2 hsr (fun k e => (hown.lt k e).1)⟩
          case measure => simp [intOf]
        · go_wp2
          go_ret
          exact ⟨⟨_, rfl, hown⟩, hbr⟩
end Go.Proofs.Ytalmghbkdelaoaa
namespace Go.Proofs.Ytalmghbkdelaoaa
open Go.RowKit Go.Maps Go.Shelf
section
attribute [local go_sem] Oper.semAt_some

/-- All cells and all maps lie as they lay. -/
structure Lay (W W' : World) : Prop where
  size : W.heap.size ≤ W'.heap.size
  same : ∀ (k : Nat) (o : Obj), W.heap[k]? = some o → (o.isCells = true ∨ o.isWalk = true) → W'.heap[k]? = some o
theorem Lay.refl (W : World) : Lay W W := ⟨Nat.le_refl _, fun _ _ h _ => h⟩
theorem Lay.trans {A B C : World} (h : Lay A B) (k : Lay B C) : Lay A C := ⟨Nat.le_trans h.size k.size, fun i o hi ho => k.same i o (h.same i o hi ho) ho⟩
theorem Lay.putObj (W : World) (l : Nat) (o o' : Obj) (h : W.heap[l]? = some o) (hc : o.isCells = false) (hw : o.isWalk = false) : Lay W (W.putObj l o') := by
  have hg := grownBy_putObj' W l o'
  refine ⟨hg.size, fun k x hk hx => ?_⟩
  by_cases e : k = l
  · subst e
    rw [hk] at h
    cases h
    rcases hx with hx | hx
    · rw [hc] at hx; cases hx
    · rw [hw] at hx; cases hx
  · exact (hg.block k (Array.getElem?_eq_some_iff.1 hk).1 (fun h => e (Option.some.inj h))).trans hk
theorem Lay.of_below {W W' : World} (h : Below W.heap.size W W') : Lay W W' := ⟨h.size, fun k _ hk _ => (h.block k (Array.getElem?_eq_some_iff.1 hk).1).trans hk⟩
theorem Lay.map {W W' : World} {M : Nat} {l : Nms} (h : MapN W M l) (k : Lay W W') : MapN W' M l := by
  obtain ⟨o, ho, hw, _⟩ := h.walk
  exact h.same ((k.same M o ho (.inr hw)).trans ho.symm)
theorem Lay.rdN {W W' : World} {O : Nat → Prop} {p : Option Addr} {c : Nat} {l : Nms} (h : RdN O W p c l) (k : Lay W W') : RdN O W' p c l := by
  refine ⟨h.1, fun hn => ?_⟩
  obtain ⟨b, o, hp, hb, hc⟩ := h.2 hn
  have key : ∀ j v, W.cell? ⟨b, j, none⟩ = some v → W'.cell? ⟨b, j, none⟩ = some v := fun j v hv => by
    cases e : W.heap[b]? with
    | none => simp [World.cell?, e] at hv
    | some ob =>
      cases ob with
      | cells cs t fr => rw [← hv]; exact World.cell?_of_block ((k.same b _ e (.inl rfl)).trans e.symm)
      | _ => simp [World.cell?, e] at hv
  exact ⟨b, o, hp, hb, fun j x hj => ⟨key _ _ (hc j x hj).1, key _ _ (hc j x hj).2⟩⟩
theorem own_rdN {w : World} {B : Nat} {v : Value} {l : Nms} (h : w.ownsRow B 36 2 v l.length (flatN l)) : ∃ p c, v = .slice p l.length c ∧ RdN (fun k => B ≤ k ∧ k < w.heap.size) w p c l := by
  rcases h.2 with ⟨rfl, hn⟩ | ⟨g, cap, cur, rfl, hb, hg, hnc, _, hcs, ht⟩
  · obtain rfl : l = [] := List.eq_nil_of_length_eq_zero hn
    exact ⟨none, 0, rfl, RdN.nil _ _ _ _ fun _ => rfl⟩
  · refine ⟨some ⟨g, 0, none⟩, cap, rfl, rdN_of (cur := cur.toList) ⟨hb, objP_lt hg⟩ (by simpa using hg) hnc fun j hj => ?_⟩
    rw [← ht, List.getElem?_take, Nat.zero_add]
    rw [if_pos (by rw [flatN_len] at hj; exact hj)]
theorem fieldsHeld : Try.prog.underlying 58 = some (.struct (Try.prog.fieldsOf 58)) := by kernel_rfl
theorem stoodHeld : Try.prog.stoodInHeld 58 = false := by kernel_rfl
theorem fieldsH : (Try.prog.fieldsOf 58).toList = [{ name := "has", type := 4, offset := 0, embedded := false, tag := "", pkgPath := "agora/power", byteOffset := 0 }, { name := "level", type := 2, offset := 1, embedded := false, tag := "", pkgPath := "agora/power", byteOffset := 8 }] := by kernel_rfl
theorem held_neq (w : World) (x y : Option Int) : (binOp .neq 58 (.agg #[.bool x.isSome, .int .i64 (x.getD 0)]) (.agg #[.bool y.isSome, .int .i64 (y.getD 0)])).run Try.prog w = .ok (.bool (!(x == y))) w := by
  have h4 : Try.prog.underlying 4 = some .bool := by kernel_rfl
  have h2 : Try.prog.underlying 2 = some (.int .i64) := by kernel_rfl
  rw [run_neq_struct, run_equalIn_agg w 9999 58 _ _ fieldsHeld stoodHeld, fieldsH]
  have p0 : ∀ W (b : Bool) (m : Int), (part 4 #[.bool b, .int .i64 m] 0).run Try.prog W = .ok (.bool b) W := fun W b m => by simp [go_sem, part]
  have p1 : ∀ W (b : Bool) (m : Int), (part 2 #[.bool b, .int .i64 m] 1).run Try.prog W = .ok (.int .i64 m) W := fun W b m => by simp [go_sem, part]
  have e0 : ∀ (W : World) (a b : Bool), (Op.equalIn 9999 4 (.bool a) (.bool b)).run Try.prog W = .ok (a == b) W := fun W a b => run_equalIn_bool' W 9998 4 a b h4
  have e1 : ∀ (W : World) (a b : Int), (Op.equalIn 9999 2 (.int .i64 a) (.int .i64 b)).run Try.prog W = .ok (a == b) W := fun W a b => run_equalIn_int W 9998 2 .i64 .i64 a b h2
  cases x with
  | none =>
    cases y with
    | none => simp [Op.eqFields, p0, p1, e0, e1, Result.andThen]
    | some y => simp [Op.eqFields, p0, e0, Result.andThen]
  | some x =>
    cases y with
    | none => simp [Op.eqFields, p0, e0, Result.andThen]
    | some y => by_cases h : x = y <;> simp [Op.eqFields, p0, p1, e0, e1, Result.andThen, h]
theorem heldV_eq (x : Option Int) : heldV x = .agg #[.bool x.isSome, .int .i64 (x.getD 0)] := by cases x <;> rfl
theorem below_grownP {w w' : World} (h : Below w.heap.size w w') : w.grownBy w' none := ⟨h.os, h.tape, h.output, h.size, fun k hk _ => h.block k hk⟩
theorem chs_pre {α : Type} (f : α → Chg) : ∀ (l : List α) (k : Nat), ((l.take k).map f).filter Chg.turns <+: (l.map f).filter Chg.turns
  | l, k => by
    conv => rhs; rw [← List.take_append_drop k l, List.map_append, List.filter_append]
    exact List.prefix_append _ _
theorem changes_fn {w : World} (p q : Option Addr) (n c m d : Nat) :
    Calls Try.prog 25 #[.slice p n c, .slice q m d] w fun e w' => e = .returned (.func (.func 36) #[] #[.pointer (some ⟨w.heap.size, 0, none⟩), .pointer (some ⟨w.heap.size + 1, 0, none⟩)]) ∧ w' = (w.alloc (.cells #[.slice p n c] 22)).alloc (.cells #[.slice q m d] 22) := by
  go_enter Try.func25, Try.ntmps25
  go_wp2
  go_ret
  exact ⟨rfl, rfl⟩
theorem changes_in (n l B1 B2 : Nat) (hn : 1 ≤ n) {O : Nat → Prop} {a b : Nms} {p q : Option Addr} {c d : Nat} (J Jx : List Chg → World → Prop) (W : World) (hJ : AbidesFrom W.heap.size J)
    (ha : RdN O W p c a) (hb : RdN O W q d b) (hO : ∀ k, O k → k < W.heap.size) (hza : SzN a) (hzb : SzN b)
    (h1 : W.cell? ⟨B1, 0, none⟩ = some (.slice p a.length c)) (h2 : W.cell? ⟨B2, 0, none⟩ = some (.slice q b.length d)) (hB1 : B1 < W.heap.size) (hB2 : B2 < W.heap.size)
    (hY : ∀ pre x W1, J pre W1 → pre.length < (a ++ b).length → YieldAt Fence.wide (n - 1) Try.prog l #[valC x] W1 fun e W' => (e = .returned (.bool true) ∧ J (pre ++ [x]) W' ∧ Lay W1 W') ∨ (e = .returned (.bool false) ∧ Jx (pre ++ [x]) W'))
    (h0 : J [] W) :
    CallsIn Fence.wide n Try.prog 36 #[.func (.yield l) #[] #[], .pointer (some ⟨B1, 0, none⟩), .pointer (some ⟨B2, 0, none⟩)] W fun e W' => (∃ v, e = .returned v) ∧ ((∃ xs, xs = chs a b (a ++ b) ∧ J xs W') ∨ (∃ pre, pre <+: chs a b (a ++ b) ∧ Jx pre W')) := by
  refine callsIn_wide.2 ?_
  have HB1 : Hid (∀ X, Below W.heap.size W X → Calls Try.prog 37 #[.slice p a.length c] X fun e w' => (∃ M, e = .returned (.map (some M)) ∧ X.heap.size ≤ M ∧ MapN w' M a) ∧ Below X.heap.size X w') := fun X hX => byName_any (ha.below hO hX) (fun k hk => Nat.lt_of_lt_of_le (hO k hk) hX.size) hza
  have HB2 : Hid (∀ X, Below W.heap.size W X → Calls Try.prog 37 #[.slice q b.length d] X fun e w' => (∃ M, e = .returned (.map (some M)) ∧ X.heap.size ≤ M ∧ MapN w' M b) ∧ Below X.heap.size X w') := fun X hX => byName_any (hb.below hO hX) (fun k hk => Nat.lt_of_lt_of_le (hO k hk) hX.size) hzb
  have HCC : Hid (∀ X, Below W.heap.size W X → X.cell? ⟨B1, 0, none⟩ = some (.slice p a.length c) ∧ X.cell? ⟨B2, 0, none⟩ = some (.slice q b.length d)) := fun X hX => ⟨(hX.cell (p := ⟨B1, 0, none⟩) hB1).trans h1, (hX.cell (p := ⟨B2, 0, none⟩) hB2).trans h2⟩
  have HCo : Hid (∀ X g, Below W.heap.size W X → X.heap[g]? = some (.cells #[.slice p a.length c, .slice q b.length d] 22 (0, 0)) → Calls Try.prog 38 #[.slice (some ⟨g, 0, none⟩) 2 2] X fun e w' => (∃ v, e = .returned v ∧ w'.ownsRow X.heap.size 36 2 v (a ++ b).length (flatN (a ++ b))) ∧ Below X.heap.size X w') := fun X g hX hg =>
    concat_any (ha.below hO hX) (hb.below hO hX) (fun k hk => Nat.lt_of_lt_of_le (hO k hk) hX.size) hza hzb (cellP hg 0 _ rfl) (cellP hg 1 _ rfl) (objP_lt hg)
  obtain ⟨na, hna⟩ : ∃ n, a.length = n := ⟨_, rfl⟩
  obtain ⟨nb, hnb⟩ : ∃ n, b.length = n := ⟨_, rfl⟩
  rw [hna] at HB1 HCC HCo
  rw [hnb] at HB2 HCC HCo
  have HNA : Hid (a.length = na) := hna
  have HNB : Hid (b.length = nb) := hnb
  have HAB : Hid (SzN a ∧ SzN b) := ⟨hza, hzb⟩
  have HJ0 : Hid (J [] W) := h0
  have HJ : Hid (AbidesFrom W.heap.size J) := hJ
  have HY : Hid (∀ pre x W1, J pre W1 → pre.length < (a ++ b).length → YieldAt Fence.wide (n - 1) Try.prog l #[valC x] W1 fun e W' => (e = .returned (.bool true) ∧ J (pre ++ [x]) W' ∧ Lay W1 W') ∨ (e = .returned (.bool false) ∧ Jx (pre ++ [x]) W')) := hY
  clear hna hnb ha hb hza hzb h1 h2 h0 hJ hY
  obtain ⟨ab, hab⟩ : ∃ ab, a ++ b = ab := ⟨_, rfl⟩
  have HZ : Hid (SzN a ∧ SzN b) := HAB
  have HL : Hid (ab.length = na + nb ∧ na ≤ 80000 ∧ nb ≤ 80000) := ⟨by rw [← hab, List.length_append, HNA.out, HNB.out], by have := HZ.out.1.1; have := HNA.out; omega, by have := HZ.out.2.1; have := HNB.out; omega⟩
  have HOK : Hid (∀ k, k < ab.length → okP (ab.getD k zN).1) := fun k hk => by
    apply okP_of
    rw [List.getD_eq_getElem?_getD, List.getElem?_eq_getElem hk]
    have : ab[k] ∈ a ++ b := by rw [hab]; exact List.getElem_mem hk
    rcases List.mem_append.1 this with h | h
    · exact HZ.out.1.2 _ h
    · exact HZ.out.2.2 _ h
  rw [hab] at HCo HY ⊢
  clear hab
  go_enter Try.func36, Try.ntmps36
  go_upto_region 0 with fail
  refine wp_region_in (by kernel_rfl) (fun w' => Below W.heap.size W w') ?_
  change wpIn _ _ _ _ _ _ _ _ (World.drew _)
  have hD : Below W.heap.size W W.drew := (Below.refl _ _).drew
  refine wpIn_take (i := 0) (d := (some 9)) (v := ?vqc0) (a' := ?aqc0) rfl rfl (by kernel_rfl) (by kernel_rfl) (by kernel_rfl) (fun _ _ _ h => h) (Or.inl ⟨by rfl, ?yqc0⟩) ?fqc0 ?_
  case yqc0 => (intro wq hq; obtain ⟨z1, z2⟩ := HCC.out wq hq; go_simp; first | done | with_reducible rfl)
  case fqc0 => (go_frame; rfl)
  refine wpIn_take (i := 2) (d := (some 11)) (v := ?vqc2) (a' := ?aqc2) rfl rfl (by kernel_rfl) (by kernel_rfl) (by kernel_rfl) (fun _ _ _ h => h) (Or.inl ⟨by rfl, ?yqc2⟩) ?fqc2 ?_
  case yqc2 => (intro wq hq; obtain ⟨z1, z2⟩ := HCC.out wq hq; go_simp; first | done | with_reducible rfl)
  case fqc2 => (go_frame; rfl)
  refine wpIn_do (i := 1) hD (by kernel_rfl) rfl (by rfl) ?_
  intro K hK
  go_simp
  go_wp2_with (go_at_call 37; refine (HB1.out _ hD).mono ?_; rintro e w1 ⟨⟨M, rfl, hM0, hM⟩, hb1⟩)
  have hD1 : Below W.heap.size W w1 := belowP hD hb1
  refine wpIn_do (i := 3) hD1 (by kernel_rfl) rfl (by rfl) ?_
  intro K hK
  go_simp
  go_wp2_with (go_at_call 37; refine (HB2.out _ hD1).mono ?_; rintro e w2 ⟨⟨N, rfl, hN0, hN⟩, hb2⟩)
  have hD2 : Below W.heap.size W w2 := belowP hD1 hb2
  refine wpIn_take (i := 4) (d := (some 4)) (v := ?vqc4) (a' := ?aqc4) rfl rfl (by kernel_rfl) (by kernel_rfl) (by kernel_rfl) (fun _ _ _ h => h) (Or.inl ⟨by rfl, ?yqc4⟩) ?fqc4 ?_
  case yqc4 => (intro wq hq; go_simp; first | done | with_reducible rfl)
  case fqc4 => (go_frame; rfl)
  refine wpIn_take (i := 5) (d := (some 5)) (v := ?vqc5) (a' := ?aqc5) rfl rfl (by kernel_rfl) (by kernel_rfl) (by kernel_rfl) (fun _ _ _ h => h) (Or.inl ⟨by rfl, ?yqc5⟩) ?fqc5 ?_
  case yqc5 => (intro wq hq; go_simp; first | done | with_reducible rfl)
  case fqc5 => (go_frame; rfl)
  refine wpIn_done hD2 (by kernel_rfl) ?_ _
  obtain ⟨z1, z2⟩ := HCC.out w2 hD2
  have hbA : Below W.heap.size W (w2.alloc (.cells #[.slice p na c, .slice q nb d] 22)) := belowP hD2 ((Below.refl _ _).alloc (Nat.le_refl _) _)
  have hCo := HCo.out _ w2.heap.size hbA (newP _)
  have HM : Hid (MapN w2 M a) := hM.same (hb2.block M hM.lt)
  have HN : Hid (MapN w2 N b) := hN
  clear hb1 hb2 hM hN HB1 HB2 HCC HCo
  obtain ⟨n', hn'⟩ : ∃ m, ab.length = m := ⟨_, rfl⟩
  have HN' : Hid (ab.length = n') := hn'
  have hnb : n' ≤ 160000 := by have := HL.out; omega
  rw [hn'] at hCo
  clear hn'
  go_wp2_with (go_at_call 38; refine hCo.mono ?_; rintro e w3 ⟨⟨v, rfl, hown⟩, hb3⟩; rw [← HN'.out] at hown; obtain ⟨pr, cr, rfl, hrd⟩ := own_rdN hown; rw [HN'.out])
  have hD3 : Below W.heap.size W w3 := belowP hbA hb3
  have HM3 : Hid (MapN w3 M a) := (HM.out.same (Below.heap_alloc _ _ _ HM.out.lt)).same (hb3.block M (by have := HM.out.lt; simp; omega))
  have HN3 : Hid (MapN w3 N b) := (HN.out.same (Below.heap_alloc _ _ _ HN.out.lt)).same (hb3.block N (by have := HN.out.lt; simp; omega))
  have HR3 : Hid (RdN (fun k => (w2.alloc (.cells #[.slice p na c, .slice q nb d] 22)).heap.size ≤ k ∧ k < w3.heap.size) w3 pr cr ab) := hrd
  have hc3 := hrd.1.1
  rw [HN'.out] at hc3
  clear hrd hown z1 z2 hCo hD hD1 hD2 HM HN
  go_loopw [18] (fun i wr => ∃ k : Nat, i = .int .i64 k ∧ k ≤ n' ∧ J (chs a b (ab.take k)) wr ∧ Lay w3 wr) (fun i _ => n' - (intOf i).toNat)
  case atStart => exact ⟨0, rfl, Nat.zero_le _, HJ.out [] W w3 none HJ0.out (below_grownP hD3) (fun r e => by cases e), Lay.refl _⟩
  case round =>
    obtain ⟨k, rfl, hk, hj, hly⟩ := hrel
    by_cases hkn : k < n'
    · have hkl : k < ab.length := by rw [HN'.out]; exact hkn
      obtain ⟨rb, ro, rfl, _, g1, g2⟩ := (Lay.rdN HR3.out hly).at hkl
      have hok := HOK.out k hkl
      have HT : Hid (ab.take (k + 1) = ab.take k ++ [ab.getD k zN]) := take_one hkl
      generalize ab.getD k zN = x at g1 g2 HT hok
      obtain ⟨xn, xl⟩ := x
      simp only at g1 g2 hok
      have hlk1 := ((Lay.map HM3.out hly).same (w' := wr.alloc (.cells #[.string xn, .int .i64 xl] 36)) (Below.heap_alloc _ _ _ (Lay.map HM3.out hly).lt)).look hok
      have hlk2 := ((Lay.map HN3.out hly).same (w' := wr.alloc (.cells #[.string xn, .int .i64 xl] 36)) (Below.heap_alloc _ _ _ (Lay.map HN3.out hly).lt)).look hok
      rw [heldV_eq] at hlk1 hlk2
      have HCH : Hid (chs a b (ab.take (k + 1)) = if (Chg.turns ⟨xn, fnd a xn, fnd b xn⟩) = true then chs a b (ab.take k) ++ [⟨xn, fnd a xn, fnd b xn⟩] else chs a b (ab.take k)) := by show _ = _; rw [HT.out, chs_snoc]; rfl
      have HPR : Hid (chs a b (ab.take (k + 1)) <+: chs a b ab) := chs_pre _ _ _
      have HLN : Hid ((chs a b (ab.take k)).length < ab.length) := by
        show _ < _
        have := chs_len a b (ab.take k)
        rw [List.length_take] at this
        omega
      generalize fnd a xn = oa at hlk1 HCH
      generalize fnd b xn = ob at hlk2 HCH
      have hneq := held_neq
      have hbW : Below wr.heap.size wr ((wr.alloc (.cells #[.string xn, .int .i64 xl] 36)).alloc (.cells #[.string xn, .bool oa.isSome, .int .i64 (oa.getD 0), .bool ob.isSome, .int .i64 (ob.getD 0)] 60)) := ((Below.refl _ _).alloc (Nat.le_refl _) _).alloc (by simp) _
      have hj5 := HJ.out _ _ _ none hj (below_grownP hbW) (fun r e => by cases e)
      cases ht : (!(oa == ob)) with
      | true =>
        have HC1 : Hid (chs a b (ab.take (k + 1)) = chs a b (ab.take k) ++ [⟨xn, oa, ob⟩]) := by show _ = _; rw [HCH.out, if_pos (show Chg.turns ⟨xn, oa, ob⟩ = true from ht)]
        obtain ⟨fn, tm, asg, bod, hy, hR⟩ := HY.out _ ⟨xn, oa, ob⟩ _ hj5 HLN.out
        simp only [valC, cellsC] at hy
        refine (wpIn_wide (n := n)).1 ?_
        gi_wp2
        refine hR.mono ?_
        rintro e W6 (⟨rfl, hJ6, hk6⟩ | ⟨rfl, hJx6⟩)
        · gi_wp2
          go_roundw
          case rel => exact ⟨k + 1, by simp, by omega, by rw [HC1.out]; exact hJ6, (hly.trans (Lay.of_below hbW)).trans hk6⟩
          case measure => simp [intOf]; omega
        · gi_wp2
          refine bodyPost_ret (results_none rfl _ _ _) rfl ?_
          exact ⟨⟨_, rfl⟩, .inr ⟨_, HPR.out, by rw [HC1.out]; exact hJx6⟩⟩
      | false =>
        have HC1 : Hid (chs a b (ab.take (k + 1)) = chs a b (ab.take k)) := by show _ = _; rw [HCH.out, if_neg (by unfold Chg.turns; rw [ht]; decide)]
        go_wp2
        go_roundw
        case rel => exact ⟨k + 1, by simp, by omega, by rw [HC1.out]; exact hj5, hly.trans (Lay.of_below hbW)⟩
        case measure => simp [intOf]; omega
    · obtain rfl : k = n' := by omega
      have HJE : Hid (J (chs a b ab) wr) := by show J _ _; rw [← List.take_length (l := ab), HN'.out]; exact hj
      clear hj
      go_wp2
      go_end0
      exact ⟨⟨_, rfl⟩, .inl ⟨_, rfl, HJE.out⟩⟩
theorem changes_seq (n B1 B2 : Nat) (hn : 1 ≤ n) {O : Nat → Prop} {a b : Nms} {p q : Option Addr} {c d : Nat} {w : World}
    (ha : RdN O w p c a) (hb : RdN O w q d b) (hO : ∀ k, O k → k < w.heap.size) (hza : SzN a) (hzb : SzN b)
    (h1 : w.cell? ⟨B1, 0, none⟩ = some (.slice p a.length c)) (h2 : w.cell? ⟨B2, 0, none⟩ = some (.slice q b.length d)) (hB1 : B1 < w.heap.size) (hB2 : B2 < w.heap.size) :
    SeqStopsK Fence.wide n Try.prog 36 #[.pointer (some ⟨B1, 0, none⟩), .pointer (some ⟨B2, 0, none⟩)] (fun x : Chg => #[valC x]) Lay (fun ys => ys = chs a b (a ++ b)) (fun pre => pre <+: chs a b (a ++ b)) (a ++ b).length w := fun l J Jx W hW hJ _ hY h0 =>
  changes_in n l B1 B2 hn J Jx W hJ (ha.below hO hW) (hb.below hO hW) (fun k hk => Nat.lt_of_lt_of_le (hO k hk) hW.size) hza hzb ((hW.cell (p := ⟨B1, 0, none⟩) hB1).trans h1) ((hW.cell (p := ⟨B2, 0, none⟩) hB2).trans h2) (Nat.lt_of_lt_of_le hB1 hW.size) (Nat.lt_of_lt_of_le hB2 hW.size) hY h0
end
end Go.Proofs.Ytalmghbkdelaoaa
namespace Go.Proofs.Ytalmghbkdelaoaa.Id
/-- The bytes of a text, as numbers. -/
def ints (s : ByteArray) : List Int := s.data.toList.map fun c => (c.toNat : Int)
theorem ints_length (s : ByteArray) : (ints s).length = s.size := by simp [ints]
theorem ints_getD (s : ByteArray) (k : Nat) (h : k < s.size) : (ints s).getD k 0 = (s[k].toNat : Int) := by
  have h' : k < s.data.toList.length := by simpa using h
  simp only [ints, List.getD_eq_getElem?_getD, List.getElem?_map, List.getElem?_eq_getElem h', Option.map_some, Option.getD_some]
  rfl
theorem ints_bd (s : ByteArray) : ∀ x ∈ ints s, 0 ≤ x ∧ x ≤ 255 := by
  intro x hx
  simp only [ints, List.mem_map] at hx
  obtain ⟨c, _, rfl⟩ := hx
  have := c.toNat_lt
  omega

theorem ints_extract (s : ByteArray) (k : Nat) : ints (s.extract k s.size) = (ints s).drop k := by
  simp only [ints, ByteArray.data_extract, Array.toList_extract, List.extract_eq_take_drop, List.map_take, List.map_drop]
  rw [List.take_of_length_le]
  have : (List.drop k (List.map (fun c : UInt8 => (c.toNat : Int)) s.data.toList)).length = s.size - k := by simp
  omega

end Go.Proofs.Ytalmghbkdelaoaa.Id
namespace Go.Proofs.Ytalmghbkdelaoaa.Id
open Go.RowKit
theorem ret_bool {a b : Bool} (h : a = b) : Ending.returned (.bool a) = .returned (.bool b) := by rw [h]

theorem liteIndexByte_any (s : ByteArray) (c : Int) (w : World) :
    Calls Try.prog 65 #[.string s, .int .u8 c] w fun e w' => e = .returned (.int .i64 (Lib.indexByte s.data.toList c.toNat.toUInt8)) ∧ w = w' := by
  go_enter Try.func65, Try.ntmps65
  go_wp2
  rw [run_callFunc_extern Try.func73 (by kernel_rfl) (by kernel_rfl) (by kernel_rfl) (e := Extern.BytealgIndexByte.indexByte) (by kernel_rfl), Lib.run_indexByteString]
  simp only [Result.andThen]
  rw [Oper.upon_value]
  go_wp2
  go_ret
  exact ⟨rfl, rfl⟩

theorem indexByte_any (s : ByteArray) (c : Int) (w : World) :
    Calls Try.prog 53 #[.string s, .int .u8 c] w fun e w' => e = .returned (.int .i64 (Lib.indexByte s.data.toList c.toNat.toUInt8)) ∧ w = w' := by
  go_enter Try.func53, Try.ntmps53
  go_wp2_with (go_at_call 65; refine (liteIndexByte_any _ _ _).mono ?_; rintro e w' ⟨rfl, rfl⟩)
  go_ret
  exact ⟨rfl, rfl⟩

/-- A small letter, a digit, or one of the others. -/
def kind (o : List UInt8) (c : Int) : Bool := (decide (97 ≤ c) && decide (c ≤ 122)) || (decide (48 ≤ c) && decide (c ≤ 57)) || decide (0 ≤ Lib.indexByte o c.toNat.toUInt8)

theorem letter_clo (o : ByteArray) (c : Int) (B : Nat) (w : World) (hc : w.cell? ⟨B, 0, none⟩ = some (.string o)) (h0 : 0 ≤ c) (h1 : c ≤ 255) :
    Calls Try.prog 52 #[.int .u8 c, .pointer (some ⟨B, 0, none⟩)] w fun e w' => e = .returned (.bool (kind o.data.toList c)) ∧ w = w' := by
  go_enter Try.func52, Try.ntmps52
  go_wp2_with (go_at_call 53; refine (indexByte_any _ _ _).mono ?_; rintro e w' ⟨rfl, rfl⟩)
  all_goals
    go_ret
    refine ⟨ret_bool ?_, rfl⟩
    unfold kind
    rw [Bool.eq_iff_iff]
    simp
    omega

/-- A text of one to m letters, each of which is of the kind k. -/
def okText (k : Int → Bool) (m : Int) (s : ByteArray) : Bool := decide (1 ≤ s.size) && decide ((s.size : Int) ≤ m) && (ints s).all k

theorem okText_long (k : Int → Bool) (m : Int) (s : ByteArray) (h : m < s.size) : okText k m s = false := by
  unfold okText; simp; omega
theorem okText_none (k : Int → Bool) (m : Int) (s : ByteArray) (h : s.size = 0) : okText k m s = false := by
  unfold okText; simp [h]
theorem okText_all (k : Int → Bool) (m : Int) (s : ByteArray) (h : 1 ≤ s.size) (h' : (s.size : Int) ≤ m) (ha : ∀ j, j < s.size → k ((ints s).getD j 0) = true) : okText k m s = true := by
  unfold okText
  simp only [h, h', decide_true, Bool.true_and, List.all_eq_true]
  intro x hx
  obtain ⟨i, hi, rfl⟩ := List.mem_iff_getElem.1 hx
  have := ha i (by rw [← ints_length]; exact hi)
  rw [List.getD_eq_getElem?_getD, List.getElem?_eq_getElem hi] at this
  exact this
theorem okText_bad (k : Int → Bool) (m : Int) (s : ByteArray) (j : Nat) (hj : j < s.size) (ha : k ((ints s).getD j 0) = false) : okText k m s = false := by
  unfold okText
  have hj' : j < (ints s).length := by rw [ints_length]; exact hj
  have : (ints s).all k = false := by
    rw [List.all_eq_false]
    refine ⟨(ints s)[j], List.getElem_mem hj', ?_⟩
    rw [List.getD_eq_getElem?_getD, List.getElem?_eq_getElem hj'] at ha
    simpa using ha
  rw [this]; simp

theorem fits_any (s o : ByteArray) (m : Int) (B : Nat) (w : World) (hs : s.size ≤ 140737488351232) (hc : w.cell? ⟨B, 0, none⟩ = some (.string o)) :
    Calls Try.prog 45 #[.string s, .int .i64 m, .func (.func 52) #[] #[.pointer (some ⟨B, 0, none⟩)]] w fun e w' => e = .returned (.bool (okText (kind o.data.toList) m s)) ∧ w = w' := by
  by_cases he : s.size = 0
  · have he' : (s.size : Int) = 0 := by omega
    go_enter Try.func45, Try.ntmps45
    go_wp2
    go_ret
    exact ⟨ret_bool (okText_none _ _ _ he).symm, rfl⟩
  by_cases hm : m < (s.size : Int)
  · go_enter Try.func45, Try.ntmps45
    go_wp2
    go_ret
    exact ⟨ret_bool (okText_long _ _ _ hm).symm, rfl⟩
  go_enter Try.func45, Try.ntmps45
  go_wp2
  go_loop [19] (fun i => ∃ k : Nat, k ≤ s.size ∧ i = .int .i64 k ∧ ∀ j, j < k → kind o.data.toList ((ints s).getD j 0) = true) (fun i => s.size - (intOf i).toNat)
  case atStart => exact ⟨0, Nat.zero_le _, rfl, fun j hj => by omega⟩
  case round =>
    obtain ⟨k, hk, rfl, hall⟩ := hrel
    have HA : Hid (∀ j, j < k → kind o.data.toList ((ints s).getD j 0) = true) := hall
    clear hall
    by_cases hlt : k < s.size
    · have HG : Hid ((ints s).getD k 0 = (s[k].toNat : Int)) := ints_getD s k hlt
      have hb1 : (s[k].toNat : Int) ≤ 255 := by have := s[k].toNat_lt; omega
      by_cases hb : kind o.data.toList (s[k].toNat : Int) = true
      · go_wp2_with (go_at_call 52; refine (letter_clo o _ B _ hc (by omega) (by omega)).mono ?_; rintro e w' ⟨rfl, rfl⟩)
        go_round
        case rel => exact ⟨k + 1, by omega, by go_num, fun j hj => by
                              by_cases e : j = k
                              · rw [e, HG.out]; exact hb
                              · exact HA.out j (by omega)⟩
        case measure => simp [intOf]; omega
      · have hb' : kind o.data.toList (s[k].toNat : Int) = false := by simpa using hb
        clear hb
        go_wp2_with (go_at_call 52; refine (letter_clo o _ B _ hc (by omega) (by omega)).mono ?_; rintro e w' ⟨rfl, rfl⟩)
        go_ret
        exact ⟨ret_bool (okText_bad _ _ _ k hlt (by rw [HG.out]; exact hb')).symm, rfl⟩
    · obtain rfl : k = s.size := by omega
      go_wp2
      go_ret
      exact ⟨ret_bool (okText_all _ _ _ (by omega) (by omega) HA.out).symm, rfl⟩
/-- A small letter, a digit or a dot. -/
def small (c : Int) : Bool := (decide (97 ≤ c) && decide (c ≤ 122)) || (decide (48 ≤ c) && decide (c ≤ 57)) || decide (c = 46)
def kSrv (c : Int) : Bool := small c || decide (c = 45)
def kLoc (c : Int) : Bool := small c || decide (c = 45) || decide (c = 95)
def kTyp (c : Int) : Bool := small c || decide (c = 95)
def srv (s : ByteArray) : Bool := okText kSrv 32 s
def loc (s : ByteArray) : Bool := okText kLoc 32 s
def typ (s : ByteArray) : Bool := okText kTyp 64 s

theorem kind_srv : ∀ n : Fin 256, kind [46, 45] (n.val : Int) = kSrv n.val := by decide +kernel
theorem kind_loc : ∀ n : Fin 256, kind [46, 95, 45] (n.val : Int) = kLoc n.val := by decide +kernel
theorem kind_typ : ∀ n : Fin 256, kind [46, 95] (n.val : Int) = kTyp n.val := by decide +kernel
theorem okText_congr {k k' : Int → Bool} (h : ∀ n : Fin 256, k (n.val : Int) = k' n.val) (m : Int) (s : ByteArray) : okText k m s = okText k' m s := by
  unfold okText
  congr 1
  rw [Bool.eq_iff_iff, List.all_eq_true, List.all_eq_true]
  constructor <;> intro ha x hx
  · have hb := ints_bd s x hx
    have := h ⟨x.toNat, by omega⟩
    have e : ((x.toNat : Nat) : Int) = x := by omega
    rw [e] at this
    rw [← this]; exact ha x hx
  · have hb := ints_bd s x hx
    have := h ⟨x.toNat, by omega⟩
    have e : ((x.toNat : Nat) : Int) = x := by omega
    rw [e] at this
    rw [this]; exact ha x hx

theorem cell_new (w : World) (v : Value) (t : Nat) : (w.alloc (.cells #[v] t)).cell? ⟨w.heap.size, 0, none⟩ = some v :=
  World.cell?_alloc_at _ _ _ _ rfl

theorem letterOr_any (o : ByteArray) (w : World) :
    Calls Try.prog 46 #[.string o] w fun e w' => e = .returned (.func (.func 52) #[] #[.pointer (some ⟨w.heap.size, 0, none⟩)]) ∧ w' = w.alloc (.cells #[.string o] 9) := by
  go_enter Try.func46, Try.ntmps46
  go_wp2
  go_ret
  exact ⟨rfl, rfl⟩

theorem server_any (s : ByteArray) (w : World) (hs : s.size ≤ 140737488351232) :
    Calls Try.prog 64 #[.string s] w fun e w' => e = .returned (.bool (srv s)) ∧ Below w.heap.size w w' := by
  have hc := cell_new w (.string ⟨#[46, 45]⟩) 9
  go_enter Try.func64, Try.ntmps64
  go_wp2_with (first
    | (go_at_call 46; refine (letterOr_any _ _).mono ?_; rintro e w' ⟨rfl, rfl⟩)
    | (go_at_call 45; refine (fits_any s _ 32 _ _ hs hc).mono ?_; rintro e w' ⟨rfl, rfl⟩))
  go_ret
  exact ⟨ret_bool (okText_congr kind_srv 32 s), (Below.refl _ _).alloc (Nat.le_refl _) _⟩

theorem local_any (s : ByteArray) (w : World) (hs : s.size ≤ 140737488351232) :
    Calls Try.prog 63 #[.string s] w fun e w' => e = .returned (.bool (loc s)) ∧ Below w.heap.size w w' := by
  have hc := cell_new w (.string ⟨#[46, 95, 45]⟩) 9
  go_enter Try.func63, Try.ntmps63
  go_wp2_with (first
    | (go_at_call 46; refine (letterOr_any _ _).mono ?_; rintro e w' ⟨rfl, rfl⟩)
    | (go_at_call 45; refine (fits_any s _ 32 _ _ hs hc).mono ?_; rintro e w' ⟨rfl, rfl⟩))
  go_ret
  exact ⟨ret_bool (okText_congr kind_loc 32 s), (Below.refl _ _).alloc (Nat.le_refl _) _⟩

theorem type_any (s : ByteArray) (w : World) (hs : s.size ≤ 140737488351232) :
    Calls Try.prog 33 #[.string s] w fun e w' => e = .returned (.bool (typ s)) ∧ Below w.heap.size w w' := by
  have hc := cell_new w (.string ⟨#[46, 95]⟩) 9
  go_enter Try.func33, Try.ntmps33
  go_wp2_with (first
    | (go_at_call 46; refine (letterOr_any _ _).mono ?_; rintro e w' ⟨rfl, rfl⟩)
    | (go_at_call 45; refine (fits_any s _ 64 _ _ hs hc).mono ?_; rintro e w' ⟨rfl, rfl⟩))
  go_ret
  exact ⟨ret_bool (okText_congr kind_typ 64 s), (Below.refl _ _).alloc (Nat.le_refl _) _⟩

end Go.Proofs.Ytalmghbkdelaoaa.Id

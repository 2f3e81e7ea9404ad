/-
  Levels and numbers of a content: by contracts.
  User, Type, Start, the seven numbers as a row, and what is above a level: by contracts.
  A map of names to levels.
  A row of names as a map: by a contract.
  Two rows of names joined: by contracts.
  The changes from a row of names to the next, gone through by a function: by a contract.
  The rows of a content: by contracts.
  Parse, by a contract.
  What stands under a key of a value, and of the value in order: the same, in order. Levels as the document reads them.
  The document's Get of a value, by a contract.
  Levels that are parsed are not too many.
  Which events the rules allow: as plain functions.
  Events that are nowhere too long.
  States and what is heard, as they lie in memory.
-/
import Derived.Test.YtimhpglfolbomabGreatRL09
import Derived.RangeFuncNested
import Derived.Lib.AppendZeros
import Derived.RangeFuncBound
import Derived.RangeFuncCalls
import Derived.RangeFuncLeaves
import Derived.Shelf.Abstract
import Derived.Shelf.RegionOpen
import Derived.OwnWalkIn
import Derived.TacticsInMore
import Derived.LoopNIn
import Derived.LoopIn
import Derived.Laws.StructEq
import Derived.Deep.CutRange
import Derived.Deep.CutBlock
set_option maxRecDepth 100000
set_option maxHeartbeats 16000000
namespace Go.Proofs.YtimhpglfolbomabGreat
open Go.RowKit
def lvOk (k i : Int) : Bool := decide (k = 2) && (decide (-1073741824 ≤ i) && decide (i ≤ 1073741824))
abbrev RdrIs (w : World) (Rb : Nat) (a0 a1 a2 a3 a4 : Value) (bad : Bool) : Prop := w.heap[Rb]? = some (.cells #[a0, a1, a2, a3, a4, .bool bad] 114 (0, 0))
theorem RdrIs.set {w : World} {Rb : Nat} {a0 a1 a2 a3 a4 : Value} {bad : Bool} (h : RdrIs w Rb a0 a1 a2 a3 a4 bad) (b : Bool) : RdrIs (w.setCell ⟨Rb, 5, none⟩ (.bool b)) Rb a0 a1 a2 a3 a4 b := by
 show (w.setCell ⟨Rb, 5, none⟩ (.bool b)).heap[Rb]? = _
 rw [heap_setCell_same w Rb 5 _ _ _ h]
 rfl
theorem level_any {w : World} {Rb : Nat} {a0 a1 a2 a3 a4 : Value} {bad : Bool} (hR : RdrIs w Rb a0 a1 a2 a3 a4 bad) (k i : Int) (t : ByteArray) (p q : Option Addr) (n c m d : Nat) :
    Calls Tryz.prog 108 #[.pointer (some ⟨Rb, 0, none⟩), .agg #[.int .i64 k, .int .i64 i, .string t, .slice p n c, .slice q m d]] w fun e w' => e = .returned (.int .i64 i) ∧ RdrIs w' Rb a0 a1 a2 a3 a4 (bad || !lvOk k i) ∧ Keep (OneP Rb) w w' := by
 obtain ⟨wA, hwA⟩ : ∃ wA, wA = w.alloc (.cells #[.int .i64 k, .int .i64 i, .string t, .slice p n c, .slice q m d] 38) := ⟨_, rfl⟩
 have hbA : Below w.heap.size w wA := by rw [hwA]; exact (Below.refl _ _).alloc (Nat.le_refl _) _
 have hA : wA.heap[w.heap.size]? = some (.cells #[.int .i64 k, .int .i64 i, .string t, .slice p n c, .slice q m d] 38 (0, 0)) := by rw [hwA]; exact newP _
 have hlt := objP_lt hR
 have hRA : RdrIs wA Rb a0 a1 a2 a3 a4 bad := (hbA.block Rb hlt).trans hR
 have i0 := cellP hA 0 _ rfl; have i1 := cellP hA 1 _ rfl
 have r5 := cellP hRA 5 _ rfl
 have rz := fzP hRA 5
 have HBE : Hid (Keep (OneP Rb) w wA) := Keep.of_below hbA
 have HRA : Hid (RdrIs wA Rb a0 a1 a2 a3 a4 bad) := hRA
 have i0' : (wA.setCell ⟨Rb, 5, none⟩ (.bool true)).cell? ⟨w.heap.size, 0, none⟩ = some (.int .i64 k) := by
  rw [World.cell?_of_block (Below.heap_setCell wA ⟨Rb, 5, none⟩ _ w.heap.size (by simp; omega))]; exact i0
 have i1' : (wA.setCell ⟨Rb, 5, none⟩ (.bool true)).cell? ⟨w.heap.size, 1, none⟩ = some (.int .i64 i) := by
  rw [World.cell?_of_block (Below.heap_setCell wA ⟨Rb, 5, none⟩ _ w.heap.size (by simp; omega))]; exact i1
 clear hA hRA hR
 by_cases hk : k = 2
 · by_cases h1 : -1073741824 ≤ i
   · by_cases h2 : i ≤ 1073741824
     · have HL : Hid (lvOk k i = true) := by show _ = _; simp [lvOk, hk, h1, h2]
       subst hk
       go_enter Tryz.func108, Tryz.ntmps108
       go_upto_region 1 with fail
       rw [← hwA]
       clear hwA
       go_wp2
       go_ret
       rw [HL.out]
       exact ⟨rfl, by simpa using HRA.out, HBE.out⟩
     · have HL : Hid (lvOk k i = false) := by show _ = _; simp [lvOk, hk, h1, h2]
       subst hk
       go_enter Tryz.func108, Tryz.ntmps108
       go_upto_region 1 with fail
       rw [← hwA]
       clear hwA
       go_wp2
       go_ret
       rw [HL.out]
       exact ⟨rfl, by simpa using HRA.out.set true, HBE.out.setCell (p := ⟨Rb, 5, none⟩) (fun _ => (rfl : Rb = Rb)) _⟩
   · have HL : Hid (lvOk k i = false) := by show _ = _; simp [lvOk, hk, h1]
     subst hk
     go_enter Tryz.func108, Tryz.ntmps108
     go_upto_region 1 with fail
     rw [← hwA]
     clear hwA
     go_wp2
     go_ret
     rw [HL.out]
     exact ⟨rfl, by simpa using HRA.out.set true, HBE.out.setCell (p := ⟨Rb, 5, none⟩) (fun _ => (rfl : Rb = Rb)) _⟩
 · have HL : Hid (lvOk k i = false) := by show _ = _; simp [lvOk, hk]
   go_enter Tryz.func108, Tryz.ntmps108
   go_upto_region 1 with fail
   rw [← hwA]
   clear hwA
   go_wp2
   go_ret
   rw [HL.out]
   exact ⟨rfl, by simpa using HRA.out.set true, HBE.out.setCell (p := ⟨Rb, 5, none⟩) (fun _ => (rfl : Rb = Rb)) _⟩
def numT (d : Int) : Option J → Int × Bool
 | none => (d, false)
 | some v => (v.nm, !lvOk v.kd v.nm)
theorem numberP_any {O : Nat → Prop} {w : World} {Rb d : Nat} {j : J} {k i : Int} {t : ByteArray} {pk pl : Option Addr} {nk ck nl cl : Nat} {bad : Bool} (hR : RdrIs w Rb (.int .i64 k) (.int .i64 i) (.string t) (.slice pk nk ck) (.slice pl nl cl) bad)
    (hj : isJ O w j [.int .i64 k, .int .i64 i, .string t, .slice pk nk ck, .slice pl nl cl]) (hO : ∀ x, O x → x < w.heap.size) (hok : OkJ (d + 1) j) (s : ByteArray) (z : Int) :
    Calls Tryz.prog 78 #[.pointer (some ⟨Rb, 0, none⟩), .string s, .int .i64 z] w fun e w' => e = .returned (.int .i64 (numT z (lookV j.ks j.ls s)).1) ∧ RdrIs w' Rb (.int .i64 k) (.int .i64 i) (.string t) (.slice pk nk ck) (.slice pl nl cl) (bad || (numT z (lookV j.ks j.ls s)).2) ∧ Keep (OneP Rb) w w' := by
 have hU := under_any hR hj hO hok s
 have HR : Hid (∀ X, Below w.heap.size w X → RdrIs X Rb (.int .i64 k) (.int .i64 i) (.string t) (.slice pk nk ck) (.slice pl nl cl) bad) := fun X hX => (hX.block Rb (objP_lt hR)).trans hR
 have HLT : Hid (Rb < w.heap.size) := objP_lt hR
 clear hR hj hok hO
 generalize lookV j.ks j.ls s = o at hU
 cases o with
 | none =>
  go_enter Tryz.func78, Tryz.ntmps78
  go_wp2_with (go_at_call 107; refine hU.mono ?_; rintro e w1 ⟨he, hb1⟩; replace he : e = _ := he; subst he)
  go_ret
  refine ⟨rfl, ?_, ?_⟩
  · simp only [numT, Bool.or_false]
    exact HR.out _ (belowP hb1 ((Below.refl _ _).alloc (Nat.le_refl _) _))
  · exact Keep.of_below (belowP hb1 ((Below.refl _ _).alloc (Nat.le_refl _) _))
 | some v =>
  go_enter Tryz.func78, Tryz.ntmps78
  go_wp2_with (first
   | (go_at_call 107; refine hU.mono ?_; rintro e w1 ⟨⟨kv, iv, tv, pv, nv, cv, qv, mv, dv, rfl, hv⟩, hb1⟩
      have HV : Hid (v.kd = kv ∧ v.nm = iv) := by obtain ⟨_, _, _, _, _⟩ := v; obtain ⟨rfl, rfl, _⟩ := isJP_parts hv; exact ⟨rfl, rfl⟩
      have hbA : Below w.heap.size w (w1.alloc (.cells #[.int .i64 kv, .int .i64 iv, .string tv, .slice pv nv cv, .slice qv mv dv] 38)) := belowP hb1 ((Below.refl _ _).alloc (Nat.le_refl _) _)
      have hL := level_any (HR.out _ hbA) kv iv tv pv qv nv cv mv dv
      clear hv)
   | (go_at_call 108; refine hL.mono ?_; rintro e w2 ⟨rfl, hr2, hk2⟩))
  go_ret
  simp only [numT, HV.out.1, HV.out.2]
  exact ⟨rfl, hr2, (Keep.of_below hbA).then hk2⟩
theorem user_lv {O : Nat → Prop} {w : World} {l : Lv} {p : Pl} (h : IsL O w l p) (hO : ∀ k, O k → k < w.heap.size) (hz : SzL l) (s : ByteArray) :
    Calls Tryz.prog 58 #[valL l p, .string s] w fun e w' => e = .returned (.int .i64 (usr l s)) ∧ Below w.heap.size w w' := by
 have hb : Below w.heap.size w (w.alloc (.cells (cellsL l p).toArray 89)) := (Below.refl _ _).alloc (Nat.le_refl _) _
 have hf := first_any (h.us.below hO hb) (fun k hk => Nat.lt_of_lt_of_le (hO k hk) hb.size) hz.us s l.users
 have HB : Hid (Below w.heap.size w (w.alloc (.cells (cellsL l p).toArray 89))) := hb
 obtain ⟨ban, kick, invite, redact, state, events, users, us, ty⟩ := l
 obtain ⟨pu, cu, pt, ct⟩ := p
 simp only [valL, cellsL, usr] at hf hb ⊢
 clear h hz hb
 go_enter Tryz.func58, Tryz.ntmps58
 go_wp2_with (go_at_call 82; refine hf.mono ?_; rintro e w1 ⟨rfl, hb1⟩)
 go_ret
 exact ⟨rfl, belowP HB.out hb1⟩
abbrev startL (s : ByteArray) : Lv := ⟨50, 50, 0, 50, 0, 0, 0, [(s, 100)], []⟩
theorem start_lv {w : World} (s : ByteArray) :
    Calls Tryz.prog 59 #[.string s] w fun e w' => (∃ p, e = .returned (valL (startL s) p) ∧ IsL (fun b => w.heap.size ≤ b ∧ b < w'.heap.size) w' (startL s) p) ∧ Below w.heap.size w w' := by
 go_enter Tryz.func59, Tryz.ntmps59
 go_wp2
 obtain ⟨W, hW⟩ : ∃ W, W = ((w.alloc (.cells #[.int .i64 50, .int .i64 50, .int .i64 0, .int .i64 50, .int .i64 0, .int .i64 0, .int .i64 0, .slice (some ⟨w.heap.size + 1, 0, none⟩) 1 1, .slice none 0 0] 89)).alloc (.cells #[.string s, .int .i64 100] 119)) := ⟨_, rfl⟩
 have hB : Below w.heap.size w W := by rw [hW]; exact ((Below.refl _ _).alloc (Nat.le_refl _) _).alloc (by simp) _
 have h0 : W.heap[w.heap.size]? = some (.cells #[.int .i64 50, .int .i64 50, .int .i64 0, .int .i64 50, .int .i64 0, .int .i64 0, .int .i64 0, .slice (some ⟨w.heap.size + 1, 0, none⟩) 1 1, .slice none 0 0] 89 (0, 0)) := by
  rw [hW, Below.heap_alloc _ _ _ (by simp)]
  exact newP _
 have h1 : W.heap[w.heap.size + 1]? = some (.cells #[.string s, .int .i64 100] 119 (0, 0)) := by
  rw [hW]
  have := newP (w := (w.alloc (.cells #[.int .i64 50, .int .i64 50, .int .i64 0, .int .i64 50, .int .i64 0, .int .i64 0, .int .i64 0, .slice (some ⟨w.heap.size + 1, 0, none⟩) 1 1, .slice none 0 0] 89))) (.cells #[.string s, .int .i64 100] 119)
  rw [World.size_alloc] at this
  exact this
 rw [← hW]
 refine bodyPost_ret (resultsP_cell rfl _ _ _ rfl (loadL9 h0)) rfl ?_
 have hlt := objP_lt h1
 exact ⟨⟨⟨some ⟨w.heap.size + 1, 0, none⟩, 1, none, 0⟩, rfl, rdN_flat (l := [(s, 100)]) ⟨by simp, hlt⟩ h1, RdN.nil _ _ _ _ fun _ => rfl⟩, hB⟩
end Go.Proofs.YtimhpglfolbomabGreat
namespace Go.Proofs.YtimhpglfolbomabGreat
open Go.RowKit Go.Maps
theorem Tryz.infoNm : (Tryz.prog.info? 119).map (fun i => (i.zero, i.size, i.bytes)) = some (some (.agg #[.string ⟨#[]⟩, .int .i64 0]), 2, 24) := by kernel_rfl
theorem flatN_one : ∀ (l : Nms) (u : Value), u ∈ flatN l → u.oneCell' = true
 | [], _, h => by simp [flatN] at h
 | x :: r, u, h => by
  simp only [flatN, List.mem_cons] at h
  rcases h with rfl | rfl | h
  · rfl
  · rfl
  · exact flatN_one r u h
theorem RdN.cells {O : Nat → Prop} {w : World} {a : Addr} {c : Nat} {l : Nms} (h : RdN O w (some a) c l) : ∀ j u, (flatN l)[j]? = some u → w.cell? (a.add j) = some u := by
 intro j u hu
 by_cases hl : l = []
 · subst hl; simp [flatN] at hu
 obtain ⟨b, o, hp, _, hc⟩ := h.2 hl
 cases hp
 have hj : j < l.length * 2 := by rw [← flatN_len]; exact (List.getElem?_eq_some_iff.1 hu).1
 have hq : j / 2 < l.length := by omega
 have hx := List.getElem?_eq_getElem hq
 have hf := flatN_at l (j / 2) _ hx
 have hcc := hc (j / 2) _ hx
 rw [addP_flat]
 rcases Nat.mod_two_eq_zero_or_one j with e | e
 · rw [show j = j / 2 * 2 by omega] at hu
   rw [hf.1] at hu
   cases hu
   rw [show o + j = o + j / 2 * 2 by omega]
   exact hcc.1
 · rw [show j = j / 2 * 2 + 1 by omega] at hu
   rw [hf.2] at hu
   cases hu
   rw [show o + j = o + j / 2 * 2 + 1 by omega]
   exact hcc.2
theorem wpList_append_rdN {w : World} {ops : Array Oper} {rest : List Oper} {o : Oper} {a : Act} {Q : Exit → Act → World → Prop} (hgd : o.guard = none) (s x : Operand)
    (ho : o.op = .call { callee := .builtin .append, args := #[s, x], argTypes := #[87, 87] })
    (base : Nat) (v : Value) (L : Nms) (hs : a.eval s = v) (hown : w.ownsRow base 119 2 v L.length (flatN L)) {O : Nat → Prop} {p : Option Addr} {c : Nat} {l : Nms} (hrd : RdN O w p c l) (hx : a.eval x = .slice p l.length c)
    (hlen : L.length ≤ 100000000) (hlen2 : l.length ≤ 100000000) (hbase : base ≤ w.heap.size)
    (h : ∀ v' w', w'.ownsRow base 119 2 v' (L ++ l).length (flatN (L ++ l)) → w.grownBy w' v.ownBlock → wpList Tryz.prog ops Q rest (a.put o.dst v') w') : wpList Tryz.prog ops Q (o :: rest) a w := by
 obtain ⟨i0, hi, hz0, hz1, hz2⟩ := info_parts Tryz.infoNm
 cases p with
 | none =>
  obtain rfl : c = 0 := hrd.1.2 rfl
  have hl0 : l = [] := List.eq_nil_of_length_eq_zero (by have := hrd.1.1; omega)
  subst hl0
  refine wpList_append_own_none hgd s x 87 ho base 119 i0 2 Tryz.underlying87 hi v L.length (flatN L) hs hown hx (h v w ?_ ⟨rfl, rfl, rfl, Nat.le_refl _, fun _ _ _ => rfl⟩)
  rw [List.append_nil]; exact hown
 | some ad =>
  refine wpList_append_own w hgd s x 87 ho base 119 i0 _ 2 24 Tryz.underlying87 hi hz0 hz1 hz2 rfl (by decide) v L.length (flatN L) hs hown ad l.length c (flatN l) hx (flatN_len l) hrd.cells (flatN_one l) (by unfold maxLen; omega) (by omega) hbase ?_
  intro v' w' hown' hgrow _
  exact h v' w' (by rw [List.length_append, flatN_append]; exact hown') hgrow
end Go.Proofs.YtimhpglfolbomabGreat
namespace Go.Proofs.YtimhpglfolbomabGreat
open Go.RowKit Go.Maps Go.Shelf
section
attribute [local go_sem] Oper.semAt_some
theorem own_rdN {w : World} {B : Nat} {v : Value} {l : Nms} (h : w.ownsRow B 119 2 v l.length (flatN l)) : ∃ p c, v = .slice p l.length c ∧ RdN (fun k => B ≤ k ∧ k < w.heap.size) w p c l := by
 rcases h.2 with ⟨rfl, hn⟩ | ⟨g, cap, cur, rfl, hb, hg, hnc, _, hcs, ht⟩
 · obtain rfl : l = [] := List.eq_nil_of_length_eq_zero hn
   exact ⟨none, 0, rfl, RdN.nil _ _ _ _ fun _ => rfl⟩
 · refine ⟨some ⟨g, 0, none⟩, cap, rfl, rdN_of (cur := cur.toList) ⟨hb, objP_lt hg⟩ (by simpa using hg) hnc fun j hj => ?_⟩
   rw [← ht, List.getElem?_take, Nat.zero_add]
   rw [if_pos (by rw [flatN_len] at hj; exact hj)]
end
end Go.Proofs.YtimhpglfolbomabGreat
namespace Go.Proofs.YtimhpglfolbomabGreat
open Go.RowKit
def isU (s : ByteArray) : Bool := (Id.parts 64 s).2.2
def isT (s : ByteArray) : Bool := Id.typ s
theorem isUser_any {w : World} (s : ByteArray) (hs : s.size ≤ 1000000000) : Calls Tryz.prog 80 #[.string s] w fun e w' => e = .returned (.bool (isU s)) ∧ Below w.heap.size w w' := by
 have hU := Id.user_any s w (by omega)
 unfold isU
 generalize Id.parts 64 s = x at hU
 obtain ⟨x1, x2, x3⟩ := x
 simp only [Id.told] at hU
 go_enter Tryz.func80, Tryz.ntmps80
 go_wp2_with (go_at_call 109; refine hU.mono ?_; rintro e w1 ⟨rfl, hb1⟩)
 go_ret
 exact ⟨rfl, hb1⟩
theorem isType_any {w : World} (s : ByteArray) (hs : s.size ≤ 1000000000) : Calls Tryz.prog 81 #[.string s] w fun e w' => e = .returned (.bool (isT s)) ∧ Below w.heap.size w w' := Id.type_any s w (by omega)
def rowsOf (v : J) : Nms := (v.ks.zip v.ls).map fun q => (q.1, q.2.nm)
def badIn (fit : ByteArray → Bool) (q : ByteArray × J) : Bool := !fit q.1 || !lvOk q.2.kd q.2.nm
def rowT (fit : ByteArray → Bool) : Option J → Nms × Bool
 | none => ([], false)
 | some v => (rowsOf v, !decide (v.kd = 5) || (v.ks.zip v.ls).any (badIn fit))
theorem zip_at {ks : List ByteArray} {l : List J} {n : Nat} (h : n < ks.length) (hl : ks.length ≤ l.length) : (ks.zip l).take (n + 1) = (ks.zip l).take n ++ [(ks.getD n nix, l.getD n J.zero)] := by
 have hz : n < (ks.zip l).length := by rw [List.length_zip]; omega
 rw [takeP_one (z := (nix, J.zero)) hz]
 congr 2
 rw [List.getD_eq_getElem?_getD, List.getElem?_eq_getElem hz]
 simp only [List.getElem_zip, Option.getD_some]
 rw [List.getD_eq_getElem?_getD, List.getElem?_eq_getElem h, List.getD_eq_getElem?_getD, List.getElem?_eq_getElem (by omega : n < l.length)]
 rfl
theorem row_users {O : Nat → Prop} {w : World} {Rb d : Nat} {j : J} {k i : Int} {t : ByteArray} {pk pl : Option Addr} {nk ck nl cl : Nat} {bad : Bool} (hR : RdrIs w Rb (.int .i64 k) (.int .i64 i) (.string t) (.slice pk nk ck) (.slice pl nl cl) bad)
    (hj : isJ O w j [.int .i64 k, .int .i64 i, .string t, .slice pk nk ck, .slice pl nl cl]) (hO : ∀ x, O x → x < w.heap.size ∧ x ≠ Rb) (hok : OkJ (d + 2) j) (s : ByteArray) :
    Calls Tryz.prog 79 #[.pointer (some ⟨Rb, 0, none⟩), .string s, .func (.func 80) #[] #[]] w fun e w' => (∃ p c, e = .returned (.slice p (rowT isU (lookV j.ks j.ls s)).1.length c) ∧ RdN (fun b => w.heap.size ≤ b ∧ b < w'.heap.size) w' p c (rowT isU (lookV j.ks j.ls s)).1) ∧ RdrIs w' Rb (.int .i64 k) (.int .i64 i) (.string t) (.slice pk nk ck) (.slice pl nl cl) (bad || (rowT isU (lookV j.ks j.ls s)).2) ∧ Keep (OneP Rb) w w' := by
 have hU := under_any hR hj (fun x hx => (hO x hx).1) hok s
 have HR : Hid (∀ X, Below w.heap.size w X → RdrIs X Rb (.int .i64 k) (.int .i64 i) (.string t) (.slice pk nk ck) (.slice pl nl cl) bad) := fun X hX => (hX.block Rb (objP_lt hR)).trans hR
 have hlt := objP_lt hR
 have HOK : Hid (∀ v, lookV j.ks j.ls s = some v → OkJ (d + 1) v) := fun v hv => by
  obtain ⟨_, _, _, _, _⟩ := j
  exact hok.parts.2.2.2.2.2 v (lookJ_mem hv)
 clear hR hj hok
 generalize lookV j.ks j.ls s = o at hU HOK
 cases o with
 | none =>
  go_enter Tryz.func79, Tryz.ntmps79
  go_wp2_with (go_at_call 107; refine hU.mono ?_; rintro e w1 ⟨he, hb1⟩; replace he : e = _ := he; subst he)
  go_ret
  have hbE := belowP hb1 ((Below.refl _ _).alloc (Nat.le_refl _) (.cells #[.int .i64 0, .int .i64 0, .string ⟨#[]⟩, .slice none 0 0, .slice none 0 0] 38))
  refine ⟨⟨none, 0, rfl, RdN.nil _ _ _ _ fun _ => rfl⟩, ?_, Keep.of_below hbE⟩
  simp only [rowT, Bool.or_false]
  exact HR.out _ hbE
 | some v =>
  have hokv := HOK.out v rfl
  obtain ⟨kv, iv, tv, ks, ls⟩ := v
  have hkn := hokv.parts.2.2.2.1
  have HKS : Hid (∀ x ∈ ks, x.size ≤ 1000000000) := hokv.parts.2.2.2.2.1
  have HLE : Hid (ks.length ≤ ls.length) := hokv.lens
  have HNE : Hid (kv ≠ 5 → ks = []) := hokv.parts.2.2.1
  clear hokv HOK
  obtain ⟨nv, hnv⟩ : ∃ n, ks.length = n := ⟨_, rfl⟩
  obtain ⟨mv, hmv⟩ : ∃ n, ls.length = n := ⟨_, rfl⟩
  have HNV : Hid (ks.length = nv) := hnv
  have HMV : Hid (ls.length = mv) := hmv
  rw [hnv] at hkn
  clear hnv hmv
  go_enter Tryz.func79, Tryz.ntmps79
  go_upto_region 2 with (go_at_call 107; refine hU.mono ?_; rintro e w1 ⟨⟨kv', iv', tv', pv, nv', cv, qv, mv', dv, rfl, hv⟩, hb1⟩; obtain ⟨rfl, rfl, rfl, rfl, rfl, hvk, hvc, hvs⟩ := isJP_parts hv; rw [HNV.out, HMV.out]; rw [HMV.out] at hvc; clear hv)
  obtain ⟨W1, hW1⟩ : ∃ W1, W1 = w1.alloc (.cells #[.int .i64 kv', .int .i64 iv', .string tv', .slice pv nv cv, .slice qv mv dv] 38) := ⟨_, rfl⟩
  have hbW : Below w.heap.size w W1 := by rw [hW1]; exact belowP hb1 ((Below.refl _ _).alloc (Nat.le_refl _) _)
  have hs1 := hb1.size
  have hX : W1.heap[w1.heap.size]? = some (.cells #[.int .i64 kv', .int .i64 iv', .string tv', .slice pv nv cv, .slice qv mv dv] 38 (0, 0)) := by rw [hW1]; exact newP _
  have hsW : w1.heap.size < W1.heap.size := objP_lt hX
  have HRW : Hid (RdrIs W1 Rb (.int .i64 k) (.int .i64 i) (.string t) (.slice pk nk ck) (.slice pl nl cl) bad) := HR.out W1 hbW
  have HOB : Hid (∀ x, O x → x < W1.heap.size ∧ x ≠ Rb) := fun x hx => ⟨Nat.lt_of_lt_of_le (hO x hx).1 hbW.size, (hO x hx).2⟩
  have HVK : Hid (RdK O W1 pv cv ks) := hvk.carry fun x hx => ⟨hx, (by rw [hW1]; exact Below.heap_alloc _ _ _ (Nat.lt_of_lt_of_le (hO x hx).1 hb1.size))⟩
  have HVS : Hid (isJs O W1 qv 0 ls) := isJs.carry (fun x hx => ⟨hx, (by rw [hW1]; exact Below.heap_alloc _ _ _ (Nat.lt_of_lt_of_le (hO x hx).1 hb1.size))⟩) qv 0 ls hvs
  have hck := hvk.1
  rw [HNV.out] at hck
  have b0 := cellP hX 0 _ rfl; have b3 := cellP hX 3 _ rfl
  have r5 := cellP HRW.out 5 _ rfl
  have rz := fzP HRW.out 5
  rw [← hW1]
  clear hvk hvs hU hW1 hb1
  by_cases hk5 : kv' = 5
  · subst hk5
    go_wp2
    have HBX : Hid (W1.heap[w1.heap.size]? = some (.cells #[.int .i64 5, .int .i64 iv', .string tv', .slice pv nv cv, .slice qv mv dv] 38 (0, 0))) := hX
    clear r5 rz b0 b3 hX
    go_loopw [9, 29] (fun v x wx => ∃ n : Nat, x = .int .i64 n ∧ n ≤ nv ∧ wx.ownsRow W1.heap.size 119 2 v (((ks.zip ls).take n).map fun q => (q.1, q.2.nm)).length (flatN (((ks.zip ls).take n).map fun q => (q.1, q.2.nm))) ∧ RdrIs wx Rb (.int .i64 k) (.int .i64 i) (.string t) (.slice pk nk ck) (.slice pl nl cl) (bad || ((ks.zip ls).take n).any (badIn isU)) ∧ Keep (OneP Rb) W1 wx) (fun _ x _ => nv - (intOf x).toNat)
    case atStart => exact ⟨0, rfl, Nat.zero_le _, World.ownsRow_nil _ _ _ _, by simpa using HRW.out, Keep.refl _ _⟩
    case round =>
     obtain ⟨n, rfl, hn, hown, hrd, hkp⟩ := hrel
     have HF : Hid (∀ X, Keep (OneP Rb) W1 X → X.cell? ⟨w1.heap.size, 4, none⟩ = some (.slice qv mv dv)) := fun X hX => (World.cell?_of_block (a := ⟨w1.heap.size, 4, none⟩) (hX.block w1.heap.size hsW (by unfold OneP; omega))).trans (cellP HBX.out 4 _ rfl)
     by_cases hnv : n < nv
     · have hnk : n < ks.length := by rw [HNV.out]; exact hnv
       have hnm : n < mv := by have := HLE.out; rw [HNV.out, HMV.out] at this; omega
       have HT : Hid ((ks.zip ls).take (n + 1) = (ks.zip ls).take n ++ [(ks.getD n nix, ls.getD n J.zero)]) := zip_at hnk HLE.out
       obtain ⟨ad, rfl, hOa, hck1⟩ := HVK.out.2 n hnk
       have hkey : wr.cell? (ad.add n) = some (.string (ks.getD n nix)) := (World.cell?_of_block (by rw [add_block]; exact hkp.block _ (HOB.out _ hOa).1 (by unfold OneP; exact (HOB.out _ hOa).2))).trans hck1
       have hksz : (ks.getD n nix).size ≤ 1000000000 := by rw [List.getD_eq_getElem?_getD, List.getElem?_eq_getElem hnk]; exact HKS.out _ (List.getElem_mem hnk)
       obtain ⟨lb, lo, cs, hpl, hOb, hcells, hyj⟩ := isJs.at ls 0 n HVS.out (by rw [HMV.out]; exact hnm)
       subst hpl
       obtain ⟨ke, ie, te, pe, ne, ce, qe, me, de, rfl⟩ := isJ_shape hyj
       have HE : Hid ((ls.getD n J.zero).kd = ke ∧ (ls.getD n J.zero).nm = ie) := by
        generalize ls.getD n J.zero = y at hyj
        obtain ⟨_, _, _, _, _⟩ := y
        obtain ⟨rfl, rfl, _⟩ := isJP_parts hyj
        exact ⟨rfl, rfl⟩
       have HC : Hid (∀ X, Keep (OneP Rb) W1 X → X.cell? ⟨lb, lo + n * 5, none⟩ = some (.int .i64 ke) ∧ X.cell? ⟨lb, lo + n * 5 + 1, none⟩ = some (.int .i64 ie) ∧ X.cell? ⟨lb, lo + n * 5 + 2, none⟩ = some (.string te) ∧ X.cell? ⟨lb, lo + n * 5 + 3, none⟩ = some (.slice pe ne ce) ∧ X.cell? ⟨lb, lo + n * 5 + 4, none⟩ = some (.slice qe me de)) := fun X hX => by
        have cc : ∀ m v, [Value.int .i64 ke, .int .i64 ie, .string te, .slice pe ne ce, .slice qe me de][m]? = some v → X.cell? ⟨lb, lo + n * 5 + m, none⟩ = some v := fun m v h => by
         have := hcells m v h
         rw [Nat.zero_add] at this
         exact (World.cell?_of_block (a := ⟨lb, lo + n * 5 + m, none⟩) (hX.block lb (HOB.out lb hOb).1 (by unfold OneP; exact (HOB.out lb hOb).2))).trans this
        exact ⟨cc 0 _ rfl, cc 1 _ rfl, cc 2 _ rfl, cc 3 _ rfl, cc 4 _ rfl⟩
       have HB : Hid (∀ b, b = (bad || ((ks.zip ls).take n).any (badIn isU)) → (b || (!isU (ks.getD n nix) || !lvOk ke ie)) = (bad || ((ks.zip ls).take (n + 1)).any (badIn isU))) := fun b hb => by
        rw [hb, HT.out, List.any_append, Bool.or_assoc]
        simp only [List.any_cons, List.any_nil, Bool.or_false, badIn, HE.out.1, HE.out.2]
       have HL : Hid ((((ks.zip ls).take (n + 1)).map fun q => (q.1, q.2.nm)) = (((ks.zip ls).take n).map fun q => (q.1, q.2.nm)) ++ [(ks.getD n nix, ie)]) := by
        show _ = _
        rw [HT.out, List.map_append]
        simp only [List.map_cons, List.map_nil, HE.out.2]
       have HLN : Hid ((((ks.zip ls).take n).map fun q => (q.1, q.2.nm)).length ≤ 100000) := by
        show _ ≤ _
        simp only [List.length_map, List.length_take]
        omega
       have hlb := (HOB.out lb hOb).1
       generalize (((ks.zip ls).take n).map fun q => (q.1, q.2.nm)) = L at hown HL HLN
       obtain ⟨bn, hbn⟩ : ∃ b, b = (bad || ((ks.zip ls).take n).any (badIn isU)) := ⟨_, rfl⟩
       rw [← hbn] at hrd
       have HB2 := (show Hid _ from HB.out bn hbn)
       clear hbn HB hcells hyj hck1
       generalize ks.getD n nix = K at hkey hksz HB2 HL
       have hFt := isUser_any (w := wr) K hksz
       have hRl := (hown.lt)
       have HOwn : Hid (wr.ownsRow W1.heap.size 119 2 _ L.length (flatN L)) := hown
       have HRd : Hid (RdrIs wr Rb (.int .i64 k) (.int .i64 i) (.string t) (.slice pk nk ck) (.slice pl nl cl) bn) := hrd
       have HKp : Hid (Keep (OneP Rb) W1 wr) := hkp
       have hsx := hkp.size
       have hRbx : Rb < wr.heap.size := by omega
       clear hown hrd hkp hRl
       cases hft : isU K with
       | true =>
        rw [hft] at hFt HB2
        go_wp2_with (first
         | (go_at_call 80; refine hFt.mono ?_; rintro e w2 ⟨rfl, hb2⟩
            have hk2 : Keep (OneP Rb) wr w2 := Keep.of_below hb2
            have x4 := HF.out w2 (HKp.out.then hk2)
            obtain ⟨e0, e1, e2, e3, e4⟩ := HC.out w2 (HKp.out.then hk2)
            have hLv := level_any ((hb2.block Rb hRbx).trans HRd.out) ke ie te pe qe ne ce me de
            have HK2 : Hid (Keep (OneP Rb) wr w2) := hk2
            clear hk2 hb2)
         | (go_at_call 108; refine hLv.mono ?_; rintro e w4 ⟨rfl, hr4, hk4⟩
            have hkx : Keep (OneP Rb) wr w4 := HK2.out.then hk4
            have hownA := (own_keep HOwn.out hkx (fun q hq => by have := (HOwn.out.lt q hq).1; unfold OneP; omega)).alloc (.cells #[.string K, .int .i64 ie] 119)
            have hrdA : RdN (fun _ => True) (w4.alloc (.cells #[.string K, .int .i64 ie] 119)) (some ⟨w4.heap.size, 0, none⟩) 1 [(K, ie)] := rdN_flat (l := [(K, ie)]) trivial (newP _)
            have hsz4 : W1.heap.size ≤ (w4.alloc (.cells #[.string K, .int .i64 ie] 119)).heap.size := by have := hkx.size; simp; omega
            have HR4 := (show Hid _ from hr4)
            have HKX : Hid (Keep (OneP Rb) wr w4) := hkx
            clear hr4 hk4 hkx e0 e1 e2 e3 e4 x4 hLv)
         | (refine wpList_append_rdN rfl _ _ rfl W1.heap.size _ L rfl hownA hrdA rfl (by have := HLN.out; omega) (by simp) hsz4 ?_; intro v5 w5 hown5 hg5))
        go_roundw
        case rel =>
         have hkA : Keep (OneP Rb) W1 (w4.alloc (.cells #[.string K, .int .i64 ie] 119)) := (HKp.out.then HKX.out).alloc _
         have hlt4 := objP_lt HR4.out
         refine ⟨n + 1, by simp, by omega, by rw [HL.out]; exact hown5, ?_, hkA.grown hg5 (fun q hq => (hownA.lt q hq).1)⟩
         rw [← HB2.out]
         refine (hg5.block Rb (by simp; omega) (fun e => by have := (hownA.lt Rb e.symm).1; omega)).trans ?_
         rw [Below.heap_alloc _ _ _ hlt4]
         simpa using HR4.out
        case measure => simp [intOf]; omega
       | false =>
        rw [hft] at hFt HB2
        go_wp2_with (first
         | (go_at_call 80; refine hFt.mono ?_; rintro e w2 ⟨rfl, hb2⟩
            have hR2 : RdrIs w2 Rb _ _ _ _ _ bn := (hb2.block Rb hRbx).trans HRd.out
            have r5 := cellP hR2 5 _ rfl
            have rz := fzP hR2 5
            have hk3 : Keep (OneP Rb) wr (w2.setCell ⟨Rb, 5, none⟩ (.bool true)) := Keep.setCell (S := OneP Rb) (p := ⟨Rb, 5, none⟩) (Keep.of_below hb2) (fun _ => (rfl : Rb = Rb)) _
            have x4 := HF.out _ (HKp.out.then hk3)
            obtain ⟨e0, e1, e2, e3, e4⟩ := HC.out _ (HKp.out.then hk3)
            have hLv := level_any (hR2.set true) ke ie te pe qe ne ce me de
            have HK2 : Hid (Keep (OneP Rb) wr (w2.setCell ⟨Rb, 5, none⟩ (.bool true))) := hk3
            clear hk3 hb2 hR2)
         | (go_at_call 108; refine hLv.mono ?_; rintro e w4 ⟨rfl, hr4, hk4⟩
            have hkx : Keep (OneP Rb) wr w4 := HK2.out.then hk4
            have hownA := (own_keep HOwn.out hkx (fun q hq => by have := (HOwn.out.lt q hq).1; unfold OneP; omega)).alloc (.cells #[.string K, .int .i64 ie] 119)
            have hrdA : RdN (fun _ => True) (w4.alloc (.cells #[.string K, .int .i64 ie] 119)) (some ⟨w4.heap.size, 0, none⟩) 1 [(K, ie)] := rdN_flat (l := [(K, ie)]) trivial (newP _)
            have hsz4 : W1.heap.size ≤ (w4.alloc (.cells #[.string K, .int .i64 ie] 119)).heap.size := by have := hkx.size; simp; omega
            have HR4 := (show Hid _ from hr4)
            have HKX : Hid (Keep (OneP Rb) wr w4) := hkx
            clear hr4 hk4 hkx e0 e1 e2 e3 e4 x4 hLv r5 rz)
         | (refine wpList_append_rdN rfl _ _ rfl W1.heap.size _ L rfl hownA hrdA rfl (by have := HLN.out; omega) (by simp) hsz4 ?_; intro v5 w5 hown5 hg5))
        go_roundw
        case rel =>
         have hkA : Keep (OneP Rb) W1 (w4.alloc (.cells #[.string K, .int .i64 ie] 119)) := (HKp.out.then HKX.out).alloc _
         have hlt4 := objP_lt HR4.out
         refine ⟨n + 1, by simp, by omega, by rw [HL.out]; exact hown5, ?_, hkA.grown hg5 (fun q hq => (hownA.lt q hq).1)⟩
         rw [← HB2.out]
         refine (hg5.block Rb (by simp; omega) (fun e => by have := (hownA.lt Rb e.symm).1; omega)).trans ?_
         rw [Below.heap_alloc _ _ _ hlt4]
         simpa using HR4.out
        case measure => simp [intOf]; omega
     · obtain rfl : n = nv := by omega
       have htk : (ks.zip ls).take n = ks.zip ls := List.take_of_length_le (by rw [List.length_zip, HNV.out]; omega)
       rw [htk] at hown hrd
       have HOwn := (show Hid _ from hown)
       have HRd := (show Hid _ from hrd)
       clear hown hrd htk
       go_wp2
       go_ret
       obtain ⟨p', c', hv', hrd'⟩ := own_rdN HOwn.out
       refine ⟨⟨p', c', by first | (rw [hv']; rfl) | (simp only [] ; rw [← hv']; rfl), hrd'.carry fun q hq => ⟨⟨by have := hbW.size; omega, hq.2⟩, rfl⟩⟩, ?_, (Keep.of_below hbW).then hkp⟩
       simpa [rowT, J.kd, J.ks, J.ls] using HRd.out
  · have hks := HNE.out hk5
    have hnv0 : nv = 0 := by rw [← HNV.out, hks]; rfl
    subst hnv0
    have HRS : Hid (RdrIs (W1.setCell ⟨Rb, 5, none⟩ (.bool true)) Rb (.int .i64 k) (.int .i64 i) (.string t) (.slice pk nk ck) (.slice pl nl cl) true) := HRW.out.set true
    have HKS2 : Hid (Keep (OneP Rb) w (W1.setCell ⟨Rb, 5, none⟩ (.bool true))) := Keep.setCell (S := OneP Rb) (p := ⟨Rb, 5, none⟩) (Keep.of_below hbW) (fun _ => (rfl : Rb = Rb)) _
    have HBX : Hid (W1.heap[w1.heap.size]? = some (.cells #[.int .i64 kv', .int .i64 iv', .string tv', .slice pv 0 cv, .slice qv mv dv] 38 (0, 0))) := hX
    have b3' : (W1.setCell ⟨Rb, 5, none⟩ (.bool true)).cell? ⟨w1.heap.size, 3, none⟩ = some (.slice pv 0 cv) := by
     rw [World.cell?_of_block (Below.heap_setCell W1 ⟨Rb, 5, none⟩ _ w1.heap.size (by simp; omega))]; exact b3
    have HRO : Hid (rowT isU (some (.mk kv' iv' tv' ks ls)) = ([], true)) := by
     show _ = _
     simp [rowT, rowsOf, J.kd, J.ks, J.ls, hks, hk5]
    clear hX hks
    go_wp2
    go_loopw [9, 29] (fun v x wx => v = .slice none 0 0 ∧ x = .int .i64 0 ∧ Hid (wx = W1.setCell ⟨Rb, 5, none⟩ (.bool true))) (fun _ _ _ => 0)
    case atStart => exact ⟨rfl, rfl, rfl⟩
    case round =>
     obtain ⟨rfl, rfl, hwr⟩ := hrel
     go_wp2
     go_ret
     rw [HRO.out, hwr.out]
     exact ⟨⟨none, 0, rfl, RdN.nil _ _ _ _ fun _ => rfl⟩, by simpa using HRS.out, HKS2.out⟩
theorem row_types {O : Nat → Prop} {w : World} {Rb d : Nat} {j : J} {k i : Int} {t : ByteArray} {pk pl : Option Addr} {nk ck nl cl : Nat} {bad : Bool} (hR : RdrIs w Rb (.int .i64 k) (.int .i64 i) (.string t) (.slice pk nk ck) (.slice pl nl cl) bad)
    (hj : isJ O w j [.int .i64 k, .int .i64 i, .string t, .slice pk nk ck, .slice pl nl cl]) (hO : ∀ x, O x → x < w.heap.size ∧ x ≠ Rb) (hok : OkJ (d + 2) j) (s : ByteArray) :
    Calls Tryz.prog 79 #[.pointer (some ⟨Rb, 0, none⟩), .string s, .func (.func 81) #[] #[]] w fun e w' => (∃ p c, e = .returned (.slice p (rowT isT (lookV j.ks j.ls s)).1.length c) ∧ RdN (fun b => w.heap.size ≤ b ∧ b < w'.heap.size) w' p c (rowT isT (lookV j.ks j.ls s)).1) ∧ RdrIs w' Rb (.int .i64 k) (.int .i64 i) (.string t) (.slice pk nk ck) (.slice pl nl cl) (bad || (rowT isT (lookV j.ks j.ls s)).2) ∧ Keep (OneP Rb) w w' := by
 have hU := under_any hR hj (fun x hx => (hO x hx).1) hok s
 have HR : Hid (∀ X, Below w.heap.size w X → RdrIs X Rb (.int .i64 k) (.int .i64 i) (.string t) (.slice pk nk ck) (.slice pl nl cl) bad) := fun X hX => (hX.block Rb (objP_lt hR)).trans hR
 have hlt := objP_lt hR
 have HOK : Hid (∀ v, lookV j.ks j.ls s = some v → OkJ (d + 1) v) := fun v hv => by
  obtain ⟨_, _, _, _, _⟩ := j
  exact hok.parts.2.2.2.2.2 v (lookJ_mem hv)
 clear hR hj hok
 generalize lookV j.ks j.ls s = o at hU HOK
 cases o with
 | none =>
  go_enter Tryz.func79, Tryz.ntmps79
  go_wp2_with (go_at_call 107; refine hU.mono ?_; rintro e w1 ⟨he, hb1⟩; replace he : e = _ := he; subst he)
  go_ret
  have hbE := belowP hb1 ((Below.refl _ _).alloc (Nat.le_refl _) (.cells #[.int .i64 0, .int .i64 0, .string ⟨#[]⟩, .slice none 0 0, .slice none 0 0] 38))
  refine ⟨⟨none, 0, rfl, RdN.nil _ _ _ _ fun _ => rfl⟩, ?_, Keep.of_below hbE⟩
  simp only [rowT, Bool.or_false]
  exact HR.out _ hbE
 | some v =>
  have hokv := HOK.out v rfl
  obtain ⟨kv, iv, tv, ks, ls⟩ := v
  have hkn := hokv.parts.2.2.2.1
  have HKS : Hid (∀ x ∈ ks, x.size ≤ 1000000000) := hokv.parts.2.2.2.2.1
  have HLE : Hid (ks.length ≤ ls.length) := hokv.lens
  have HNE : Hid (kv ≠ 5 → ks = []) := hokv.parts.2.2.1
  clear hokv HOK
  obtain ⟨nv, hnv⟩ : ∃ n, ks.length = n := ⟨_, rfl⟩
  obtain ⟨mv, hmv⟩ : ∃ n, ls.length = n := ⟨_, rfl⟩
  have HNV : Hid (ks.length = nv) := hnv
  have HMV : Hid (ls.length = mv) := hmv
  rw [hnv] at hkn
  clear hnv hmv
  go_enter Tryz.func79, Tryz.ntmps79
  go_upto_region 2 with (go_at_call 107; refine hU.mono ?_; rintro e w1 ⟨⟨kv', iv', tv', pv, nv', cv, qv, mv', dv, rfl, hv⟩, hb1⟩; obtain ⟨rfl, rfl, rfl, rfl, rfl, hvk, hvc, hvs⟩ := isJP_parts hv; rw [HNV.out, HMV.out]; rw [HMV.out] at hvc; clear hv)
  obtain ⟨W1, hW1⟩ : ∃ W1, W1 = w1.alloc (.cells #[.int .i64 kv', .int .i64 iv', .string tv', .slice pv nv cv, .slice qv mv dv] 38) := ⟨_, rfl⟩
  have hbW : Below w.heap.size w W1 := by rw [hW1]; exact belowP hb1 ((Below.refl _ _).alloc (Nat.le_refl _) _)
  have hs1 := hb1.size
  have hX : W1.heap[w1.heap.size]? = some (.cells #[.int .i64 kv', .int .i64 iv', .string tv', .slice pv nv cv, .slice qv mv dv] 38 (0, 0)) := by rw [hW1]; exact newP _
  have hsW : w1.heap.size < W1.heap.size := objP_lt hX
  have HRW : Hid (RdrIs W1 Rb (.int .i64 k) (.int .i64 i) (.string t) (.slice pk nk ck) (.slice pl nl cl) bad) := HR.out W1 hbW
  have HOB : Hid (∀ x, O x → x < W1.heap.size ∧ x ≠ Rb) := fun x hx => ⟨Nat.lt_of_lt_of_le (hO x hx).1 hbW.size, (hO x hx).2⟩
  have HVK : Hid (RdK O W1 pv cv ks) := hvk.carry fun x hx => ⟨hx, (by rw [hW1]; exact Below.heap_alloc _ _ _ (Nat.lt_of_lt_of_le (hO x hx).1 hb1.size))⟩
  have HVS : Hid (isJs O W1 qv 0 ls) := isJs.carry (fun x hx => ⟨hx, (by rw [hW1]; exact Below.heap_alloc _ _ _ (Nat.lt_of_lt_of_le (hO x hx).1 hb1.size))⟩) qv 0 ls hvs
  have hck := hvk.1
  rw [HNV.out] at hck
  have b0 := cellP hX 0 _ rfl; have b3 := cellP hX 3 _ rfl
  have r5 := cellP HRW.out 5 _ rfl
  have rz := fzP HRW.out 5
  rw [← hW1]
  clear hvk hvs hU hW1 hb1
  by_cases hk5 : kv' = 5
  · subst hk5
    go_wp2
    have HBX : Hid (W1.heap[w1.heap.size]? = some (.cells #[.int .i64 5, .int .i64 iv', .string tv', .slice pv nv cv, .slice qv mv dv] 38 (0, 0))) := hX
    clear r5 rz b0 b3 hX
    go_loopw [9, 29] (fun v x wx => ∃ n : Nat, x = .int .i64 n ∧ n ≤ nv ∧ wx.ownsRow W1.heap.size 119 2 v (((ks.zip ls).take n).map fun q => (q.1, q.2.nm)).length (flatN (((ks.zip ls).take n).map fun q => (q.1, q.2.nm))) ∧ RdrIs wx Rb (.int .i64 k) (.int .i64 i) (.string t) (.slice pk nk ck) (.slice pl nl cl) (bad || ((ks.zip ls).take n).any (badIn isT)) ∧ Keep (OneP Rb) W1 wx) (fun _ x _ => nv - (intOf x).toNat)
    case atStart => exact ⟨0, rfl, Nat.zero_le _, World.ownsRow_nil _ _ _ _, by simpa using HRW.out, Keep.refl _ _⟩
    case round =>
     obtain ⟨n, rfl, hn, hown, hrd, hkp⟩ := hrel
     have HF : Hid (∀ X, Keep (OneP Rb) W1 X → X.cell? ⟨w1.heap.size, 4, none⟩ = some (.slice qv mv dv)) := fun X hX => (World.cell?_of_block (a := ⟨w1.heap.size, 4, none⟩) (hX.block w1.heap.size hsW (by unfold OneP; omega))).trans (cellP HBX.out 4 _ rfl)
     by_cases hnv : n < nv
     · have hnk : n < ks.length := by rw [HNV.out]; exact hnv
       have hnm : n < mv := by have := HLE.out; rw [HNV.out, HMV.out] at this; omega
       have HT : Hid ((ks.zip ls).take (n + 1) = (ks.zip ls).take n ++ [(ks.getD n nix, ls.getD n J.zero)]) := zip_at hnk HLE.out
       obtain ⟨ad, rfl, hOa, hck1⟩ := HVK.out.2 n hnk
       have hkey : wr.cell? (ad.add n) = some (.string (ks.getD n nix)) := (World.cell?_of_block (by rw [add_block]; exact hkp.block _ (HOB.out _ hOa).1 (by unfold OneP; exact (HOB.out _ hOa).2))).trans hck1
       have hksz : (ks.getD n nix).size ≤ 1000000000 := by rw [List.getD_eq_getElem?_getD, List.getElem?_eq_getElem hnk]; exact HKS.out _ (List.getElem_mem hnk)
       obtain ⟨lb, lo, cs, hpl, hOb, hcells, hyj⟩ := isJs.at ls 0 n HVS.out (by rw [HMV.out]; exact hnm)
       subst hpl
       obtain ⟨ke, ie, te, pe, ne, ce, qe, me, de, rfl⟩ := isJ_shape hyj
       have HE : Hid ((ls.getD n J.zero).kd = ke ∧ (ls.getD n J.zero).nm = ie) := by
        generalize ls.getD n J.zero = y at hyj
        obtain ⟨_, _, _, _, _⟩ := y
        obtain ⟨rfl, rfl, _⟩ := isJP_parts hyj
        exact ⟨rfl, rfl⟩
       have HC : Hid (∀ X, Keep (OneP Rb) W1 X → X.cell? ⟨lb, lo + n * 5, none⟩ = some (.int .i64 ke) ∧ X.cell? ⟨lb, lo + n * 5 + 1, none⟩ = some (.int .i64 ie) ∧ X.cell? ⟨lb, lo + n * 5 + 2, none⟩ = some (.string te) ∧ X.cell? ⟨lb, lo + n * 5 + 3, none⟩ = some (.slice pe ne ce) ∧ X.cell? ⟨lb, lo + n * 5 + 4, none⟩ = some (.slice qe me de)) := fun X hX => by
        have cc : ∀ m v, [Value.int .i64 ke, .int .i64 ie, .string te, .slice pe ne ce, .slice qe me de][m]? = some v → X.cell? ⟨lb, lo + n * 5 + m, none⟩ = some v := fun m v h => by
         have := hcells m v h
         rw [Nat.zero_add] at this
         exact (World.cell?_of_block (a := ⟨lb, lo + n * 5 + m, none⟩) (hX.block lb (HOB.out lb hOb).1 (by unfold OneP; exact (HOB.out lb hOb).2))).trans this
        exact ⟨cc 0 _ rfl, cc 1 _ rfl, cc 2 _ rfl, cc 3 _ rfl, cc 4 _ rfl⟩
       have HB : Hid (∀ b, b = (bad || ((ks.zip ls).take n).any (badIn isT)) → (b || (!isT (ks.getD n nix) || !lvOk ke ie)) = (bad || ((ks.zip ls).take (n + 1)).any (badIn isT))) := fun b hb => by
        rw [hb, HT.out, List.any_append, Bool.or_assoc]
        simp only [List.any_cons, List.any_nil, Bool.or_false, badIn, HE.out.1, HE.out.2]
       have HL : Hid ((((ks.zip ls).take (n + 1)).map fun q => (q.1, q.2.nm)) = (((ks.zip ls).take n).map fun q => (q.1, q.2.nm)) ++ [(ks.getD n nix, ie)]) := by
        show _ = _
        rw [HT.out, List.map_append]
        simp only [List.map_cons, List.map_nil, HE.out.2]
       have HLN : Hid ((((ks.zip ls).take n).map fun q => (q.1, q.2.nm)).length ≤ 100000) := by
        show _ ≤ _
        simp only [List.length_map, List.length_take]
        omega
       have hlb := (HOB.out lb hOb).1
       generalize (((ks.zip ls).take n).map fun q => (q.1, q.2.nm)) = L at hown HL HLN
       obtain ⟨bn, hbn⟩ : ∃ b, b = (bad || ((ks.zip ls).take n).any (badIn isT)) := ⟨_, rfl⟩
       rw [← hbn] at hrd
       have HB2 := (show Hid _ from HB.out bn hbn)
       clear hbn HB hcells hyj hck1
       generalize ks.getD n nix = K at hkey hksz HB2 HL
       have hFt := isType_any (w := wr) K hksz
       have hRl := (hown.lt)
       have HOwn : Hid (wr.ownsRow W1.heap.size 119 2 _ L.length (flatN L)) := hown
       have HRd : Hid (RdrIs wr Rb (.int .i64 k) (.int .i64 i) (.string t) (.slice pk nk ck) (.slice pl nl cl) bn) := hrd
       have HKp : Hid (Keep (OneP Rb) W1 wr) := hkp
       have hsx := hkp.size
       have hRbx : Rb < wr.heap.size := by omega
       clear hown hrd hkp hRl
       cases hft : isT K with
       | true =>
        rw [hft] at hFt HB2
        go_wp2_with (first
         | (go_at_call 81; refine hFt.mono ?_; rintro e w2 ⟨rfl, hb2⟩
            have hk2 : Keep (OneP Rb) wr w2 := Keep.of_below hb2
            have x4 := HF.out w2 (HKp.out.then hk2)
            obtain ⟨e0, e1, e2, e3, e4⟩ := HC.out w2 (HKp.out.then hk2)
            have hLv := level_any ((hb2.block Rb hRbx).trans HRd.out) ke ie te pe qe ne ce me de
            have HK2 : Hid (Keep (OneP Rb) wr w2) := hk2
            clear hk2 hb2)
         | (go_at_call 108; refine hLv.mono ?_; rintro e w4 ⟨rfl, hr4, hk4⟩
            have hkx : Keep (OneP Rb) wr w4 := HK2.out.then hk4
            have hownA := (own_keep HOwn.out hkx (fun q hq => by have := (HOwn.out.lt q hq).1; unfold OneP; omega)).alloc (.cells #[.string K, .int .i64 ie] 119)
            have hrdA : RdN (fun _ => True) (w4.alloc (.cells #[.string K, .int .i64 ie] 119)) (some ⟨w4.heap.size, 0, none⟩) 1 [(K, ie)] := rdN_flat (l := [(K, ie)]) trivial (newP _)
            have hsz4 : W1.heap.size ≤ (w4.alloc (.cells #[.string K, .int .i64 ie] 119)).heap.size := by have := hkx.size; simp; omega
            have HR4 := (show Hid _ from hr4)
            have HKX : Hid (Keep (OneP Rb) wr w4) := hkx
            clear hr4 hk4 hkx e0 e1 e2 e3 e4 x4 hLv)
         | (refine wpList_append_rdN rfl _ _ rfl W1.heap.size _ L rfl hownA hrdA rfl (by have := HLN.out; omega) (by simp) hsz4 ?_; intro v5 w5 hown5 hg5))
        go_roundw
        case rel =>
         have hkA : Keep (OneP Rb) W1 (w4.alloc (.cells #[.string K, .int .i64 ie] 119)) := (HKp.out.then HKX.out).alloc _
         have hlt4 := objP_lt HR4.out
         refine ⟨n + 1, by simp, by omega, by rw [HL.out]; exact hown5, ?_, hkA.grown hg5 (fun q hq => (hownA.lt q hq).1)⟩
         rw [← HB2.out]
         refine (hg5.block Rb (by simp; omega) (fun e => by have := (hownA.lt Rb e.symm).1; omega)).trans ?_
         rw [Below.heap_alloc _ _ _ hlt4]
         simpa using HR4.out
        case measure => simp [intOf]; omega
       | false =>
        rw [hft] at hFt HB2
        go_wp2_with (first
         | (go_at_call 81; refine hFt.mono ?_; rintro e w2 ⟨rfl, hb2⟩
            have hR2 : RdrIs w2 Rb _ _ _ _ _ bn := (hb2.block Rb hRbx).trans HRd.out
            have r5 := cellP hR2 5 _ rfl
            have rz := fzP hR2 5
            have hk3 : Keep (OneP Rb) wr (w2.setCell ⟨Rb, 5, none⟩ (.bool true)) := Keep.setCell (S := OneP Rb) (p := ⟨Rb, 5, none⟩) (Keep.of_below hb2) (fun _ => (rfl : Rb = Rb)) _
            have x4 := HF.out _ (HKp.out.then hk3)
            obtain ⟨e0, e1, e2, e3, e4⟩ := HC.out _ (HKp.out.then hk3)
            have hLv := level_any (hR2.set true) ke ie te pe qe ne ce me de
            have HK2 : Hid (Keep (OneP Rb) wr (w2.setCell ⟨Rb, 5, none⟩ (.bool true))) := hk3
            clear hk3 hb2 hR2)
         | (go_at_call 108; refine hLv.mono ?_; rintro e w4 ⟨rfl, hr4, hk4⟩
            have hkx : Keep (OneP Rb) wr w4 := HK2.out.then hk4
            have hownA := (own_keep HOwn.out hkx (fun q hq => by have := (HOwn.out.lt q hq).1; unfold OneP; omega)).alloc (.cells #[.string K, .int .i64 ie] 119)
            have hrdA : RdN (fun _ => True) (w4.alloc (.cells #[.string K, .int .i64 ie] 119)) (some ⟨w4.heap.size, 0, none⟩) 1 [(K, ie)] := rdN_flat (l := [(K, ie)]) trivial (newP _)
            have hsz4 : W1.heap.size ≤ (w4.alloc (.cells #[.string K, .int .i64 ie] 119)).heap.size := by have := hkx.size; simp; omega
            have HR4 := (show Hid _ from hr4)
            have HKX : Hid (Keep (OneP Rb) wr w4) := hkx
            clear hr4 hk4 hkx e0 e1 e2 e3 e4 x4 hLv r5 rz)
         | (refine wpList_append_rdN rfl _ _ rfl W1.heap.size _ L rfl hownA hrdA rfl (by have := HLN.out; omega) (by simp) hsz4 ?_; intro v5 w5 hown5 hg5))
        go_roundw
        case rel =>
         have hkA : Keep (OneP Rb) W1 (w4.alloc (.cells #[.string K, .int .i64 ie] 119)) := (HKp.out.then HKX.out).alloc _
         have hlt4 := objP_lt HR4.out
         refine ⟨n + 1, by simp, by omega, by rw [HL.out]; exact hown5, ?_, hkA.grown hg5 (fun q hq => (hownA.lt q hq).1)⟩
         rw [← HB2.out]
         refine (hg5.block Rb (by simp; omega) (fun e => by have := (hownA.lt Rb e.symm).1; omega)).trans ?_
         rw [Below.heap_alloc _ _ _ hlt4]
         simpa using HR4.out
        case measure => simp [intOf]; omega
     · obtain rfl : n = nv := by omega
       have htk : (ks.zip ls).take n = ks.zip ls := List.take_of_length_le (by rw [List.length_zip, HNV.out]; omega)
       rw [htk] at hown hrd
       have HOwn := (show Hid _ from hown)
       have HRd := (show Hid _ from hrd)
       clear hown hrd htk
       go_wp2
       go_ret
       obtain ⟨p', c', hv', hrd'⟩ := own_rdN HOwn.out
       refine ⟨⟨p', c', by first | (rw [hv']; rfl) | (simp only [] ; rw [← hv']; rfl), hrd'.carry fun q hq => ⟨⟨by have := hbW.size; omega, hq.2⟩, rfl⟩⟩, ?_, (Keep.of_below hbW).then hkp⟩
       simpa [rowT, J.kd, J.ks, J.ls] using HRd.out
  · have hks := HNE.out hk5
    have hnv0 : nv = 0 := by rw [← HNV.out, hks]; rfl
    subst hnv0
    have HRS : Hid (RdrIs (W1.setCell ⟨Rb, 5, none⟩ (.bool true)) Rb (.int .i64 k) (.int .i64 i) (.string t) (.slice pk nk ck) (.slice pl nl cl) true) := HRW.out.set true
    have HKS2 : Hid (Keep (OneP Rb) w (W1.setCell ⟨Rb, 5, none⟩ (.bool true))) := Keep.setCell (S := OneP Rb) (p := ⟨Rb, 5, none⟩) (Keep.of_below hbW) (fun _ => (rfl : Rb = Rb)) _
    have HBX : Hid (W1.heap[w1.heap.size]? = some (.cells #[.int .i64 kv', .int .i64 iv', .string tv', .slice pv 0 cv, .slice qv mv dv] 38 (0, 0))) := hX
    have b3' : (W1.setCell ⟨Rb, 5, none⟩ (.bool true)).cell? ⟨w1.heap.size, 3, none⟩ = some (.slice pv 0 cv) := by
     rw [World.cell?_of_block (Below.heap_setCell W1 ⟨Rb, 5, none⟩ _ w1.heap.size (by simp; omega))]; exact b3
    have HRO : Hid (rowT isT (some (.mk kv' iv' tv' ks ls)) = ([], true)) := by
     show _ = _
     simp [rowT, rowsOf, J.kd, J.ks, J.ls, hks, hk5]
    clear hX hks
    go_wp2
    go_loopw [9, 29] (fun v x wx => v = .slice none 0 0 ∧ x = .int .i64 0 ∧ Hid (wx = W1.setCell ⟨Rb, 5, none⟩ (.bool true))) (fun _ _ _ => 0)
    case atStart => exact ⟨rfl, rfl, rfl⟩
    case round =>
     obtain ⟨rfl, rfl, hwr⟩ := hrel
     go_wp2
     go_ret
     rw [HRO.out, hwr.out]
     exact ⟨⟨none, 0, rfl, RdN.nil _ _ _ _ fun _ => rfl⟩, by simpa using HRS.out, HKS2.out⟩
def parseL (j : J) : Lv := ⟨(numT 50 (lookV j.ks j.ls kBan)).1, (numT 50 (lookV j.ks j.ls kKick)).1, (numT 0 (lookV j.ks j.ls kInvite)).1, (numT 50 (lookV j.ks j.ls kRedact)).1, (numT 50 (lookV j.ks j.ls kState)).1, (numT 0 (lookV j.ks j.ls kEvents)).1, (numT 0 (lookV j.ks j.ls kUsers)).1, (rowT isU (lookV j.ks j.ls kByUser)).1, (rowT isT (lookV j.ks j.ls kByType)).1⟩
def parseB (j : J) : Bool := ((((((((!decide (j.kd = 5) || (numT 50 (lookV j.ks j.ls kBan)).2) || (numT 50 (lookV j.ks j.ls kKick)).2) || (numT 0 (lookV j.ks j.ls kInvite)).2) || (numT 50 (lookV j.ks j.ls kRedact)).2) || (numT 50 (lookV j.ks j.ls kState)).2) || (numT 0 (lookV j.ks j.ls kEvents)).2) || (numT 0 (lookV j.ks j.ls kUsers)).2) || (rowT isU (lookV j.ks j.ls kByUser)).2) || (rowT isT (lookV j.ks j.ls kByType)).2
abbrev zeroL : Lv := ⟨0, 0, 0, 0, 0, 0, 0, [], []⟩
def parseT (j : J) : Lv × Int := if parseB j then (zeroL, 1) else (parseL j, 0)
theorem parse_any {O : Nat → Prop} {w : World} {c : J} {k i : Int} {t : ByteArray} {pk pl : Option Addr} {nk ck nl cl : Nat} (hj : isJ O w c [.int .i64 k, .int .i64 i, .string t, .slice pk nk ck, .slice pl nl cl]) (hO : ∀ x, O x → x < w.heap.size) (hsz : szJ 12 c = true) :
    Calls Tryz.prog 57 #[.agg #[.int .i64 k, .int .i64 i, .string t, .slice pk nk ck, .slice pl nl cl]] w fun e w' => (∃ p, e = .returned (.tuple #[valL (parseT (ordT c)).1 p, .int .i64 (parseT (ordT c)).2]) ∧ IsL (fun b => w.heap.size ≤ b ∧ b < w'.heap.size) w' (parseT (ordT c)).1 p) ∧ Below w.heap.size w w' := by
 obtain ⟨wA, hwA⟩ : ∃ wA, wA = (w.alloc (.cells #[.int .i64 k, .int .i64 i, .string t, .slice pk nk ck, .slice pl nl cl] 38)).alloc (.cells #[.int .i64 0, .int .i64 0, .int .i64 0, .int .i64 0, .int .i64 0, .int .i64 0, .int .i64 0, .slice none 0 0, .slice none 0 0] 89) := ⟨_, rfl⟩
 have hbA : Below w.heap.size w wA := by rw [hwA]; exact ((Below.refl _ _).alloc (Nat.le_refl _) _).alloc (by simp) _
 have hsA : wA.heap.size = w.heap.size + 2 := by rw [hwA]; simp
 have hA0 : wA.heap[w.heap.size]? = some (.cells #[.int .i64 k, .int .i64 i, .string t, .slice pk nk ck, .slice pl nl cl] 38 (0, 0)) := by rw [hwA, Below.heap_alloc _ _ _ (by simp)]; exact newP _
 have hA1 : wA.heap[w.heap.size + 1]? = some (.cells #[.int .i64 0, .int .i64 0, .int .i64 0, .int .i64 0, .int .i64 0, .int .i64 0, .int .i64 0, .slice none 0 0, .slice none 0 0] 89 (0, 0)) := by
  rw [hwA]
  have := newP (w := w.alloc (.cells #[.int .i64 k, .int .i64 i, .string t, .slice pk nk ck, .slice pl nl cl] 38)) (.cells #[.int .i64 0, .int .i64 0, .int .i64 0, .int .i64 0, .int .i64 0, .int .i64 0, .int .i64 0, .slice none 0 0, .slice none 0 0] 89)
  rw [World.size_alloc] at this
  exact this
 have hOr := order_any (fun x hx => Nat.lt_of_lt_of_le (hO x hx) hbA.size) hsz (hj.carry (O' := O) (w' := wA) fun x hx => ⟨hx, hbA.block x (hO x hx)⟩)
 have HOK : Hid (OkJ 12 (ordT c)) := ordT_okJ hsz
 have b0 := cellP hA0 0 _ rfl; have b1 := cellP hA0 1 _ rfl; have b2 := cellP hA0 2 _ rfl; have b3 := cellP hA0 3 _ rfl; have b4 := cellP hA0 4 _ rfl
 generalize ordT c = j at hOr HOK
 have HA1 : Hid (∀ X, Below wA.heap.size wA X → X.heap[w.heap.size + 1]? = some (.cells #[.int .i64 0, .int .i64 0, .int .i64 0, .int .i64 0, .int .i64 0, .int .i64 0, .int .i64 0, .slice none 0 0, .slice none 0 0] 89 (0, 0))) := fun X hX => (hX.block _ (by omega)).trans hA1
 clear hj hO hsz hA0 hA1
 go_enter Tryz.func57, Tryz.ntmps57
 go_upto_region 1 with fail
 rw [← hwA]
 clear hwA
 go_upto_region 2 with (go_at_call 77; refine hOr.mono ?_; rintro e w1 ⟨⟨kr, ir, tr, pr, nr, cr, qr, mr, dr, rfl, hjr⟩, hb1⟩)
 go_upto_region 3 with fail
 have hs1 := hb1.size
 obtain ⟨W2, hW2⟩ : ∃ W2, W2 = (w1.alloc (.cells #[.int .i64 kr, .int .i64 ir, .string tr, .slice pr nr cr, .slice qr mr dr] 38)).alloc (.cells #[.int .i64 kr, .int .i64 ir, .string tr, .slice pr nr cr, .slice qr mr dr, .bool (kr != 5)] 114) := ⟨_, rfl⟩
 have hb2 : Below w1.heap.size w1 W2 := by rw [hW2]; exact ((Below.refl _ _).alloc (Nat.le_refl _) _).alloc (by simp) _
 have hs2 : W2.heap.size = w1.heap.size + 2 := by rw [hW2]; simp
 have hr0 : RdrIs W2 (w1.heap.size + 1) (.int .i64 kr) (.int .i64 ir) (.string tr) (.slice pr nr cr) (.slice qr mr dr) (kr != 5) := by
  rw [hW2]
  have := newP (w := w1.alloc (.cells #[.int .i64 kr, .int .i64 ir, .string tr, .slice pr nr cr, .slice qr mr dr] 38)) (.cells #[.int .i64 kr, .int .i64 ir, .string tr, .slice pr nr cr, .slice qr mr dr, .bool (kr != 5)] 114)
  rw [World.size_alloc] at this
  exact this
 have HB0 : Hid ((kr != 5) = !decide (j.kd = 5)) := by
  show _ = _
  obtain ⟨_, _, _, _, _⟩ := j
  obtain ⟨rfl, _⟩ := isJP_parts hjr
  show (kr != 5) = !decide (kr = 5)
  by_cases h : kr = 5 <;> simp [h]
 have hj2 : isJ (fun b => b < w1.heap.size) W2 j [.int .i64 kr, .int .i64 ir, .string tr, .slice pr nr cr, .slice qr mr dr] := hjr.carry fun x hx => ⟨hx, hb2.block x hx⟩
 have HNum : Hid (∀ X bad s z, Keep (OneP (w1.heap.size + 1)) W2 X → RdrIs X (w1.heap.size + 1) (.int .i64 kr) (.int .i64 ir) (.string tr) (.slice pr nr cr) (.slice qr mr dr) bad → Calls Tryz.prog 78 #[.pointer (some ⟨w1.heap.size + 1, 0, none⟩), .string s, .int .i64 z] X fun e w' => e = .returned (.int .i64 (numT z (lookV j.ks j.ls s)).1) ∧ RdrIs w' (w1.heap.size + 1) (.int .i64 kr) (.int .i64 ir) (.string tr) (.slice pr nr cr) (.slice qr mr dr) (bad || (numT z (lookV j.ks j.ls s)).2) ∧ Keep (OneP (w1.heap.size + 1)) X w') := fun X bad s z hX hR =>
  numberP_any (d := 11) hR (hj2.carry (O' := fun b => b < w1.heap.size) fun x hx => ⟨hx, hX.block x (by omega) (by unfold OneP; omega)⟩) (fun x hx => by have := hX.size; omega) HOK.out s z
 have HRowU : Hid (∀ X bad, Keep (OneP (w1.heap.size + 1)) W2 X → RdrIs X (w1.heap.size + 1) (.int .i64 kr) (.int .i64 ir) (.string tr) (.slice pr nr cr) (.slice qr mr dr) bad → Calls Tryz.prog 79 #[.pointer (some ⟨w1.heap.size + 1, 0, none⟩), .string kByUser, .func (.func 80) #[] #[]] X fun e w' => (∃ p c, e = .returned (.slice p (rowT isU (lookV j.ks j.ls kByUser)).1.length c) ∧ RdN (fun b => X.heap.size ≤ b ∧ b < w'.heap.size) w' p c (rowT isU (lookV j.ks j.ls kByUser)).1) ∧ RdrIs w' (w1.heap.size + 1) (.int .i64 kr) (.int .i64 ir) (.string tr) (.slice pr nr cr) (.slice qr mr dr) (bad || (rowT isU (lookV j.ks j.ls kByUser)).2) ∧ Keep (OneP (w1.heap.size + 1)) X w') := fun X bad hX hR =>
  row_users (d := 10) hR (hj2.carry (O' := fun b => b < w1.heap.size) fun x hx => ⟨hx, hX.block x (by omega) (by unfold OneP; omega)⟩) (fun x hx => ⟨by have := hX.size; omega, by omega⟩) HOK.out kByUser
 have HRowT : Hid (∀ X bad, Keep (OneP (w1.heap.size + 1)) W2 X → RdrIs X (w1.heap.size + 1) (.int .i64 kr) (.int .i64 ir) (.string tr) (.slice pr nr cr) (.slice qr mr dr) bad → Calls Tryz.prog 79 #[.pointer (some ⟨w1.heap.size + 1, 0, none⟩), .string kByType, .func (.func 81) #[] #[]] X fun e w' => (∃ p c, e = .returned (.slice p (rowT isT (lookV j.ks j.ls kByType)).1.length c) ∧ RdN (fun b => X.heap.size ≤ b ∧ b < w'.heap.size) w' p c (rowT isT (lookV j.ks j.ls kByType)).1) ∧ RdrIs w' (w1.heap.size + 1) (.int .i64 kr) (.int .i64 ir) (.string tr) (.slice pr nr cr) (.slice qr mr dr) (bad || (rowT isT (lookV j.ks j.ls kByType)).2) ∧ Keep (OneP (w1.heap.size + 1)) X w') := fun X bad hX hR =>
  row_types (d := 10) hR (hj2.carry (O' := fun b => b < w1.heap.size) fun x hx => ⟨hx, hX.block x (by omega) (by unfold OneP; omega)⟩) (fun x hx => ⟨by have := hX.size; omega, by omega⟩) HOK.out kByType
 rw [← hW2]
 have HBW : Hid (Below w.heap.size w W2) := belowP hbA (belowP hb1 hb2)
 have HBA : Hid (Below wA.heap.size wA W2) := belowP hb1 hb2
 clear hjr hj2 hOr hW2 b0 b1 b2 b3 b4
 have HPB : Hid (parseB j = ((((((((((kr != 5) || (numT 50 (lookV j.ks j.ls kBan)).2) || (numT 50 (lookV j.ks j.ls kKick)).2) || (numT 0 (lookV j.ks j.ls kInvite)).2) || (numT 50 (lookV j.ks j.ls kRedact)).2) || (numT 50 (lookV j.ks j.ls kState)).2) || (numT 0 (lookV j.ks j.ls kEvents)).2) || (numT 0 (lookV j.ks j.ls kUsers)).2) || (rowT isU (lookV j.ks j.ls kByUser)).2) || (rowT isT (lookV j.ks j.ls kByType)).2)) := by show _ = _; unfold parseB; rw [HB0.out]
 generalize (kr != 5) = bad0 at hr0 HPB ⊢
 have hN1 := HNum.out W2 bad0 kBan 50 (Keep.refl _ _) hr0
 go_upto_region 4 with (first
  | (go_at_call 78; refine hN1.mono ?_; rintro e v1 ⟨rfl, hr1, hk1⟩
     have HK1 : Hid (Keep (OneP (w1.heap.size + 1)) W2 v1) := hk1
     have hN2 := HNum.out v1 _ kKick 50 HK1.out hr1
     clear hN1 hk1 hr1)
  | (go_at_call 78; refine hN2.mono ?_; rintro e v2 ⟨rfl, hr2, hk2⟩
     have HK2 : Hid (Keep (OneP (w1.heap.size + 1)) W2 v2) := HK1.out.then hk2
     have hN3 := HNum.out v2 _ kInvite 0 HK2.out hr2
     clear hN2 hk2 hr2)
  | (go_at_call 78; refine hN3.mono ?_; rintro e v3 ⟨rfl, hr3, hk3⟩
     have HK3 : Hid (Keep (OneP (w1.heap.size + 1)) W2 v3) := HK2.out.then hk3
     have hN4 := HNum.out v3 _ kRedact 50 HK3.out hr3
     clear hN3 hk3 hr3)
  | (go_at_call 78; refine hN4.mono ?_; rintro e v4 ⟨rfl, hr4, hk4⟩
     have HK4 : Hid (Keep (OneP (w1.heap.size + 1)) W2 v4) := HK3.out.then hk4
     have hN5 := HNum.out v4 _ kState 50 HK4.out hr4
     clear hN4 hk4 hr4)
  | (go_at_call 78; refine hN5.mono ?_; rintro e v5 ⟨rfl, hr5, hk5⟩
     have HK5 : Hid (Keep (OneP (w1.heap.size + 1)) W2 v5) := HK4.out.then hk5
     have hN6 := HNum.out v5 _ kEvents 0 HK5.out hr5
     clear hN5 hk5 hr5)
  | (go_at_call 78; refine hN6.mono ?_; rintro e v6 ⟨rfl, hr6, hk6⟩
     have HK6 : Hid (Keep (OneP (w1.heap.size + 1)) W2 v6) := HK5.out.then hk6
     have hN7 := HNum.out v6 _ kUsers 0 HK6.out hr6
     clear hN6 hk6 hr6)
  | (go_at_call 78; refine hN7.mono ?_; rintro e v7 ⟨rfl, hr7, hk7⟩
     have HK7 : Hid (Keep (OneP (w1.heap.size + 1)) W2 v7) := HK6.out.then hk7
     have hN8 := HRowU.out v7 _ HK7.out hr7
     clear hN7 hk7 hr7)
  | (go_at_call 79; refine hN8.mono ?_; rintro e v8 ⟨⟨pu, cu, rfl, hru⟩, hr8, hk8⟩
     have HK8 : Hid (Keep (OneP (w1.heap.size + 1)) W2 v8) := HK7.out.then hk8
     have HRU := (show Hid _ from hru)
     have hN9 := HRowT.out v8 _ HK8.out hr8
     clear hN8 hk8 hr8 hru)
  | (go_at_call 79; refine hN9.mono ?_; rintro e v9 ⟨⟨pt, ct, rfl, hrt⟩, hr9, hk9⟩
     have HK9 : Hid (Keep (OneP (w1.heap.size + 1)) W2 v9) := HK8.out.then hk9
     have HK89 : Hid (Keep (OneP (w1.heap.size + 1)) v8 v9) := hk9
     have HRT := (show Hid _ from hrt)
     have HR9 := (show Hid _ from hr9)
     clear hN9 hk9 hr9 hrt))
 have hR9 := HR9.out
 rw [← HPB.out] at hR9
 obtain ⟨WE, hWE⟩ : ∃ WE, WE = v9.alloc (.cells (cellsL (parseL j) ⟨pu, cu, pt, ct⟩).toArray 89) := ⟨_, rfl⟩
 have hbE : Below v9.heap.size v9 WE := by rw [hWE]; exact (Below.refl _ _).alloc (Nat.le_refl _) _
 have hL : WE.heap[v9.heap.size]? = some (.cells (cellsL (parseL j) ⟨pu, cu, pt, ct⟩).toArray 89 (0, 0)) := by rw [hWE]; exact newP _
 have hRE : RdrIs WE (w1.heap.size + 1) (.int .i64 kr) (.int .i64 ir) (.string tr) (.slice pr nr cr) (.slice qr mr dr) (parseB j) := (hbE.block _ (objP_lt hR9)).trans hR9
 have h9s := HK9.out.size
 have hZ : WE.heap[w.heap.size + 1]? = some (.cells #[.int .i64 0, .int .i64 0, .int .i64 0, .int .i64 0, .int .i64 0, .int .i64 0, .int .i64 0, .slice none 0 0, .slice none 0 0] 89 (0, 0)) :=
  (hbE.block _ (by omega)).trans ((HK9.out.block _ (by omega) (by unfold OneP; omega)).trans (HA1.out W2 HBA.out))
 have hbF : Below w.heap.size w WE := belowP (HBW.out.trans (HK9.out.below HBW.out.size fun q hq e => by unfold OneP at e; omega)) hbE
 have HIS : Hid (IsL (fun b => w.heap.size ≤ b ∧ b < WE.heap.size ∧ b ≠ w.heap.size + 1) WE (parseL j) ⟨pu, cu, pt, ct⟩) := by
  have h8 := HK8.out.size
  have h89 := HK89.out.size
  have hE := hbE.size
  refine ⟨RdN.carry HRU.out fun b hb => ⟨⟨by have := hb.1; have := HK7.out.size; omega, by omega, by have := hb.1; have := HK7.out.size; omega⟩, (hbE.block b (by omega)).trans (HK89.out.block b hb.2 (by have := hb.1; have := HK7.out.size; unfold OneP; omega))⟩, RdN.carry HRT.out fun b hb => ⟨⟨by have := hb.1; omega, by omega, by have := hb.1; omega⟩, hbE.block b hb.2⟩⟩
 have r5 := cellP hRE 5 _ rfl
 have g0 := cellP hZ 0 _ rfl; have g1 := cellP hZ 1 _ rfl; have g2 := cellP hZ 2 _ rfl; have g3 := cellP hZ 3 _ rfl; have g4 := cellP hZ 4 _ rfl; have g5 := cellP hZ 5 _ rfl; have g6 := cellP hZ 6 _ rfl; have g7 := cellP hZ 7 _ rfl; have g8 := cellP hZ 8 _ rfl
 have z0 := fzP hZ 0; have z1 := fzP hZ 1; have z2 := fzP hZ 2; have z3 := fzP hZ 3; have z4 := fzP hZ 4; have z5 := fzP hZ 5; have z6 := fzP hZ 6; have z7 := fzP hZ 7; have z8 := fzP hZ 8
 have HZ := (show Hid _ from hZ)
 have HPT : Hid (parseT j = if parseB j then (zeroL, 1) else (parseL j, 0)) := rfl
 have hltZ := objP_lt hZ
 change Code.wp _ _ _ _ (v9.alloc (.cells (cellsL (parseL j) ⟨pu, cu, pt, ct⟩).toArray 89))
 rw [← hWE]
 cases hpb : parseB j with
 | true =>
  rw [hpb] at r5 HPT
  clear hWE hL hRE hR9 HR9 HPB hZ
  go_wp2
  have h9 := setL_all (b := w.heap.size + 1) [.int .i64 0, .int .i64 0, .int .i64 0, .int .i64 0, .int .i64 0, .int .i64 0, .int .i64 0, .slice none 0 0, .slice none 0 0] HZ.out rfl
  have HK := setL_keep (w.heap.size + 1) [.int .i64 0, .int .i64 0, .int .i64 0, .int .i64 0, .int .i64 0, .int .i64 0, .int .i64 0, .slice none 0 0, .slice none 0 0] WE 0
  simp only [setL, Nat.zero_add, Nat.reduceAdd] at h9 HK
  refine bodyPost_ret (resultsP_cell_tmp rfl _ _ _ rfl (loadL9 h9)) rfl ?_
  rw [HPT.out]
  exact ⟨⟨⟨none, 0, none, 0⟩, rfl, RdN.nil _ _ _ _ fun _ => rfl, RdN.nil _ _ _ _ fun _ => rfl⟩, hbF.trans (HK.below hbF.size fun q hq e => by unfold OneP at e; omega)⟩
 | false =>
  rw [hpb] at r5 HPT
  have c0 := cellP hL 0 _ rfl; have c1 := cellP hL 1 _ rfl; have c2 := cellP hL 2 _ rfl; have c3 := cellP hL 3 _ rfl; have c4 := cellP hL 4 _ rfl; have c5 := cellP hL 5 _ rfl; have c6 := cellP hL 6 _ rfl; have c7 := cellP hL 7 _ rfl; have c8 := cellP hL 8 _ rfl
  clear hWE hRE hR9 HR9 HPB hZ hL
  generalize parseL j = PL at c0 c1 c2 c3 c4 c5 c6 c7 c8 HIS HPT
  go_wp2
  have h9 := setL_all (b := w.heap.size + 1) [.int .i64 PL.ban, .int .i64 PL.kick, .int .i64 PL.invite, .int .i64 PL.redact, .int .i64 PL.state, .int .i64 PL.events, .int .i64 PL.users, .slice pu PL.byUser.length cu, .slice pt PL.byType.length ct] HZ.out rfl
  have HK := setL_keep (w.heap.size + 1) [.int .i64 PL.ban, .int .i64 PL.kick, .int .i64 PL.invite, .int .i64 PL.redact, .int .i64 PL.state, .int .i64 PL.events, .int .i64 PL.users, .slice pu PL.byUser.length cu, .slice pt PL.byType.length ct] WE 0
  simp only [setL, Nat.zero_add, Nat.reduceAdd] at h9 HK
  refine bodyPost_ret (resultsP_cell_tmp rfl _ _ _ rfl (loadL9 h9)) rfl ?_
  rw [HPT.out]
  refine ⟨⟨⟨pu, cu, pt, ct⟩, rfl, HIS.out.carry fun b hb => ⟨⟨hb.1, Nat.lt_of_lt_of_le hb.2.1 HK.size⟩, HK.block b hb.2.1 (by unfold OneP; exact hb.2.2)⟩⟩, hbF.trans (HK.below hbF.size fun q hq e => by unfold OneP at e; omega)⟩
def getT (j : J) (s : ByteArray) : Option J := if j.kd = 5 then lookV j.ks j.ls s else none
theorem lookJ_step : ∀ {ks : List ByteArray} {l : List J} {s : ByteArray} {n : Nat}, n < ks.length → n < l.length → (∀ m, m < n → ((ks.getD m nix).toList == s.toList) = false) → ((ks.getD n nix).toList == s.toList) = true → lookV ks l s = some (l.getD n J.zero)
 | [], _, _, _, h, _, _, _ => absurd h (by simp)
 | _ :: _, [], _, _, _, h, _, _ => absurd h (by simp)
 | k :: ks, v :: l, s, 0, _, _, _, he => by
  have he : (k.toList == s.toList) = true := by simpa using he
  unfold lookV
  rw [if_pos he]
  simp
 | k :: ks, v :: l, s, n + 1, h1, h2, hm, he => by
  have h0 : (k.toList == s.toList) = false := by have := hm 0 (by omega); simpa using this
  unfold lookV
  rw [h0, if_neg (by decide), lookJ_step (n := n) (by simpa using h1) (by simpa using h2) (fun m h => by have := hm (m + 1) (by omega); simpa using this) (by simpa using he)]
  simp
theorem lookJ_miss : ∀ {ks : List ByteArray} {l : List J} {s : ByteArray}, (∀ m, m < ks.length → m < l.length → ((ks.getD m nix).toList == s.toList) = false) → lookV ks l s = none
 | [], _, _, _ => by unfold lookV; rfl
 | _ :: _, [], _, _ => by unfold lookV; rfl
 | k :: ks, v :: l, s, h => by
  have h0 : (k.toList == s.toList) = false := by have := h 0 (by simp) (by simp); simpa using this
  unfold lookV
  rw [h0, if_neg (by decide)]
  exact lookJ_miss fun m h1 h2 => by have := h (m + 1) (by simpa using h1) (by simpa using h2); simpa using this
theorem szP_keys {d : Nat} {j : J} (h : szJ (d + 1) j = true) : j.ks.length ≤ 100000 := by
 obtain ⟨k, i, t, ks, l⟩ := j
 unfold szJ at h
 simp only [Bool.and_eq_true, decide_eq_true_eq] at h
 exact h.2.1
theorem row_sz {d : Nat} {j : J} (hok : OkJ (d + 2) j) (fit : ByteArray → Bool) (s : ByteArray) : SzN (rowT fit (lookV j.ks j.ls s)).1 := by
 cases h : lookV j.ks j.ls s with
 | none => exact ⟨by simp [rowT], fun p hp => by simp [rowT] at hp⟩
 | some v =>
  have hv : OkJ (d + 1) v := by
   obtain ⟨_, _, _, _, _⟩ := j
   exact hok.parts.2.2.2.2.2 v (lookJ_mem h)
  obtain ⟨k, i, t, ks, l⟩ := v
  have hp := hv.parts
  simp only [rowT, rowsOf, J.ks, J.ls]
  refine ⟨by rw [List.length_map, List.length_zip]; omega, fun p hm => ?_⟩
  obtain ⟨q, hq, rfl⟩ := List.mem_map.1 hm
  exact hp.2.2.2.2.1 q.1 (List.of_mem_zip hq).1
theorem parse_sz {c : J} (hs : szJ 12 c = true) : SzL (parseT (ordT c)).1 := by
 have hok := ordT_okJ hs
 unfold parseT
 split
 · exact ⟨⟨by simp, fun p hp => by simp at hp⟩, ⟨by simp, fun p hp => by simp at hp⟩⟩
 · exact ⟨row_sz (d := 10) hok isU kByUser, row_sz (d := 10) hok isT kByType⟩
theorem parse_err (j : J) : (parseT j).2 = 0 ∨ (parseT j).2 = 1 := by
 unfold parseT
 split
 · exact .inr rfl
 · exact .inl rfl
abbrev tCreate : ByteArray := ⟨#[109, 46, 114, 111, 111, 109, 46, 99, 114, 101, 97, 116, 101]⟩
abbrev tMember : ByteArray := ⟨#[109, 46, 114, 111, 111, 109, 46, 109, 101, 109, 98, 101, 114]⟩
abbrev tPower : ByteArray := ⟨#[109, 46, 114, 111, 111, 109, 46, 112, 111, 119, 101, 114, 95, 108, 101, 118, 101, 108, 115]⟩
abbrev tRules : ByteArray := ⟨#[109, 46, 114, 111, 111, 109, 46, 106, 111, 105, 110, 95, 114, 117, 108, 101, 115]⟩
abbrev nMemb : ByteArray := ⟨#[109, 101, 109, 98, 101, 114, 115, 104, 105, 112]⟩
abbrev vLeave : ByteArray := ⟨#[108, 101, 97, 118, 101]⟩
abbrev vBan : ByteArray := ⟨#[98, 97, 110]⟩
abbrev eqT (a b : ByteArray) : Bool := a.toList == b.toList
def J.tx : J → ByteArray
 | .mk _ _ t _ _ => t
def txtT : Option J → ByteArray
 | some v => if v.kd = 3 then v.tx else nix
 | none => nix
def textT (c : J) (s : ByteArray) : ByteArray := txtT (getT c s)
structure SzE (e : Ev) : Prop where
 room : e.room.size ≤ 1000000000
 typ : e.typ.size ≤ 1000000000
 sender : e.sender.size ≤ 1000000000
 key : e.key.size ≤ 1000000000
 hash : e.hash.size ≤ 1000000000
 cont : szJ 12 e.content = true
 prev : e.prev.length ≤ 100000
 prevs : ∀ x ∈ e.prev, x.size ≤ 1000000000
 auth : e.auth.length ≤ 100000
 auths : ∀ x ∈ e.auth, x.size ≤ 1000000000
 sigs : e.sigs.length ≤ 100000
 sigss : ∀ x ∈ e.sigs, x.1.size ≤ 1000000000 ∧ x.2.size ≤ 1000000000
end Go.Proofs.YtimhpglfolbomabGreat

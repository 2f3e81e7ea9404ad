/-
  User, Type, Start, the seven numbers as a row, and what is above a level: by contracts.
  A map of names to levels.
  A row of names as a map: by a contract.
  Two rows of names joined: by contracts.
  The changes from a row of names to the next, gone through by a function: by a contract.
-/
import Derived.Test.YtldegjjaknelgaaGreatDoorAY10
import Derived.RangeFuncNested
import Derived.Lib.AppendZeros
import Derived.RangeFuncBound
import Derived.RangeFuncCalls
import Derived.RangeFuncLeaves
import Derived.Shelf.Abstract
import Derived.Shelf.RegionOpen
import Derived.OwnWalkIn
import Derived.TacticsInMore
import Derived.LoopNIn
import Derived.LoopIn
import Derived.Laws.StructEq
import Derived.Deep.CutRange
import Derived.Deep.CutBlock
set_option maxRecDepth 100000
set_option maxHeartbeats 16000000
namespace Go.Proofs.YtldegjjaknelgaaGreatDoor
open Go.RowKit
theorem user_lv {O : Nat → Prop} {w : World} {l : Lv} {p : Pl} (h : IsL O w l p) (hO : ∀ k, O k → k < w.heap.size) (hz : SzL l) (s : ByteArray) :
    Calls Tryz.prog 90 #[valL l p, .string s] w fun e w' => e = .returned (.int .i64 (usr l s)) ∧ Below w.heap.size w w' := by
 have hb : Below w.heap.size w (w.alloc (.cells (cellsL l p).toArray 47)) := (Below.refl _ _).alloc (Nat.le_refl _) _
 have hf := first_any (h.us.below hO hb) (fun k hk => Nat.lt_of_lt_of_le (hO k hk) hb.size) hz.us s l.users
 have HB : Hid (Below w.heap.size w (w.alloc (.cells (cellsL l p).toArray 47))) := hb
 obtain ⟨ban, kick, invite, redact, state, events, users, us, ty⟩ := l
 obtain ⟨pu, cu, pt, ct⟩ := p
 simp only [valL, cellsL, usr] at hf hb ⊢
 clear h hz hb
 go_enter Tryz.func90, Tryz.ntmps90
 go_wp2_with (go_at_call 91; refine hf.mono ?_; rintro e w1 ⟨rfl, hb1⟩)
 go_ret
 exact ⟨rfl, belowP HB.out hb1⟩
theorem type_lv {O : Nat → Prop} {w : World} {l : Lv} {p : Pl} (h : IsL O w l p) (hO : ∀ k, O k → k < w.heap.size) (hz : SzL l) (s : ByteArray) (st : Bool) :
    Calls Tryz.prog 57 #[valL l p, .string s, .bool st] w fun e w' => e = .returned (.int .i64 (kindL l s st)) ∧ Below w.heap.size w w' := by
 have hb : Below w.heap.size w (w.alloc (.cells (cellsL l p).toArray 47)) := (Below.refl _ _).alloc (Nat.le_refl _) _
 have hf := first_any (h.ty.below hO hb) (fun k hk => Nat.lt_of_lt_of_le (hO k hk) hb.size) hz.ty s (if st then l.state else l.events)
 have HB : Hid (Below w.heap.size w (w.alloc (.cells (cellsL l p).toArray 47))) := hb
 obtain ⟨ban, kick, invite, redact, state, events, users, us, ty⟩ := l
 obtain ⟨pu, cu, pt, ct⟩ := p
 simp only [valL, cellsL, kindL] at hf hb ⊢
 clear h hz hb
 cases st <;> simp only [Bool.false_eq_true, if_true, if_false] at hf ⊢
 all_goals
  go_enter Tryz.func57, Tryz.ntmps57
  go_wp2_with (go_at_call 91; refine hf.mono ?_; rintro e w1 ⟨rfl, hb1⟩)
  go_ret
  exact ⟨rfl, belowP HB.out hb1⟩
abbrev startL (s : ByteArray) : Lv := ⟨50, 50, 0, 50, 0, 0, 0, [(s, 100)], []⟩
theorem start_lv {w : World} (s : ByteArray) :
    Calls Tryz.prog 82 #[.string s] w fun e w' => (∃ p, e = .returned (valL (startL s) p) ∧ IsL (fun b => w.heap.size ≤ b ∧ b < w'.heap.size) w' (startL s) p) ∧ Below w.heap.size w w' := by
 go_enter Tryz.func82, Tryz.ntmps82
 go_wp2
 obtain ⟨W, hW⟩ : ∃ W, W = ((w.alloc (.cells #[.int .i64 50, .int .i64 50, .int .i64 0, .int .i64 50, .int .i64 0, .int .i64 0, .int .i64 0, .slice (some ⟨w.heap.size + 1, 0, none⟩) 1 1, .slice none 0 0] 47)).alloc (.cells #[.string s, .int .i64 100] 109)) := ⟨_, rfl⟩
 have hB : Below w.heap.size w W := by rw [hW]; exact ((Below.refl _ _).alloc (Nat.le_refl _) _).alloc (by simp) _
 have h0 : W.heap[w.heap.size]? = some (.cells #[.int .i64 50, .int .i64 50, .int .i64 0, .int .i64 50, .int .i64 0, .int .i64 0, .int .i64 0, .slice (some ⟨w.heap.size + 1, 0, none⟩) 1 1, .slice none 0 0] 47 (0, 0)) := by
  rw [hW, Below.heap_alloc _ _ _ (by simp)]
  exact newP _
 have h1 : W.heap[w.heap.size + 1]? = some (.cells #[.string s, .int .i64 100] 109 (0, 0)) := by
  rw [hW]
  have := newP (w := (w.alloc (.cells #[.int .i64 50, .int .i64 50, .int .i64 0, .int .i64 50, .int .i64 0, .int .i64 0, .int .i64 0, .slice (some ⟨w.heap.size + 1, 0, none⟩) 1 1, .slice none 0 0] 47))) (.cells #[.string s, .int .i64 100] 109)
  rw [World.size_alloc] at this
  exact this
 rw [← hW]
 refine bodyPost_ret (resultsP_cell rfl _ _ _ rfl (loadL9 h0)) rfl ?_
 have hlt := objP_lt h1
 exact ⟨⟨⟨some ⟨w.heap.size + 1, 0, none⟩, 1, none, 0⟩, rfl, rdN_flat (l := [(s, 100)]) ⟨by simp, hlt⟩ h1, RdN.nil _ _ _ _ fun _ => rfl⟩, hB⟩
theorem numbers_lv {w : World} {l : Lv} {p : Pl} :
    Calls Tryz.prog 125 #[valL l p] w fun e w' => (∃ b, e = .returned (.slice (some ⟨b, 0, none⟩) 7 7) ∧ w.heap.size ≤ b ∧ b < w'.heap.size ∧ RdN (fun k => k = b) w' (some ⟨b, 0, none⟩) 7 (nums l)) ∧ Below w.heap.size w w' := by
 obtain ⟨ban, kick, invite, redact, state, events, users, us, ty⟩ := l
 obtain ⟨pu, cu, pt, ct⟩ := p
 simp only [valL, cellsL]
 go_enter Tryz.func125, Tryz.ntmps125
 go_wp2
 go_ret
 refine ⟨⟨_, rfl, by simp, by simp, rdN_flat (l := nums _) (t := 109) (fr := (0, 0)) rfl ?_⟩, ((Below.refl _ _).alloc (Nat.le_refl _) _).alloc (by simp) _⟩
 have := newP (w := w.alloc (.cells #[.int .i64 ban, .int .i64 kick, .int .i64 invite, .int .i64 redact, .int .i64 state, .int .i64 events, .int .i64 users, .slice pu us.length cu, .slice pt ty.length ct] 47)) (.cells (flatN (nums ⟨ban, kick, invite, redact, state, events, users, us, ty⟩)).toArray 109)
 rw [World.size_alloc] at this
 exact this
abbrev cellsC (c : Chg) : List Value := [.string c.name, .bool c.old.isSome, .int .i64 (c.old.getD 0), .bool c.next.isSome, .int .i64 (c.next.getD 0)]
abbrev valC (c : Chg) : Value := .agg (cellsC c).toArray
theorem above_lv {w : World} (c : Chg) (s : Int) :
    Calls Tryz.prog 126 #[valC c, .int .i64 s] w fun e w' => e = .returned (.bool (c.above s)) ∧ Below w.heap.size w w' := by
 obtain ⟨n, o, x⟩ := c
 have hb : ∀ v, Below w.heap.size w (w.alloc (.cells v 143)) := fun v => (Below.refl _ _).alloc (Nat.le_refl _) _
 unfold Chg.above
 cases o <;> cases x <;> simp only [valC, cellsC, Option.isSome, Option.getD, over, Bool.false_or, Bool.or_false]
 · go_enter Tryz.func126, Tryz.ntmps126
   go_wp2
   go_ret
   exact ⟨rfl, hb _⟩
 · rename_i x
   by_cases h : s < x
   all_goals
    go_enter Tryz.func126, Tryz.ntmps126
    go_wp2
    go_ret
    exact ⟨by simp [h], hb _⟩
 · rename_i x
   by_cases h : s < x
   all_goals
    go_enter Tryz.func126, Tryz.ntmps126
    go_wp2
    go_ret
    exact ⟨by simp [h], hb _⟩
 · rename_i x y
   by_cases h : s < x <;> by_cases h2 : s < y
   all_goals
    go_enter Tryz.func126, Tryz.ntmps126
    go_wp2
    go_ret
    exact ⟨by simp [h, h2], hb _⟩
end Go.Proofs.YtldegjjaknelgaaGreatDoor
namespace Go.Proofs.YtldegjjaknelgaaGreatDoor
open Go.RowKit Go.Maps
def klP (s : ByteArray) : Lit := .string s.data.toList
def okP (s : ByteArray) : Prop := s.size ≤ maxLen
theorem klP_inj {s t : ByteArray} (h : klP s = klP t) : s = t := by
 unfold klP at h
 cases s; cases t
 simp only [Lit.string.injEq] at h
 rw [Array.toList_inj.1 h]
theorem keyP {s : ByteArray} (h : okP s) : keyOf Tryz.prog 9 (.string s) = some (klP s) := WideMaps.keyOf_string_mk Tryz.underlying9 h
theorem lawP9 : Keyed Tryz.prog 9 := string_keyed Tryz.underlying9
def rawP (v : Value) : Option (DataW Value × List MemPlace) := some (.held v, [])
def lookP : List (ByteArray × Value) → ByteArray → Option Value
 | [], _ => none
 | p :: r, s => if p.1.data = s.data then some p.2 else lookP r s
theorem dataP_inj {a b : ByteArray} (h : a.data = b.data) : a = b := by
 cases a; cases b
 simp only at h
 rw [h]
theorem lookP_none {es : List (ByteArray × Value)} {s : ByteArray} : lookP es s = none ↔ s ∉ es.map (·.1) := by
 induction es with
 | nil => simp [lookP]
 | cons p r ih =>
  unfold lookP
  by_cases h : p.1.data = s.data
  · rw [if_pos h]
    simp [dataP_inj h]
  · rw [if_neg h, ih]
    simp
    intro _ e
    exact h (by rw [e])
theorem lookP_snoc {es : List (ByteArray × Value)} {k s : ByteArray} {v : Value} (hk : k ∉ es.map (·.1)) : lookP (es ++ [(k, v)]) s = if k.data = s.data then some v else lookP es s := by
 induction es with
 | nil => simp [lookP]
 | cons p r ih =>
  have hk1 : k ≠ p.1 := fun e => hk (by simp [e])
  have hk2 : k ∉ r.map (·.1) := fun h => hk (by simp at h ⊢; exact .inr h)
  simp only [List.cons_append, lookP, ih hk2]
  by_cases h : p.1.data = s.data
  · rw [if_pos h, if_neg (fun e => hk1 (dataP_inj (e.trans h.symm))), if_pos h]
  · rw [if_neg h, if_neg h]
structure MapP (w : World) (M : Nat) (es : List (ByteArray × Value)) : Prop where
 own : ∃ D n, w.ownsMap Tryz.prog 9 rawP M n D ∧ n ≤ 200000 ∧ (∀ s, okP s → Maps.has D (klP s) = (lookP es s).isSome) ∧ (∀ s z, okP s → D.atKey (klP s) (.held z) = .held ((lookP es s).getD z)) ∧ Maps.size D = es.length
 apart : (es.map (·.1)).Pairwise (· ≠ ·)
theorem MapP.lt {w : World} {M : Nat} {es : List (ByteArray × Value)} (h : MapP w M es) : M < w.heap.size := by
 obtain ⟨⟨D, n, ho, _⟩, _⟩ := h
 exact ho.lt
theorem MapP.made (w : World) : MapP (w.alloc (.map #[] 0)) w.heap.size [] :=
 ⟨⟨.map [], 0, World.ownsMap_made _ _ _ _, by omega, fun _ _ => rfl, fun _ _ _ => rfl, rfl⟩, List.Pairwise.nil⟩
abbrev zHv : Value := .agg #[.bool false, .int .i64 0]
theorem zeroH (w : World) : (zeroValue 141).run Tryz.prog w = .ok zHv w := by kernel_rfl
theorem MapP.look {w : World} {M : Nat} {es : List (ByteArray × Value)} (h : MapP w M es) {s : ByteArray} (hs : okP s) : (Instr.lookup 161 (.map (some M)) (.string s) false).run Tryz.prog w = .ok ((lookP es s).getD zHv) w := by
 obtain ⟨⟨D, n, ho, _, _, hat, _⟩, _⟩ := h
 obtain ⟨v, ps, hrun, hv⟩ := ho.lookup lawP9 Tryz.underlying161 (zeroH w) (zd := .held zHv) (zp := []) rfl (keyP hs)
 rw [hat s _ hs] at hv
 unfold rawP at hv
 have : v = (lookP es s).getD zHv := by
  have := Option.some.inj hv
  have := congrArg Prod.fst this
  exact DataW.held.inj this
 rw [hrun, this]
theorem MapP.put {w : World} {M : Nat} {es : List (ByteArray × Value)} (h : MapP w M es) {s : ByteArray} (hs : okP s) (hn : s ∉ es.map (·.1)) (hl : es.length < 150000) (v : Value) :
    ∃ w', (Instr.mapUpdate 161 (.map (some M)) (.string s) v).run Tryz.prog w = .ok () w' ∧ MapP w' M (es ++ [(s, v)]) ∧ w.grownBy w' (some M) := by
 obtain ⟨⟨D, n, ho, hn1, hh, hat, hsz⟩, ha⟩ := h
 have ho' := ho
 obtain ⟨ms, clock, hb, F, hms, hD⟩ := ho'
 have hml : ms.size = Maps.size D := by
  rw [hD]
  simp [Maps.size, length_sorted]
 have ho2 : w.ownsMap Tryz.prog 9 rawP M es.length D := ⟨ms, clock, hb, F, by omega, hD⟩
 obtain ⟨w', hrun, ho3, hg⟩ := ho2.update lawP9 Tryz.underlying161 (by unfold maxLen; omega) (keyP hs) (d := .held v) (ps := []) rfl
 have hm := ho2.isMap
 have hns := lookP_none.2 hn
 refine ⟨w', hrun, ⟨⟨D.put (klP s) (.held v), es.length + 1, ho3, by omega, fun x hx => ?_, fun x z hx => ?_, ?_⟩, ?_⟩, hg⟩
 · rw [lookP_snoc hn]
   by_cases e : x = s
   · subst e
     rw [has_put_same hm (show WideAt.IsKeyLit (klP x) from trivial), if_pos rfl]; rfl
   · rw [has_put_other (fun h' => e (klP_inj h')), hh x hx, if_neg (fun h' => e (dataP_inj h').symm)]
 · rw [lookP_snoc hn]
   by_cases e : x = s
   · subst e
     rw [atKey_put_same hm (show WideAt.IsKeyLit (klP x) from trivial), if_pos rfl]; rfl
   · rw [atKey_put_other (fun h' => e (klP_inj h')), hat x z hx, if_neg (fun h' => e (dataP_inj h').symm)]
 · rw [size_put (ho2.tidy lawP9), hh s hs, hns, hsz]
   simp
 · rw [List.map_append, List.pairwise_append]
   refine ⟨ha, by simp, fun a ha' b hb' e => ?_⟩
   simp at hb'
   subst hb'
   exact hn (e ▸ ha')
def heldV : Option Int → Value
 | none => .agg #[.bool false, .int .i64 0]
 | some x => .agg #[.bool true, .int .i64 x]
def MapN (w : World) (M : Nat) (l : Nms) : Prop := ∃ es, MapP w M es ∧ es.length ≤ l.length ∧ ∀ s, (lookP es s).getD zHv = heldV (fnd l s) ∧ (lookP es s).isSome = (fnd l s).isSome
theorem MapN.made (w : World) : MapN (w.alloc (.map #[] 0)) w.heap.size [] := ⟨[], MapP.made w, Nat.le_refl _, fun _ => ⟨rfl, rfl⟩⟩
theorem MapN.same {w w' : World} {M : Nat} {l : Nms} (h : MapN w M l) (e : w'.heap[M]? = w.heap[M]?) : MapN w' M l := by
 obtain ⟨es, ⟨⟨D, n, ⟨ms, clock, hb, r1⟩, r2⟩, r3⟩, r4⟩ := h
 exact ⟨es, ⟨⟨D, n, ⟨ms, clock, e.trans hb, r1⟩, r2⟩, r3⟩, r4⟩
theorem MapN.lt {w : World} {M : Nat} {l : Nms} (h : MapN w M l) : M < w.heap.size := by
 obtain ⟨es, h, _⟩ := h
 exact h.lt
theorem MapN.walk {w : World} {M : Nat} {l : Nms} (h : MapN w M l) : ∃ o, w.heap[M]? = some o ∧ o.isWalk = true ∧ o.isCells = false := by
 obtain ⟨es, ⟨⟨D, n, ⟨ms, clock, hb, r1⟩, r2⟩, r3⟩, r4⟩ := h
 exact ⟨_, hb, rfl, rfl⟩
theorem MapN.look {w : World} {M : Nat} {l : Nms} (h : MapN w M l) {s : ByteArray} (hs : okP s) : (Instr.lookup 161 (.map (some M)) (.string s) false).run Tryz.prog w = .ok (heldV (fnd l s)) w := by
 obtain ⟨es, h, _, hl⟩ := h
 rw [h.look hs, (hl s).1]
theorem fnd_snoc_old {l : Nms} {s : ByteArray} {x y : Int} (h : fnd l s = some y) (t : ByteArray) : fnd (l ++ [(s, x)]) t = fnd l t := by
 rw [fnd_append]
 cases e : fnd l t with
 | some z => rfl
 | none =>
  simp only [fnd]
  by_cases e2 : (s.toList == t.toList) = true
  · rw [bytes_eq.1 e2, e] at h; cases h
  · rw [if_neg e2]
theorem fnd_snoc_new {l : Nms} {s : ByteArray} {x : Int} (h : fnd l s = none) (t : ByteArray) : fnd (l ++ [(s, x)]) t = if s.toList == t.toList then some x else fnd l t := by
 rw [fnd_append]
 by_cases e2 : (s.toList == t.toList) = true
 · rw [if_pos e2, ← bytes_eq.1 e2, h]
   simp [fnd]
 · rw [if_neg e2]
   cases e : fnd l t with
   | some z => rfl
   | none => simp only [fnd]; rw [if_neg e2]
theorem MapN.old {w : World} {M : Nat} {l : Nms} (h : MapN w M l) {s : ByteArray} {x y : Int} (hf : fnd l s = some y) : MapN w M (l ++ [(s, x)]) := by
 obtain ⟨es, hm, hl, hq⟩ := h
 exact ⟨es, hm, by simp; omega, fun t => by rw [fnd_snoc_old hf]; exact hq t⟩
theorem MapN.put {w : World} {M : Nat} {l : Nms} (h : MapN w M l) {s : ByteArray} (hs : okP s) {x : Int} (hf : fnd l s = none) (hl : l.length < 150000) :
    ∃ w', (Instr.mapUpdate 161 (.map (some M)) (.string s) (.agg #[.bool true, .int .i64 x])).run Tryz.prog w = .ok () w' ∧ MapN w' M (l ++ [(s, x)]) ∧ w.grownBy w' (some M) := by
 obtain ⟨es, hm, hle, hq⟩ := h
 have hn : lookP es s = none := by
  have := (hq s).2
  rw [hf] at this
  cases e : lookP es s with
  | none => rfl
  | some v => rw [e] at this; cases this
 obtain ⟨w', hr, hm', hg⟩ := hm.put hs (lookP_none.1 hn) (by omega) (.agg #[.bool true, .int .i64 x])
 refine ⟨w', hr, ⟨_, hm', by simp; omega, fun t => ?_⟩, hg⟩
 rw [fnd_snoc_new hf, lookP_snoc (lookP_none.1 hn)]
 by_cases e : s = t
 · subst e
   simp [heldV]
 · rw [if_neg (fun h => e (dataP_inj h)), if_neg (fun h => e (bytes_eq.1 h))]
   exact hq t
theorem runP_makeMap_room {t k e : TypeId} (ht : Tryz.prog.underlying t = some (.map k e)) (n : Int) (w : World) : (Instr.makeMap t (some (.int .i64 n))).run Tryz.prog w = .ok (.map (some w.heap.size)) (w.alloc (.map #[] 0)) := by
 simp [Instr.makeMap, run_underlying ht, asInt, asIntOf, Result.andThen]
theorem okP_of {s : ByteArray} (h : s.size ≤ 1000000000) : okP s := by unfold okP maxLen; omega
theorem field_has (a b : Value) (w : World) : (Instr.field 141 (.agg #[a, b]) 0).run Tryz.prog w = .ok a w := by kernel_rfl
theorem byName_any {O : Nat → Prop} {w : World} {p : Option Addr} {c : Nat} {l : Nms} (h : RdN O w p c l) (hO : ∀ k, O k → k < w.heap.size) (hz : SzN l) :
    Calls Tryz.prog 151 #[.slice p l.length c] w fun e w' => (∃ M, e = .returned (.map (some M)) ∧ w.heap.size ≤ M ∧ MapN w' M l) ∧ Below w.heap.size w w' := by
 obtain ⟨n, hn⟩ : ∃ n, l.length = n := ⟨_, rfl⟩
 have HN : Hid (l.length = n) := hn
 have hz1 := hz.1
 have hc := h.1.1
 rw [hn] at hz1 hc ⊢
 clear hn
 have hmm := runP_makeMap_room Tryz.underlying161
 go_enter Tryz.func151, Tryz.ntmps151
 go_wp2
 go_loopw [11] (fun i wr => ∃ k : Nat, i = .int .i64 k ∧ k ≤ n ∧ MapN wr w.heap.size (l.take k) ∧ Below w.heap.size w wr) (fun i _ => n - (intOf i).toNat)
 case atStart => exact ⟨0, rfl, Nat.zero_le _, MapN.made w, (Below.refl _ _).alloc (Nat.le_refl _) _⟩
 case round =>
  clear hmm
  obtain ⟨k, rfl, hk, hm, hbr⟩ := hrel
  by_cases hkn : k < n
  · have hkl : k < l.length := by rw [HN.out]; exact hkn
    obtain ⟨b, o, rfl, hb, h1, h2⟩ := h.at hkl
    have h1' := (hbr.cell (p := ⟨b, o + k * 2, none⟩) (hO b hb)).trans h1
    have h2' := (hbr.cell (p := ⟨b, o + k * 2 + 1, none⟩) (hO b hb)).trans h2
    have hbs := hbr.size
    have hbl := hO b hb
    have hok := okP_of (hz.at hkl)
    have HT : Hid (l.take (k + 1) = l.take k ++ [l.getD k zN]) := takeP_one hkl
    have HTL : Hid ((l.take k).length = k) := by show _ = _; rw [List.length_take]; omega
    generalize l.getD k zN = x at h1' h2' HT hok
    obtain ⟨xn, xl⟩ := x
    simp only at h1' h2' hok
    clear h1 h2
    have hma : MapN (wr.alloc (.cells #[.string xn, .int .i64 xl] 109)) w.heap.size (l.take k) := hm.same (Below.heap_alloc _ _ _ hm.lt)
    have HBA : Hid (Below w.heap.size w (wr.alloc (.cells #[.string xn, .int .i64 xl] 109))) := hbr.trans ((Below.refl _ _).alloc hbs _)
    have hlk := hma.look hok
    have hfl := field_has
    cases hf : fnd (l.take k) xn with
    | none =>
     rw [hf] at hlk
     obtain ⟨w2, hput, hm2, hg2⟩ := hma.put hok (x := xl) hf (by rw [HTL.out]; omega)
     have HM2 : Hid (MapN w2 w.heap.size (l.take (k + 1))) := by show MapN _ _ _; rw [HT.out]; exact hm2
     have HB2 : Hid (Below w.heap.size w w2) := HBA.out.grown hg2 HBA.out.size (fun q e => by cases e; exact Nat.le_refl _)
     simp only [heldV] at hlk
     clear hm2 hg2 hm hma hf
     go_wp2
     go_roundw
     case rel => exact ⟨k + 1, by simp, by omega, HM2.out, HB2.out⟩
     case measure => simp [intOf]; omega
    | some y =>
     rw [hf] at hlk
     have HM2 : Hid (MapN (wr.alloc (.cells #[.string xn, .int .i64 xl] 109)) w.heap.size (l.take (k + 1))) := by show MapN _ _ _; rw [HT.out]; exact hma.old hf
     simp only [heldV] at hlk
     clear hm hma hf
     go_wp2
     go_roundw
     case rel => exact ⟨k + 1, by simp, by omega, HM2.out, HBA.out⟩
     case measure => simp [intOf]; omega
  · obtain rfl : k = n := by omega
    have HM : Hid (MapN wr w.heap.size l) := by show MapN _ _ _; rw [← List.take_length (l := l), HN.out]; exact hm
    clear hm
    go_wp2
    go_ret
    exact ⟨⟨_, rfl, Nat.le_refl _, HM.out⟩, hbr⟩
theorem Tryz.infoNm : (Tryz.prog.info? 109).map (fun i => (i.zero, i.size, i.bytes)) = some (some (.agg #[.string ⟨#[]⟩, .int .i64 0]), 2, 24) := by kernel_rfl
theorem flatN_one : ∀ (l : Nms) (u : Value), u ∈ flatN l → u.oneCell' = true
 | [], _, h => by simp [flatN] at h
 | x :: r, u, h => by
  simp only [flatN, List.mem_cons] at h
  rcases h with rfl | rfl | h
  · rfl
  · rfl
  · exact flatN_one r u h
theorem RdN.cells {O : Nat → Prop} {w : World} {a : Addr} {c : Nat} {l : Nms} (h : RdN O w (some a) c l) : ∀ j u, (flatN l)[j]? = some u → w.cell? (a.add j) = some u := by
 intro j u hu
 by_cases hl : l = []
 · subst hl; simp [flatN] at hu
 obtain ⟨b, o, hp, _, hc⟩ := h.2 hl
 cases hp
 have hj : j < l.length * 2 := by rw [← flatN_len]; exact (List.getElem?_eq_some_iff.1 hu).1
 have hq : j / 2 < l.length := by omega
 have hx := List.getElem?_eq_getElem hq
 have hf := flatN_at l (j / 2) _ hx
 have hcc := hc (j / 2) _ hx
 rw [addP_flat]
 rcases Nat.mod_two_eq_zero_or_one j with e | e
 · rw [show j = j / 2 * 2 by omega] at hu
   rw [hf.1] at hu
   cases hu
   rw [show o + j = o + j / 2 * 2 by omega]
   exact hcc.1
 · rw [show j = j / 2 * 2 + 1 by omega] at hu
   rw [hf.2] at hu
   cases hu
   rw [show o + j = o + j / 2 * 2 + 1 by omega]
   exact hcc.2
theorem wpList_append_rdN {w : World} {ops : Array Oper} {rest : List Oper} {o : Oper} {a : Act} {Q : Exit → Act → World → Prop} (hgd : o.guard = none) (s x : Operand)
    (ho : o.op = .call { callee := .builtin .append, args := #[s, x], argTypes := #[45, 45] })
    (base : Nat) (v : Value) (L : Nms) (hs : a.eval s = v) (hown : w.ownsRow base 109 2 v L.length (flatN L)) {O : Nat → Prop} {p : Option Addr} {c : Nat} {l : Nms} (hrd : RdN O w p c l) (hx : a.eval x = .slice p l.length c)
    (hlen : L.length ≤ 100000000) (hlen2 : l.length ≤ 100000000) (hbase : base ≤ w.heap.size)
    (h : ∀ v' w', w'.ownsRow base 109 2 v' (L ++ l).length (flatN (L ++ l)) → w.grownBy w' v.ownBlock → wpList Tryz.prog ops Q rest (a.put o.dst v') w') : wpList Tryz.prog ops Q (o :: rest) a w := by
 obtain ⟨i0, hi, hz0, hz1, hz2⟩ := info_parts Tryz.infoNm
 cases p with
 | none =>
  obtain rfl : c = 0 := hrd.1.2 rfl
  have hl0 : l = [] := List.eq_nil_of_length_eq_zero (by have := hrd.1.1; omega)
  subst hl0
  refine wpList_append_own_none hgd s x 45 ho base 109 i0 2 Tryz.underlying45 hi v L.length (flatN L) hs hown hx (h v w ?_ ⟨rfl, rfl, rfl, Nat.le_refl _, fun _ _ _ => rfl⟩)
  rw [List.append_nil]; exact hown
 | some ad =>
  refine wpList_append_own w hgd s x 45 ho base 109 i0 _ 2 24 Tryz.underlying45 hi hz0 hz1 hz2 rfl (by decide) v L.length (flatN L) hs hown ad l.length c (flatN l) hx (flatN_len l) hrd.cells (flatN_one l) (by unfold maxLen; omega) (by omega) hbase ?_
  intro v' w' hown' hgrow _
  exact h v' w' (by rw [List.length_append, flatN_append]; exact hown') hgrow
theorem wpList_append_run {w w' : World} {ops : Array Oper} {rest : List Oper} {o : Oper} {a : Act} {Q : Exit → Act → World → Prop} (hgd : o.guard = none) (s x : Operand) (t u : TypeId)
    (ho : o.op = .call { callee := .builtin .append, args := #[s, x], argTypes := #[t, u] }) {vs vx v' : Value} (hs : a.eval s = vs) (hx : a.eval x = vx) (hrun : (Builtin.append_ #[t, u] o.type #[vs, vx]).run Tryz.prog w = .ok v' w')
    (h : wpList Tryz.prog ops Q rest (a.put o.dst v') w') : wpList Tryz.prog ops Q (o :: rest) a w := by
 refine wpList_plain hgd fun K hK => ?_
 unfold Oper.wp
 simp [execOp, ho, resolve, invoke, builtin, hs, hx, hrun, Result.andThen]
 exact hK _ _ h
theorem grow_any {w : World} (n : Nat) (hn : n ≤ 1000000) :
    Calls Tryz.prog 170 #[.slice none 0 0, .int .i64 n] w fun e w' => (∃ v, e = .returned v ∧ w'.ownsRow w.heap.size 109 2 v 0 []) ∧ Below w.heap.size w w' := by
 obtain ⟨i0, hi, hz0, hz1, hz2⟩ := info_parts Tryz.infoNm
 by_cases h0 : n = 0
 · subst h0
   go_enter Tryz.func170, Tryz.ntmps170
   go_wp2
   go_ret
   exact ⟨⟨_, rfl, World.ownsRow_nil _ _ _ _⟩, Below.refl _ _⟩
 · have hr := fun ty => Lib.run_append_nil_zeros (P := Tryz.prog) w 45 3 ty 109 i0 _ .i64 .i64 Tryz.underlying45 Tryz.underlying3 hi hz0 n (by omega) (by rw [hz1]; decide) (by omega) (by rw [hz2]; omega)
   have hge := grownCap_ge w n 0 109
   have hle := grownCap_le_maxLen w n 0 109 (by unfold maxLen; omega)
   have hsz1 : (Builtin.zeroCells (Value.agg #[Value.string ⟨#[]⟩, Value.int .i64 0]).cells n ++ Builtin.zeroCells (Value.agg #[Value.string ⟨#[]⟩, Value.int .i64 0]).cells (grownCap w n 0 109 - n)).size = grownCap w n 0 109 * 2 := by
    rw [Array.size_append, size_zeroCells, size_zeroCells]
    show n * 2 + (grownCap w n 0 109 - n) * 2 = _
    omega
   have HSZ := (show Hid _ from hsz1)
   clear hsz1
   generalize (Builtin.zeroCells (Value.agg #[Value.string ⟨#[]⟩, Value.int .i64 0]).cells n ++ Builtin.zeroCells (Value.agg #[Value.string ⟨#[]⟩, Value.int .i64 0]).cells (grownCap w n 0 109 - n)) = Z at hr HSZ
   generalize grownCap w n 0 109 = cap at hr hge hle HSZ
   go_enter Tryz.func170, Tryz.ntmps170
   go_wp2_with (refine wpList_append_run rfl _ _ 45 3 rfl rfl rfl (hr _) ?_)
   go_ret
   refine ⟨⟨_, rfl, rfl, .inr ⟨w.heap.size, cap, Z, rfl, Nat.le_refl _, heap_alloc_new w.drew _, Nat.zero_le _, hle, HSZ.out, by simp⟩⟩, ⟨rfl, rfl, rfl, by simp, fun k hk => Below.heap_alloc w.drew _ k hk⟩⟩
theorem concat_any {O : Nat → Prop} {w : World} {p q : Option Addr} {c d g : Nat} {a b : Nms} (ha : RdN O w p c a) (hb : RdN O w q d b) (hO : ∀ k, O k → k < w.heap.size) (hza : SzN a) (hzb : SzN b)
    (h0 : w.cell? ⟨g, 0, none⟩ = some (.slice p a.length c)) (h1 : w.cell? ⟨g, 1, none⟩ = some (.slice q b.length d)) (hg : g < w.heap.size) :
    Calls Tryz.prog 152 #[.slice (some ⟨g, 0, none⟩) 2 2] w fun e w' => (∃ v, e = .returned v ∧ w'.ownsRow w.heap.size 109 2 v (a ++ b).length (flatN (a ++ b))) ∧ Below w.heap.size w w' := by
 obtain ⟨na, hna⟩ : ∃ n, a.length = n := ⟨_, rfl⟩
 obtain ⟨nb, hnb⟩ : ∃ n, b.length = n := ⟨_, rfl⟩
 have HNA : Hid (a.length = na) := hna
 have HNB : Hid (b.length = nb) := hnb
 have hza1 := hza.1
 have hzb1 := hzb.1
 rw [hna] at h0 hza1
 rw [hnb] at h1 hzb1
 clear hna hnb
 go_enter Tryz.func152, Tryz.ntmps152
 go_wp2
 go_loopw [3, 11] (fun s i wr => wr = w ∧ ((s = .int .i64 0 ∧ i = .int .i64 0) ∨ (s = .int .i64 na ∧ i = .int .i64 1) ∨ (s = .int .i64 ((na + nb : Nat) : Int) ∧ i = .int .i64 2))) (fun _ i _ => 2 - (intOf i).toNat)
 case atStart => exact ⟨rfl, .inl ⟨rfl, rfl⟩⟩
 case round =>
  obtain ⟨hwr, ⟨rfl, rfl⟩ | ⟨rfl, rfl⟩ | ⟨rfl, rfl⟩⟩ := hrel
  all_goals (rw [hwr]; clear hwr wr)
  · go_wp2
    go_roundw
    case rel => exact ⟨trivial, .inr (.inl ⟨by simp, rfl⟩)⟩
    case measure => simp [intOf]
  · go_wp2
    go_roundw
    case rel => exact ⟨trivial, .inr (.inr ⟨by simp, rfl⟩)⟩
    case measure => simp [intOf]
  · have hG := grow_any (w := w) (na + nb) (by omega)
    go_wp2_with (go_at_call 170; refine hG.mono ?_; rintro e w1 ⟨⟨v0, rfl, hown0⟩, hb1⟩)
    have HC0 : Hid (w.cell? ⟨g, 0, none⟩ = some (.slice p na c)) := h0
    have HC1 : Hid (w.cell? ⟨g, 1, none⟩ = some (.slice q nb d)) := h1
    have HA : Hid (RdN O w p c a) := ha
    have HB : Hid (RdN O w q d b) := hb
    clear hG h0 h1 ha hb
    go_loopw [6, 27] (fun v i wx => (∃ k : Nat, i = .int .i64 k ∧ ((k = 0 ∧ wx.ownsRow w.heap.size 109 2 v ([] : Nms).length (flatN [])) ∨ (k = 1 ∧ wx.ownsRow w.heap.size 109 2 v a.length (flatN a)) ∨ (k = 2 ∧ wx.ownsRow w.heap.size 109 2 v (a ++ b).length (flatN (a ++ b))))) ∧ Below w.heap.size w wx) (fun _ i _ => 2 - (intOf i).toNat)
    case atStart => exact ⟨⟨0, rfl, .inl ⟨rfl, hown0⟩⟩, hb1⟩
    case round =>
     obtain ⟨⟨k, rfl, hk⟩, hbr⟩ := hrel
     have h0r := (hbr.cell (p := ⟨g, 0, none⟩) hg).trans HC0.out
     have h1r := (hbr.cell (p := ⟨g, 1, none⟩) hg).trans HC1.out
     have hsr := hbr.size
     rcases hk with ⟨rfl, hown⟩ | ⟨rfl, hown⟩ | ⟨rfl, hown⟩
     · have hrd := HA.out.below hO hbr
       have hx := HNA.out
       go_wp2_with (refine wpList_append_rdN rfl _ _ rfl w.heap.size _ [] rfl hown hrd (by rw [HNA.out]; rfl) (by simp) (by rw [HNA.out]; omega) hsr ?_; intro v2 w2 hown2 hg2)
       go_roundw
       case rel => exact ⟨⟨1, rfl, .inr (.inl ⟨rfl, hown2⟩)⟩, hbr.grown hg2 hsr (fun k e => (hown.lt k e).1)⟩
       case measure => simp [intOf]
     · have hrd := HB.out.below hO hbr
       go_wp2_with (refine wpList_append_rdN rfl _ _ rfl w.heap.size _ a rfl hown hrd (by rw [HNB.out]; rfl) (by rw [HNA.out]; omega) (by rw [HNB.out]; omega) hsr ?_; intro v2 w2 hown2 hg2)
       go_roundw
       case rel => exact ⟨⟨2, rfl, .inr (.inr ⟨rfl, hown2⟩)⟩, hbr.grown hg2 hsr (fun k e => (hown.lt k e).1)⟩
       case measure => simp [intOf]
     · go_wp2
       go_ret
       exact ⟨⟨_, rfl, hown⟩, hbr⟩
end Go.Proofs.YtldegjjaknelgaaGreatDoor
namespace Go.Proofs.YtldegjjaknelgaaGreatDoor
open Go.RowKit Go.Maps Go.Shelf
section
attribute [local go_sem] Oper.semAt_some
structure Lay (W W' : World) : Prop where
 size : W.heap.size ≤ W'.heap.size
 same : ∀ (k : Nat) (o : Obj), W.heap[k]? = some o → (o.isCells = true ∨ o.isWalk = true) → W'.heap[k]? = some o
theorem Lay.refl (W : World) : Lay W W := ⟨Nat.le_refl _, fun _ _ h _ => h⟩
theorem Lay.trans {A B C : World} (h : Lay A B) (k : Lay B C) : Lay A C := ⟨Nat.le_trans h.size k.size, fun i o hi ho => k.same i o (h.same i o hi ho) ho⟩
theorem Lay.putObj (W : World) (l : Nat) (o o' : Obj) (h : W.heap[l]? = some o) (hc : o.isCells = false) (hw : o.isWalk = false) : Lay W (W.putObj l o') := by
 have hg := grownBy_putObj' W l o'
 refine ⟨hg.size, fun k x hk hx => ?_⟩
 by_cases e : k = l
 · subst e
   rw [hk] at h
   cases h
   rcases hx with hx | hx
   · rw [hc] at hx; cases hx
   · rw [hw] at hx; cases hx
 · exact (hg.block k (Array.getElem?_eq_some_iff.1 hk).1 (fun h => e (Option.some.inj h))).trans hk
theorem Lay.of_below {W W' : World} (h : Below W.heap.size W W') : Lay W W' := ⟨h.size, fun k _ hk _ => (h.block k (Array.getElem?_eq_some_iff.1 hk).1).trans hk⟩
theorem Lay.map {W W' : World} {M : Nat} {l : Nms} (h : MapN W M l) (k : Lay W W') : MapN W' M l := by
 obtain ⟨o, ho, hw, _⟩ := h.walk
 exact h.same ((k.same M o ho (.inr hw)).trans ho.symm)
theorem Lay.rdN {W W' : World} {O : Nat → Prop} {p : Option Addr} {c : Nat} {l : Nms} (h : RdN O W p c l) (k : Lay W W') : RdN O W' p c l := by
 refine ⟨h.1, fun hn => ?_⟩
 obtain ⟨b, o, hp, hb, hc⟩ := h.2 hn
 have key : ∀ j v, W.cell? ⟨b, j, none⟩ = some v → W'.cell? ⟨b, j, none⟩ = some v := fun j v hv => by
  cases e : W.heap[b]? with
  | none => simp [World.cell?, e] at hv
  | some ob =>
   cases ob with
   | cells cs t fr => rw [← hv]; exact World.cell?_of_block ((k.same b _ e (.inl rfl)).trans e.symm)
   | _ => simp [World.cell?, e] at hv
 exact ⟨b, o, hp, hb, fun j x hj => ⟨key _ _ (hc j x hj).1, key _ _ (hc j x hj).2⟩⟩
theorem own_rdN {w : World} {B : Nat} {v : Value} {l : Nms} (h : w.ownsRow B 109 2 v l.length (flatN l)) : ∃ p c, v = .slice p l.length c ∧ RdN (fun k => B ≤ k ∧ k < w.heap.size) w p c l := by
 rcases h.2 with ⟨rfl, hn⟩ | ⟨g, cap, cur, rfl, hb, hg, hnc, _, hcs, ht⟩
 · obtain rfl : l = [] := List.eq_nil_of_length_eq_zero hn
   exact ⟨none, 0, rfl, RdN.nil _ _ _ _ fun _ => rfl⟩
 · refine ⟨some ⟨g, 0, none⟩, cap, rfl, rdN_of (cur := cur.toList) ⟨hb, objP_lt hg⟩ (by simpa using hg) hnc fun j hj => ?_⟩
   rw [← ht, List.getElem?_take, Nat.zero_add]
   rw [if_pos (by rw [flatN_len] at hj; exact hj)]
theorem fieldsHeld : Tryz.prog.underlying 141 = some (.struct (Tryz.prog.fieldsOf 141)) := by kernel_rfl
theorem stoodHeld : Tryz.prog.stoodInHeld 141 = false := by kernel_rfl
theorem fieldsH : (Tryz.prog.fieldsOf 141).toList = [{ name := "has", type := 4, offset := 0, embedded := false, tag := "", pkgPath := "agora/power", byteOffset := 0 }, { name := "level", type := 2, offset := 1, embedded := false, tag := "", pkgPath := "agora/power", byteOffset := 8 }] := by kernel_rfl
theorem held_neq (w : World) (x y : Option Int) : (binOp .neq 141 (.agg #[.bool x.isSome, .int .i64 (x.getD 0)]) (.agg #[.bool y.isSome, .int .i64 (y.getD 0)])).run Tryz.prog w = .ok (.bool (!(x == y))) w := by
 have h4 : Tryz.prog.underlying 4 = some .bool := by kernel_rfl
 have h2 : Tryz.prog.underlying 2 = some (.int .i64) := by kernel_rfl
 rw [run_neq_struct, run_equalIn_agg w 9999 141 _ _ fieldsHeld stoodHeld, fieldsH]
 have p0 : ∀ W (b : Bool) (m : Int), (part 4 #[.bool b, .int .i64 m] 0).run Tryz.prog W = .ok (.bool b) W := fun W b m => by simp [go_sem, part]
 have p1 : ∀ W (b : Bool) (m : Int), (part 2 #[.bool b, .int .i64 m] 1).run Tryz.prog W = .ok (.int .i64 m) W := fun W b m => by simp [go_sem, part]
 have e0 : ∀ (W : World) (a b : Bool), (Op.equalIn 9999 4 (.bool a) (.bool b)).run Tryz.prog W = .ok (a == b) W := fun W a b => run_equalIn_bool' W 9998 4 a b h4
 have e1 : ∀ (W : World) (a b : Int), (Op.equalIn 9999 2 (.int .i64 a) (.int .i64 b)).run Tryz.prog W = .ok (a == b) W := fun W a b => run_equalIn_int W 9998 2 .i64 .i64 a b h2
 cases x with
 | none =>
  cases y with
  | none => simp [Op.eqFields, p0, p1, e0, e1, Result.andThen]
  | some y => simp [Op.eqFields, p0, e0, Result.andThen]
 | some x =>
  cases y with
  | none => simp [Op.eqFields, p0, e0, Result.andThen]
  | some y => by_cases h : x = y <;> simp [Op.eqFields, p0, p1, e0, e1, Result.andThen, h]
theorem heldV_eq (x : Option Int) : heldV x = .agg #[.bool x.isSome, .int .i64 (x.getD 0)] := by cases x <;> rfl
theorem below_grownP {w w' : World} (h : Below w.heap.size w w') : w.grownBy w' none := ⟨h.os, h.tape, h.output, h.size, fun k hk _ => h.block k hk⟩
theorem chs_pre {α : Type} (f : α → Chg) : ∀ (l : List α) (k : Nat), ((l.take k).map f).filter Chg.turns <+: (l.map f).filter Chg.turns
 | l, k => by
  conv => rhs; rw [← List.take_append_drop k l, List.map_append, List.filter_append]
  exact List.prefix_append _ _
theorem changes_fn {w : World} (p q : Option Addr) (n c m d : Nat) :
    Calls Tryz.prog 124 #[.slice p n c, .slice q m d] w fun e w' => e = .returned (.func (.func 150) #[] #[.pointer (some ⟨w.heap.size, 0, none⟩), .pointer (some ⟨w.heap.size + 1, 0, none⟩)]) ∧ w' = (w.alloc (.cells #[.slice p n c] 45)).alloc (.cells #[.slice q m d] 45) := by
 go_enter Tryz.func124, Tryz.ntmps124
 go_wp2
 go_ret
 exact ⟨rfl, rfl⟩
theorem changes_in (n l B1 B2 : Nat) (hn : 1 ≤ n) {O : Nat → Prop} {a b : Nms} {p q : Option Addr} {c d : Nat} (J Jx : List Chg → World → Prop) (W : World) (hJ : AbidesFrom W.heap.size J)
    (ha : RdN O W p c a) (hb : RdN O W q d b) (hO : ∀ k, O k → k < W.heap.size) (hza : SzN a) (hzb : SzN b)
    (h1 : W.cell? ⟨B1, 0, none⟩ = some (.slice p a.length c)) (h2 : W.cell? ⟨B2, 0, none⟩ = some (.slice q b.length d)) (hB1 : B1 < W.heap.size) (hB2 : B2 < W.heap.size)
    (hY : ∀ pre x W1, J pre W1 → pre.length < (a ++ b).length → YieldAt Fence.wide (n - 1) Tryz.prog l #[valC x] W1 fun e W' => (e = .returned (.bool true) ∧ J (pre ++ [x]) W' ∧ Lay W1 W') ∨ (e = .returned (.bool false) ∧ Jx (pre ++ [x]) W'))
    (h0 : J [] W) :
    CallsIn Fence.wide n Tryz.prog 150 #[.func (.yield l) #[] #[], .pointer (some ⟨B1, 0, none⟩), .pointer (some ⟨B2, 0, none⟩)] W fun e W' => (∃ v, e = .returned v) ∧ ((∃ xs, xs = chs a b (a ++ b) ∧ J xs W') ∨ (∃ pre, pre <+: chs a b (a ++ b) ∧ Jx pre W')) := by
 refine callsIn_wide.2 ?_
 have HB1 : Hid (∀ X, Below W.heap.size W X → Calls Tryz.prog 151 #[.slice p a.length c] X fun e w' => (∃ M, e = .returned (.map (some M)) ∧ X.heap.size ≤ M ∧ MapN w' M a) ∧ Below X.heap.size X w') := fun X hX => byName_any (ha.below hO hX) (fun k hk => Nat.lt_of_lt_of_le (hO k hk) hX.size) hza
 have HB2 : Hid (∀ X, Below W.heap.size W X → Calls Tryz.prog 151 #[.slice q b.length d] X fun e w' => (∃ M, e = .returned (.map (some M)) ∧ X.heap.size ≤ M ∧ MapN w' M b) ∧ Below X.heap.size X w') := fun X hX => byName_any (hb.below hO hX) (fun k hk => Nat.lt_of_lt_of_le (hO k hk) hX.size) hzb
 have HCC : Hid (∀ X, Below W.heap.size W X → X.cell? ⟨B1, 0, none⟩ = some (.slice p a.length c) ∧ X.cell? ⟨B2, 0, none⟩ = some (.slice q b.length d)) := fun X hX => ⟨(hX.cell (p := ⟨B1, 0, none⟩) hB1).trans h1, (hX.cell (p := ⟨B2, 0, none⟩) hB2).trans h2⟩
 have HCo : Hid (∀ X g, Below W.heap.size W X → X.heap[g]? = some (.cells #[.slice p a.length c, .slice q b.length d] 45 (0, 0)) → Calls Tryz.prog 152 #[.slice (some ⟨g, 0, none⟩) 2 2] X fun e w' => (∃ v, e = .returned v ∧ w'.ownsRow X.heap.size 109 2 v (a ++ b).length (flatN (a ++ b))) ∧ Below X.heap.size X w') := fun X g hX hg =>
  concat_any (ha.below hO hX) (hb.below hO hX) (fun k hk => Nat.lt_of_lt_of_le (hO k hk) hX.size) hza hzb (cellP hg 0 _ rfl) (cellP hg 1 _ rfl) (objP_lt hg)
 obtain ⟨na, hna⟩ : ∃ n, a.length = n := ⟨_, rfl⟩
 obtain ⟨nb, hnb⟩ : ∃ n, b.length = n := ⟨_, rfl⟩
 rw [hna] at HB1 HCC HCo
 rw [hnb] at HB2 HCC HCo
 have HNA : Hid (a.length = na) := hna
 have HNB : Hid (b.length = nb) := hnb
 have HAB : Hid (SzN a ∧ SzN b) := ⟨hza, hzb⟩
 have HJ0 : Hid (J [] W) := h0
 have HJ : Hid (AbidesFrom W.heap.size J) := hJ
 have HY : Hid (∀ pre x W1, J pre W1 → pre.length < (a ++ b).length → YieldAt Fence.wide (n - 1) Tryz.prog l #[valC x] W1 fun e W' => (e = .returned (.bool true) ∧ J (pre ++ [x]) W' ∧ Lay W1 W') ∨ (e = .returned (.bool false) ∧ Jx (pre ++ [x]) W')) := hY
 clear hna hnb ha hb hza hzb h1 h2 h0 hJ hY
 obtain ⟨ab, hab⟩ : ∃ ab, a ++ b = ab := ⟨_, rfl⟩
 have HZ : Hid (SzN a ∧ SzN b) := HAB
 have HL : Hid (ab.length = na + nb ∧ na ≤ 100000 ∧ nb ≤ 100000) := ⟨by rw [← hab, List.length_append, HNA.out, HNB.out], by have := HZ.out.1.1; have := HNA.out; omega, by have := HZ.out.2.1; have := HNB.out; omega⟩
 have HOK : Hid (∀ k, k < ab.length → okP (ab.getD k zN).1) := fun k hk => by
  apply okP_of
  rw [List.getD_eq_getElem?_getD, List.getElem?_eq_getElem hk]
  have : ab[k] ∈ a ++ b := by rw [hab]; exact List.getElem_mem hk
  rcases List.mem_append.1 this with h | h
  · exact HZ.out.1.2 _ h
  · exact HZ.out.2.2 _ h
 rw [hab] at HCo HY ⊢
 clear hab
 go_enter Tryz.func150, Tryz.ntmps150
 go_upto_region 0 with fail
 refine wp_region_in (by kernel_rfl) (fun w' => Below W.heap.size W w') ?_
 change wpIn _ _ _ _ _ _ _ _ (World.drew _)
 have hD : Below W.heap.size W W.drew := (Below.refl _ _).drew
 refine wpIn_tp (i := 0) (d := some 9) rfl (by (intro wq hq; obtain ⟨z1, z2⟩ := HCC.out wq hq; go_simp; first | done | with_reducible rfl)) ?_
 refine wpIn_tp (i := 2) (d := some 11) rfl (by (intro wq hq; obtain ⟨z1, z2⟩ := HCC.out wq hq; go_simp; first | done | with_reducible rfl)) ?_
 refine wpIn_do (i := 1) hD (by kernel_rfl) rfl (by rfl) ?_
 intro K hK
 go_simp
 go_wp2_with (go_at_call 151; refine (HB1.out _ hD).mono ?_; rintro e w1 ⟨⟨M, rfl, hM0, hM⟩, hb1⟩)
 have hD1 : Below W.heap.size W w1 := belowP hD hb1
 refine wpIn_do (i := 3) hD1 (by kernel_rfl) rfl (by rfl) ?_
 intro K hK
 go_simp
 go_wp2_with (go_at_call 151; refine (HB2.out _ hD1).mono ?_; rintro e w2 ⟨⟨N, rfl, hN0, hN⟩, hb2⟩)
 have hD2 : Below W.heap.size W w2 := belowP hD1 hb2
 refine wpIn_tk (i := 4) (d := some 4) rfl ?_
 refine wpIn_tk (i := 5) (d := some 5) rfl ?_
 refine wpIn_done hD2 (by kernel_rfl) ?_ _
 obtain ⟨z1, z2⟩ := HCC.out w2 hD2
 have hbA : Below W.heap.size W (w2.alloc (.cells #[.slice p na c, .slice q nb d] 45)) := belowP hD2 ((Below.refl _ _).alloc (Nat.le_refl _) _)
 have hCo := HCo.out _ w2.heap.size hbA (newP _)
 have HM : Hid (MapN w2 M a) := hM.same (hb2.block M hM.lt)
 have HN : Hid (MapN w2 N b) := hN
 clear hb1 hb2 hM hN HB1 HB2 HCC HCo
 obtain ⟨n', hn'⟩ : ∃ m, ab.length = m := ⟨_, rfl⟩
 have HN' : Hid (ab.length = n') := hn'
 have hnb : n' ≤ 200000 := by have := HL.out; omega
 rw [hn'] at hCo
 clear hn'
 go_wp2_with (go_at_call 152; refine hCo.mono ?_; rintro e w3 ⟨⟨v, rfl, hown⟩, hb3⟩; rw [← HN'.out] at hown; obtain ⟨pr, cr, rfl, hrd⟩ := own_rdN hown; rw [HN'.out])
 have hD3 : Below W.heap.size W w3 := belowP hbA hb3
 have HM3 : Hid (MapN w3 M a) := (HM.out.same (Below.heap_alloc _ _ _ HM.out.lt)).same (hb3.block M (by have := HM.out.lt; simp; omega))
 have HN3 : Hid (MapN w3 N b) := (HN.out.same (Below.heap_alloc _ _ _ HN.out.lt)).same (hb3.block N (by have := HN.out.lt; simp; omega))
 have HR3 : Hid (RdN (fun k => (w2.alloc (.cells #[.slice p na c, .slice q nb d] 45)).heap.size ≤ k ∧ k < w3.heap.size) w3 pr cr ab) := hrd
 have hc3 := hrd.1.1
 rw [HN'.out] at hc3
 clear hrd hown z1 z2 hCo hD hD1 hD2 HM HN
 go_loopw [18] (fun i wr => ∃ k : Nat, i = .int .i64 k ∧ k ≤ n' ∧ J (chs a b (ab.take k)) wr ∧ Lay w3 wr) (fun i _ => n' - (intOf i).toNat)
 case atStart => exact ⟨0, rfl, Nat.zero_le _, HJ.out [] W w3 none HJ0.out (below_grownP hD3) (fun r e => by cases e), Lay.refl _⟩
 case round =>
  obtain ⟨k, rfl, hk, hj, hly⟩ := hrel
  by_cases hkn : k < n'
  · have hkl : k < ab.length := by rw [HN'.out]; exact hkn
    obtain ⟨rb, ro, rfl, _, g1, g2⟩ := (Lay.rdN HR3.out hly).at hkl
    have hok := HOK.out k hkl
    have HT : Hid (ab.take (k + 1) = ab.take k ++ [ab.getD k zN]) := takeP_one hkl
    generalize ab.getD k zN = x at g1 g2 HT hok
    obtain ⟨xn, xl⟩ := x
    simp only at g1 g2 hok
    have hlk1 := ((Lay.map HM3.out hly).same (w' := wr.alloc (.cells #[.string xn, .int .i64 xl] 109)) (Below.heap_alloc _ _ _ (Lay.map HM3.out hly).lt)).look hok
    have hlk2 := ((Lay.map HN3.out hly).same (w' := wr.alloc (.cells #[.string xn, .int .i64 xl] 109)) (Below.heap_alloc _ _ _ (Lay.map HN3.out hly).lt)).look hok
    rw [heldV_eq] at hlk1 hlk2
    have HCH : Hid (chs a b (ab.take (k + 1)) = if (Chg.turns ⟨xn, fnd a xn, fnd b xn⟩) = true then chs a b (ab.take k) ++ [⟨xn, fnd a xn, fnd b xn⟩] else chs a b (ab.take k)) := by show _ = _; rw [HT.out, chs_snoc]; rfl
    have HPR : Hid (chs a b (ab.take (k + 1)) <+: chs a b ab) := chs_pre _ _ _
    have HLN : Hid ((chs a b (ab.take k)).length < ab.length) := by
     show _ < _
     have := chs_len a b (ab.take k)
     rw [List.length_take] at this
     omega
    generalize fnd a xn = oa at hlk1 HCH
    generalize fnd b xn = ob at hlk2 HCH
    have hneq := held_neq
    have hbW : Below wr.heap.size wr ((wr.alloc (.cells #[.string xn, .int .i64 xl] 109)).alloc (.cells #[.string xn, .bool oa.isSome, .int .i64 (oa.getD 0), .bool ob.isSome, .int .i64 (ob.getD 0)] 143)) := ((Below.refl _ _).alloc (Nat.le_refl _) _).alloc (by simp) _
    have hj5 := HJ.out _ _ _ none hj (below_grownP hbW) (fun r e => by cases e)
    cases ht : (!(oa == ob)) with
    | true =>
     have HC1 : Hid (chs a b (ab.take (k + 1)) = chs a b (ab.take k) ++ [⟨xn, oa, ob⟩]) := by show _ = _; rw [HCH.out, if_pos (show Chg.turns ⟨xn, oa, ob⟩ = true from ht)]
     obtain ⟨fn, tm, asg, bod, hy, hR⟩ := HY.out _ ⟨xn, oa, ob⟩ _ hj5 HLN.out
     simp only [valC, cellsC] at hy
     refine (wpIn_wide (n := n)).1 ?_
     gi_wp2
     refine hR.mono ?_
     rintro e W6 (⟨rfl, hJ6, hk6⟩ | ⟨rfl, hJx6⟩)
     · gi_wp2
       go_roundw
       case rel => exact ⟨k + 1, by simp, by omega, by rw [HC1.out]; exact hJ6, (hly.trans (Lay.of_below hbW)).trans hk6⟩
       case measure => simp [intOf]; omega
     · gi_wp2
       refine bodyPost_ret (results_none rfl _ _ _) rfl ?_
       exact ⟨⟨_, rfl⟩, .inr ⟨_, HPR.out, by rw [HC1.out]; exact hJx6⟩⟩
    | false =>
     have HC1 : Hid (chs a b (ab.take (k + 1)) = chs a b (ab.take k)) := by show _ = _; rw [HCH.out, if_neg (by unfold Chg.turns; rw [ht]; decide)]
     go_wp2
     go_roundw
     case rel => exact ⟨k + 1, by simp, by omega, by rw [HC1.out]; exact hj5, hly.trans (Lay.of_below hbW)⟩
     case measure => simp [intOf]; omega
  · obtain rfl : k = n' := by omega
    have HJE : Hid (J (chs a b ab) wr) := by show J _ _; rw [← List.take_length (l := ab), HN'.out]; exact hj
    clear hj
    go_wp2
    go_end0
    exact ⟨⟨_, rfl⟩, .inl ⟨_, rfl, HJE.out⟩⟩
theorem changes_seq (n B1 B2 : Nat) (hn : 1 ≤ n) {O : Nat → Prop} {a b : Nms} {p q : Option Addr} {c d : Nat} {w : World}
    (ha : RdN O w p c a) (hb : RdN O w q d b) (hO : ∀ k, O k → k < w.heap.size) (hza : SzN a) (hzb : SzN b)
    (h1 : w.cell? ⟨B1, 0, none⟩ = some (.slice p a.length c)) (h2 : w.cell? ⟨B2, 0, none⟩ = some (.slice q b.length d)) (hB1 : B1 < w.heap.size) (hB2 : B2 < w.heap.size) :
    SeqStopsK Fence.wide n Tryz.prog 150 #[.pointer (some ⟨B1, 0, none⟩), .pointer (some ⟨B2, 0, none⟩)] (fun x : Chg => #[valC x]) Lay (fun ys => ys = chs a b (a ++ b)) (fun pre => pre <+: chs a b (a ++ b)) (a ++ b).length w := fun l J Jx W hW hJ _ hY h0 =>
 changes_in n l B1 B2 hn J Jx W hJ (ha.below hO hW) (hb.below hO hW) (fun k hk => Nat.lt_of_lt_of_le (hO k hk) hW.size) hza hzb ((hW.cell (p := ⟨B1, 0, none⟩) hB1).trans h1) ((hW.cell (p := ⟨B2, 0, none⟩) hB2).trans h2) (Nat.lt_of_lt_of_le hB1 hW.size) (Nat.lt_of_lt_of_le hB2 hW.size) hY h0
end
end Go.Proofs.YtldegjjaknelgaaGreatDoor

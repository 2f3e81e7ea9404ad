/-
  The changes from a row of names to the next, gone through by a function: by a contract.
  The letters of bytes and the bytes of letters, as plain functions on lists of integers: what base.Encode and base.Decode tell.
  The small functions of base, by their contracts.
  Which letters a name may have, asked by a closure, and whether a text is of such letters: by contracts.
  Servers' names, local names and types: the program's own, and the document's, by contracts.
  The parts of a name with a sign ahead, as a plain function, and where its colon stands.
  strings.CutPrefix and strings.Cut at one sign, by contracts.
  Names taken apart: the program's own apart, User, Room and Home, by contracts.
-/
import Derived.Test.YtcaknajjkfiaoaaGreatPP06
import Derived.RangeFuncBound
import Derived.RangeFuncCalls
import Derived.RangeFuncLeaves
import Derived.Shelf.Abstract
import Derived.Shelf.RegionOpen
import Derived.OwnWalkIn
import Derived.TacticsInMore
import Derived.LoopNIn
import Derived.LoopIn
import Derived.Laws.StructEq
import Derived.Deep.CutRange
import Derived.Deep.CutBlock
import Derived.Laws.BitsLemmas
import Derived.Lib.Walk
set_option maxRecDepth 100000
set_option maxHeartbeats 16000000
namespace Go.Proofs.YtcaknajjkfiaoaaGreat
open Go.RowKit Go.Maps Go.Shelf
section
attribute [local go_sem] Oper.semAt_some
structure Lay (W W' : World) : Prop where
 size : W.heap.size ≤ W'.heap.size
 same : ∀ (k : Nat) (o : Obj), W.heap[k]? = some o → (o.isCells = true ∨ o.isWalk = true) → W'.heap[k]? = some o
theorem Lay.refl (W : World) : Lay W W := ⟨Nat.le_refl _, fun _ _ h _ => h⟩
theorem Lay.trans {A B C : World} (h : Lay A B) (k : Lay B C) : Lay A C := ⟨Nat.le_trans h.size k.size, fun i o hi ho => k.same i o (h.same i o hi ho) ho⟩
theorem Lay.putObj (W : World) (l : Nat) (o o' : Obj) (h : W.heap[l]? = some o) (hc : o.isCells = false) (hw : o.isWalk = false) : Lay W (W.putObj l o') := by
 have hg := grownBy_putObj' W l o'
 refine ⟨hg.size, fun k x hk hx => ?_⟩
 by_cases e : k = l
 · subst e
   rw [hk] at h
   cases h
   rcases hx with hx | hx
   · rw [hc] at hx; cases hx
   · rw [hw] at hx; cases hx
 · exact (hg.block k (Array.getElem?_eq_some_iff.1 hk).1 (fun h => e (Option.some.inj h))).trans hk
theorem Lay.of_below {W W' : World} (h : Below W.heap.size W W') : Lay W W' := ⟨h.size, fun k _ hk _ => (h.block k (Array.getElem?_eq_some_iff.1 hk).1).trans hk⟩
theorem Lay.map {W W' : World} {M : Nat} {l : Nms} (h : MapN W M l) (k : Lay W W') : MapN W' M l := by
 obtain ⟨o, ho, hw, _⟩ := h.walk
 exact h.same ((k.same M o ho (.inr hw)).trans ho.symm)
theorem Lay.rdN {W W' : World} {O : Nat → Prop} {p : Option Addr} {c : Nat} {l : Nms} (h : RdN O W p c l) (k : Lay W W') : RdN O W' p c l := by
 refine ⟨h.1, fun hn => ?_⟩
 obtain ⟨b, o, hp, hb, hc⟩ := h.2 hn
 have key : ∀ j v, W.cell? ⟨b, j, none⟩ = some v → W'.cell? ⟨b, j, none⟩ = some v := fun j v hv => by
  cases e : W.heap[b]? with
  | none => simp [World.cell?, e] at hv
  | some ob =>
   cases ob with
   | cells cs t fr => rw [← hv]; exact World.cell?_of_block ((k.same b _ e (.inl rfl)).trans e.symm)
   | _ => simp [World.cell?, e] at hv
 exact ⟨b, o, hp, hb, fun j x hj => ⟨key _ _ (hc j x hj).1, key _ _ (hc j x hj).2⟩⟩
theorem own_rdN {w : World} {B : Nat} {v : Value} {l : Nms} (h : w.ownsRow B 56 2 v l.length (flatN l)) : ∃ p c, v = .slice p l.length c ∧ RdN (fun k => B ≤ k ∧ k < w.heap.size) w p c l := by
 rcases h.2 with ⟨rfl, hn⟩ | ⟨g, cap, cur, rfl, hb, hg, hnc, _, hcs, ht⟩
 · obtain rfl : l = [] := List.eq_nil_of_length_eq_zero hn
   exact ⟨none, 0, rfl, RdN.nil _ _ _ _ fun _ => rfl⟩
 · refine ⟨some ⟨g, 0, none⟩, cap, rfl, rdN_of (cur := cur.toList) ⟨hb, objP_lt hg⟩ (by simpa using hg) hnc fun j hj => ?_⟩
   rw [← ht, List.getElem?_take, Nat.zero_add]
   rw [if_pos (by rw [flatN_len] at hj; exact hj)]
theorem fieldsHeld : Tryz.prog.underlying 83 = some (.struct (Tryz.prog.fieldsOf 83)) := by kernel_rfl
theorem stoodHeld : Tryz.prog.stoodInHeld 83 = false := by kernel_rfl
theorem fieldsH : (Tryz.prog.fieldsOf 83).toList = [{ name := "has", type := 4, offset := 0, embedded := false, tag := "", pkgPath := "agora/power", byteOffset := 0 }, { name := "level", type := 2, offset := 1, embedded := false, tag := "", pkgPath := "agora/power", byteOffset := 8 }] := by kernel_rfl
theorem held_neq (w : World) (x y : Option Int) : (binOp .neq 83 (.agg #[.bool x.isSome, .int .i64 (x.getD 0)]) (.agg #[.bool y.isSome, .int .i64 (y.getD 0)])).run Tryz.prog w = .ok (.bool (!(x == y))) w := by
 have h4 : Tryz.prog.underlying 4 = some .bool := by kernel_rfl
 have h2 : Tryz.prog.underlying 2 = some (.int .i64) := by kernel_rfl
 rw [run_neq_struct, run_equalIn_agg w 9999 83 _ _ fieldsHeld stoodHeld, fieldsH]
 have p0 : ∀ W (b : Bool) (m : Int), (part 4 #[.bool b, .int .i64 m] 0).run Tryz.prog W = .ok (.bool b) W := fun W b m => by simp [go_sem, part]
 have p1 : ∀ W (b : Bool) (m : Int), (part 2 #[.bool b, .int .i64 m] 1).run Tryz.prog W = .ok (.int .i64 m) W := fun W b m => by simp [go_sem, part]
 have e0 : ∀ (W : World) (a b : Bool), (Op.equalIn 9999 4 (.bool a) (.bool b)).run Tryz.prog W = .ok (a == b) W := fun W a b => run_equalIn_bool' W 9998 4 a b h4
 have e1 : ∀ (W : World) (a b : Int), (Op.equalIn 9999 2 (.int .i64 a) (.int .i64 b)).run Tryz.prog W = .ok (a == b) W := fun W a b => run_equalIn_int W 9998 2 .i64 .i64 a b h2
 cases x with
 | none =>
  cases y with
  | none => simp [Op.eqFields, p0, p1, e0, e1, Result.andThen]
  | some y => simp [Op.eqFields, p0, e0, Result.andThen]
 | some x =>
  cases y with
  | none => simp [Op.eqFields, p0, e0, Result.andThen]
  | some y => by_cases h : x = y <;> simp [Op.eqFields, p0, p1, e0, e1, Result.andThen, h]
theorem heldV_eq (x : Option Int) : heldV x = .agg #[.bool x.isSome, .int .i64 (x.getD 0)] := by cases x <;> rfl
theorem below_grownP {w w' : World} (h : Below w.heap.size w w') : w.grownBy w' none := ⟨h.os, h.tape, h.output, h.size, fun k hk _ => h.block k hk⟩
theorem chs_pre {α : Type} (f : α → Chg) : ∀ (l : List α) (k : Nat), ((l.take k).map f).filter Chg.turns <+: (l.map f).filter Chg.turns
 | l, k => by
  conv => rhs; rw [← List.take_append_drop k l, List.map_append, List.filter_append]
  exact List.prefix_append _ _
theorem changes_fn {w : World} (p q : Option Addr) (n c m d : Nat) :
    Calls Tryz.prog 49 #[.slice p n c, .slice q m d] w fun e w' => e = .returned (.func (.func 66) #[] #[.pointer (some ⟨w.heap.size, 0, none⟩), .pointer (some ⟨w.heap.size + 1, 0, none⟩)]) ∧ w' = (w.alloc (.cells #[.slice p n c] 27)).alloc (.cells #[.slice q m d] 27) := by
 go_enter Tryz.func49, Tryz.ntmps49
 go_wp2
 go_ret
 exact ⟨rfl, rfl⟩
theorem changes_in (n l B1 B2 : Nat) (hn : 1 ≤ n) {O : Nat → Prop} {a b : Nms} {p q : Option Addr} {c d : Nat} (J Jx : List Chg → World → Prop) (W : World) (hJ : AbidesFrom W.heap.size J)
    (ha : RdN O W p c a) (hb : RdN O W q d b) (hO : ∀ k, O k → k < W.heap.size) (hza : SzN a) (hzb : SzN b)
    (h1 : W.cell? ⟨B1, 0, none⟩ = some (.slice p a.length c)) (h2 : W.cell? ⟨B2, 0, none⟩ = some (.slice q b.length d)) (hB1 : B1 < W.heap.size) (hB2 : B2 < W.heap.size)
    (hY : ∀ pre x W1, J pre W1 → pre.length < (a ++ b).length → YieldAt Fence.wide (n - 1) Tryz.prog l #[valC x] W1 fun e W' => (e = .returned (.bool true) ∧ J (pre ++ [x]) W' ∧ Lay W1 W') ∨ (e = .returned (.bool false) ∧ Jx (pre ++ [x]) W'))
    (h0 : J [] W) :
    CallsIn Fence.wide n Tryz.prog 66 #[.func (.yield l) #[] #[], .pointer (some ⟨B1, 0, none⟩), .pointer (some ⟨B2, 0, none⟩)] W fun e W' => (∃ v, e = .returned v) ∧ ((∃ xs, xs = chs a b (a ++ b) ∧ J xs W') ∨ (∃ pre, pre <+: chs a b (a ++ b) ∧ Jx pre W')) := by
 refine callsIn_wide.2 ?_
 have HB1 : Hid (∀ X, Below W.heap.size W X → Calls Tryz.prog 67 #[.slice p a.length c] X fun e w' => (∃ M, e = .returned (.map (some M)) ∧ X.heap.size ≤ M ∧ MapN w' M a) ∧ Below X.heap.size X w') := fun X hX => byName_any (ha.below hO hX) (fun k hk => Nat.lt_of_lt_of_le (hO k hk) hX.size) hza
 have HB2 : Hid (∀ X, Below W.heap.size W X → Calls Tryz.prog 67 #[.slice q b.length d] X fun e w' => (∃ M, e = .returned (.map (some M)) ∧ X.heap.size ≤ M ∧ MapN w' M b) ∧ Below X.heap.size X w') := fun X hX => byName_any (hb.below hO hX) (fun k hk => Nat.lt_of_lt_of_le (hO k hk) hX.size) hzb
 have HCC : Hid (∀ X, Below W.heap.size W X → X.cell? ⟨B1, 0, none⟩ = some (.slice p a.length c) ∧ X.cell? ⟨B2, 0, none⟩ = some (.slice q b.length d)) := fun X hX => ⟨(hX.cell (p := ⟨B1, 0, none⟩) hB1).trans h1, (hX.cell (p := ⟨B2, 0, none⟩) hB2).trans h2⟩
 have HCo : Hid (∀ X g, Below W.heap.size W X → X.heap[g]? = some (.cells #[.slice p a.length c, .slice q b.length d] 27 (0, 0)) → Calls Tryz.prog 68 #[.slice (some ⟨g, 0, none⟩) 2 2] X fun e w' => (∃ v, e = .returned v ∧ w'.ownsRow X.heap.size 56 2 v (a ++ b).length (flatN (a ++ b))) ∧ Below X.heap.size X w') := fun X g hX hg =>
  concat_any (ha.below hO hX) (hb.below hO hX) (fun k hk => Nat.lt_of_lt_of_le (hO k hk) hX.size) hza hzb (cellP hg 0 _ rfl) (cellP hg 1 _ rfl) (objP_lt hg)
 obtain ⟨na, hna⟩ : ∃ n, a.length = n := ⟨_, rfl⟩
 obtain ⟨nb, hnb⟩ : ∃ n, b.length = n := ⟨_, rfl⟩
 rw [hna] at HB1 HCC HCo
 rw [hnb] at HB2 HCC HCo
 have HNA : Hid (a.length = na) := hna
 have HNB : Hid (b.length = nb) := hnb
 have HAB : Hid (SzN a ∧ SzN b) := ⟨hza, hzb⟩
 have HJ0 : Hid (J [] W) := h0
 have HJ : Hid (AbidesFrom W.heap.size J) := hJ
 have HY : Hid (∀ pre x W1, J pre W1 → pre.length < (a ++ b).length → YieldAt Fence.wide (n - 1) Tryz.prog l #[valC x] W1 fun e W' => (e = .returned (.bool true) ∧ J (pre ++ [x]) W' ∧ Lay W1 W') ∨ (e = .returned (.bool false) ∧ Jx (pre ++ [x]) W')) := hY
 clear hna hnb ha hb hza hzb h1 h2 h0 hJ hY
 obtain ⟨ab, hab⟩ : ∃ ab, a ++ b = ab := ⟨_, rfl⟩
 have HZ : Hid (SzN a ∧ SzN b) := HAB
 have HL : Hid (ab.length = na + nb ∧ na ≤ 100000 ∧ nb ≤ 100000) := ⟨by rw [← hab, List.length_append, HNA.out, HNB.out], by have := HZ.out.1.1; have := HNA.out; omega, by have := HZ.out.2.1; have := HNB.out; omega⟩
 have HOK : Hid (∀ k, k < ab.length → okP (ab.getD k zN).1) := fun k hk => by
  apply okP_of
  rw [List.getD_eq_getElem?_getD, List.getElem?_eq_getElem hk]
  have : ab[k] ∈ a ++ b := by rw [hab]; exact List.getElem_mem hk
  rcases List.mem_append.1 this with h | h
  · exact HZ.out.1.2 _ h
  · exact HZ.out.2.2 _ h
 rw [hab] at HCo HY ⊢
 clear hab
 go_enter Tryz.func66, Tryz.ntmps66
 go_upto_region 0 with fail
 refine wp_region_in (by kernel_rfl) (fun w' => Below W.heap.size W w') ?_
 change wpIn _ _ _ _ _ _ _ _ (World.drew _)
 have hD : Below W.heap.size W W.drew := (Below.refl _ _).drew
 refine wpIn_tp (i := 0) (d := some 9) rfl (by (intro wq hq; obtain ⟨z1, z2⟩ := HCC.out wq hq; go_simp; first | done | with_reducible rfl)) ?_
 refine wpIn_tp (i := 2) (d := some 11) rfl (by (intro wq hq; obtain ⟨z1, z2⟩ := HCC.out wq hq; go_simp; first | done | with_reducible rfl)) ?_
 refine wpIn_do (i := 1) hD (by kernel_rfl) rfl (by rfl) ?_
 intro K hK
 go_simp
 go_wp2_with (go_at_call 67; refine (HB1.out _ hD).mono ?_; rintro e w1 ⟨⟨M, rfl, hM0, hM⟩, hb1⟩)
 have hD1 : Below W.heap.size W w1 := belowP hD hb1
 refine wpIn_do (i := 3) hD1 (by kernel_rfl) rfl (by rfl) ?_
 intro K hK
 go_simp
 go_wp2_with (go_at_call 67; refine (HB2.out _ hD1).mono ?_; rintro e w2 ⟨⟨N, rfl, hN0, hN⟩, hb2⟩)
 have hD2 : Below W.heap.size W w2 := belowP hD1 hb2
 refine wpIn_tk (i := 4) (d := some 4) rfl ?_
 refine wpIn_tk (i := 5) (d := some 5) rfl ?_
 refine wpIn_done hD2 (by kernel_rfl) ?_ _
 obtain ⟨z1, z2⟩ := HCC.out w2 hD2
 have hbA : Below W.heap.size W (w2.alloc (.cells #[.slice p na c, .slice q nb d] 27)) := belowP hD2 ((Below.refl _ _).alloc (Nat.le_refl _) _)
 have hCo := HCo.out _ w2.heap.size hbA (newP _)
 have HM : Hid (MapN w2 M a) := hM.same (hb2.block M hM.lt)
 have HN : Hid (MapN w2 N b) := hN
 clear hb1 hb2 hM hN HB1 HB2 HCC HCo
 obtain ⟨n', hn'⟩ : ∃ m, ab.length = m := ⟨_, rfl⟩
 have HN' : Hid (ab.length = n') := hn'
 have hnb : n' ≤ 200000 := by have := HL.out; omega
 rw [hn'] at hCo
 clear hn'
 go_wp2_with (go_at_call 68; refine hCo.mono ?_; rintro e w3 ⟨⟨v, rfl, hown⟩, hb3⟩; rw [← HN'.out] at hown; obtain ⟨pr, cr, rfl, hrd⟩ := own_rdN hown; rw [HN'.out])
 have hD3 : Below W.heap.size W w3 := belowP hbA hb3
 have HM3 : Hid (MapN w3 M a) := (HM.out.same (Below.heap_alloc _ _ _ HM.out.lt)).same (hb3.block M (by have := HM.out.lt; simp; omega))
 have HN3 : Hid (MapN w3 N b) := (HN.out.same (Below.heap_alloc _ _ _ HN.out.lt)).same (hb3.block N (by have := HN.out.lt; simp; omega))
 have HR3 : Hid (RdN (fun k => (w2.alloc (.cells #[.slice p na c, .slice q nb d] 27)).heap.size ≤ k ∧ k < w3.heap.size) w3 pr cr ab) := hrd
 have hc3 := hrd.1.1
 rw [HN'.out] at hc3
 clear hrd hown z1 z2 hCo hD hD1 hD2 HM HN
 go_loopw [18] (fun i wr => ∃ k : Nat, i = .int .i64 k ∧ k ≤ n' ∧ J (chs a b (ab.take k)) wr ∧ Lay w3 wr) (fun i _ => n' - (intOf i).toNat)
 case atStart => exact ⟨0, rfl, Nat.zero_le _, HJ.out [] W w3 none HJ0.out (below_grownP hD3) (fun r e => by cases e), Lay.refl _⟩
 case round =>
  obtain ⟨k, rfl, hk, hj, hly⟩ := hrel
  by_cases hkn : k < n'
  · have hkl : k < ab.length := by rw [HN'.out]; exact hkn
    obtain ⟨rb, ro, rfl, _, g1, g2⟩ := (Lay.rdN HR3.out hly).at hkl
    have hok := HOK.out k hkl
    have HT : Hid (ab.take (k + 1) = ab.take k ++ [ab.getD k zN]) := takeP_one hkl
    generalize ab.getD k zN = x at g1 g2 HT hok
    obtain ⟨xn, xl⟩ := x
    simp only at g1 g2 hok
    have hlk1 := ((Lay.map HM3.out hly).same (w' := wr.alloc (.cells #[.string xn, .int .i64 xl] 56)) (Below.heap_alloc _ _ _ (Lay.map HM3.out hly).lt)).look hok
    have hlk2 := ((Lay.map HN3.out hly).same (w' := wr.alloc (.cells #[.string xn, .int .i64 xl] 56)) (Below.heap_alloc _ _ _ (Lay.map HN3.out hly).lt)).look hok
    rw [heldV_eq] at hlk1 hlk2
    have HCH : Hid (chs a b (ab.take (k + 1)) = if (Chg.turns ⟨xn, fnd a xn, fnd b xn⟩) = true then chs a b (ab.take k) ++ [⟨xn, fnd a xn, fnd b xn⟩] else chs a b (ab.take k)) := by show _ = _; rw [HT.out, chs_snoc]; rfl
    have HPR : Hid (chs a b (ab.take (k + 1)) <+: chs a b ab) := chs_pre _ _ _
    have HLN : Hid ((chs a b (ab.take k)).length < ab.length) := by
     show _ < _
     have := chs_len a b (ab.take k)
     rw [List.length_take] at this
     omega
    generalize fnd a xn = oa at hlk1 HCH
    generalize fnd b xn = ob at hlk2 HCH
    have hneq := held_neq
    have hbW : Below wr.heap.size wr ((wr.alloc (.cells #[.string xn, .int .i64 xl] 56)).alloc (.cells #[.string xn, .bool oa.isSome, .int .i64 (oa.getD 0), .bool ob.isSome, .int .i64 (ob.getD 0)] 85)) := ((Below.refl _ _).alloc (Nat.le_refl _) _).alloc (by simp) _
    have hj5 := HJ.out _ _ _ none hj (below_grownP hbW) (fun r e => by cases e)
    cases ht : (!(oa == ob)) with
    | true =>
     have HC1 : Hid (chs a b (ab.take (k + 1)) = chs a b (ab.take k) ++ [⟨xn, oa, ob⟩]) := by show _ = _; rw [HCH.out, if_pos (show Chg.turns ⟨xn, oa, ob⟩ = true from ht)]
     obtain ⟨fn, tm, asg, bod, hy, hR⟩ := HY.out _ ⟨xn, oa, ob⟩ _ hj5 HLN.out
     simp only [valC, cellsC] at hy
     refine (wpIn_wide (n := n)).1 ?_
     gi_wp2
     refine hR.mono ?_
     rintro e W6 (⟨rfl, hJ6, hk6⟩ | ⟨rfl, hJx6⟩)
     · gi_wp2
       go_roundw
       case rel => exact ⟨k + 1, by simp, by omega, by rw [HC1.out]; exact hJ6, (hly.trans (Lay.of_below hbW)).trans hk6⟩
       case measure => simp [intOf]; omega
     · gi_wp2
       refine bodyPost_ret (results_none rfl _ _ _) rfl ?_
       exact ⟨⟨_, rfl⟩, .inr ⟨_, HPR.out, by rw [HC1.out]; exact hJx6⟩⟩
    | false =>
     have HC1 : Hid (chs a b (ab.take (k + 1)) = chs a b (ab.take k)) := by show _ = _; rw [HCH.out, if_neg (by unfold Chg.turns; rw [ht]; decide)]
     go_wp2
     go_roundw
     case rel => exact ⟨k + 1, by simp, by omega, by rw [HC1.out]; exact hj5, hly.trans (Lay.of_below hbW)⟩
     case measure => simp [intOf]; omega
  · obtain rfl : k = n' := by omega
    have HJE : Hid (J (chs a b ab) wr) := by show J _ _; rw [← List.take_length (l := ab), HN'.out]; exact hj
    clear hj
    go_wp2
    go_end0
    exact ⟨⟨_, rfl⟩, .inl ⟨_, rfl, HJE.out⟩⟩
theorem changes_seq (n B1 B2 : Nat) (hn : 1 ≤ n) {O : Nat → Prop} {a b : Nms} {p q : Option Addr} {c d : Nat} {w : World}
    (ha : RdN O w p c a) (hb : RdN O w q d b) (hO : ∀ k, O k → k < w.heap.size) (hza : SzN a) (hzb : SzN b)
    (h1 : w.cell? ⟨B1, 0, none⟩ = some (.slice p a.length c)) (h2 : w.cell? ⟨B2, 0, none⟩ = some (.slice q b.length d)) (hB1 : B1 < w.heap.size) (hB2 : B2 < w.heap.size) :
    SeqStopsK Fence.wide n Tryz.prog 66 #[.pointer (some ⟨B1, 0, none⟩), .pointer (some ⟨B2, 0, none⟩)] (fun x : Chg => #[valC x]) Lay (fun ys => ys = chs a b (a ++ b)) (fun pre => pre <+: chs a b (a ++ b)) (a ++ b).length w := fun l J Jx W hW hJ _ hY h0 =>
 changes_in n l B1 B2 hn J Jx W hJ (ha.below hO hW) (hb.below hO hW) (fun k hk => Nat.lt_of_lt_of_le (hO k hk) hW.size) hza hzb ((hW.cell (p := ⟨B1, 0, none⟩) hB1).trans h1) ((hW.cell (p := ⟨B2, 0, none⟩) hB2).trans h2) (Nat.lt_of_lt_of_le hB1 hW.size) (Nat.lt_of_lt_of_le hB2 hW.size) hY h0
end
end Go.Proofs.YtcaknajjkfiaoaaGreat
namespace Go.Proofs.YtcaknajjkfiaoaaGreat.Id
def ints (s : ByteArray) : List Int := s.data.toList.map fun c => (c.toNat : Int)
theorem ints_length (s : ByteArray) : (ints s).length = s.size := by simp [ints]
theorem ints_getD (s : ByteArray) (k : Nat) (h : k < s.size) : (ints s).getD k 0 = (s[k].toNat : Int) := by
 have h' : k < s.data.toList.length := by simpa using h
 simp only [ints, List.getD_eq_getElem?_getD, List.getElem?_map, List.getElem?_eq_getElem h', Option.map_some, Option.getD_some]
 rfl
theorem ints_bd (s : ByteArray) : ∀ x ∈ ints s, 0 ≤ x ∧ x ≤ 255 := by
 intro x hx
 simp only [ints, List.mem_map] at hx
 obtain ⟨c, _, rfl⟩ := hx
 have := c.toNat_lt
 omega
theorem ints_extract (s : ByteArray) (k : Nat) : ints (s.extract k s.size) = (ints s).drop k := by
 simp only [ints, ByteArray.data_extract, Array.toList_extract, List.extract_eq_take_drop, List.map_take, List.map_drop]
 rw [List.take_of_length_le]
 have : (List.drop k (List.map (fun c : UInt8 => (c.toNat : Int)) s.data.toList)).length = s.size - k := by simp
 omega
end Go.Proofs.YtcaknajjkfiaoaaGreat.Id
namespace Go.Proofs.YtcaknajjkfiaoaaGreat.Id
open Go.RowKit
theorem ret_bool {a b : Bool} (h : a = b) : Ending.returned (.bool a) = .returned (.bool b) := by rw [h]
theorem liteIndexByte_any (s : ByteArray) (c : Int) (w : World) :
    Calls Tryz.prog 83 #[.string s, .int .u8 c] w fun e w' => e = .returned (.int .i64 (Lib.indexByte s.data.toList c.toNat.toUInt8)) ∧ w = w' := by
 go_enter Tryz.func83, Tryz.ntmps83
 go_wp2
 rw [run_callFunc_extern Tryz.func94 (by kernel_rfl) (by kernel_rfl) (by kernel_rfl) (e := Extern.BytealgIndexByte.indexByte) (by kernel_rfl), Lib.run_indexByteString]
 simp only [Result.andThen]
 rw [Oper.upon_value]
 go_wp2
 go_ret
 exact ⟨rfl, rfl⟩
theorem indexByte_any (s : ByteArray) (c : Int) (w : World) :
    Calls Tryz.prog 64 #[.string s, .int .u8 c] w fun e w' => e = .returned (.int .i64 (Lib.indexByte s.data.toList c.toNat.toUInt8)) ∧ w = w' := by
 go_enter Tryz.func64, Tryz.ntmps64
 go_wp2_with (go_at_call 83; refine (liteIndexByte_any _ _ _).mono ?_; rintro e w' ⟨rfl, rfl⟩)
 go_ret
 exact ⟨rfl, rfl⟩
def kind (o : List UInt8) (c : Int) : Bool := (decide (97 ≤ c) && decide (c ≤ 122)) || (decide (48 ≤ c) && decide (c ≤ 57)) || decide (0 ≤ Lib.indexByte o c.toNat.toUInt8)
theorem letter_clo (o : ByteArray) (c : Int) (B : Nat) (w : World) (hc : w.cell? ⟨B, 0, none⟩ = some (.string o)) (h0 : 0 ≤ c) (h1 : c ≤ 255) :
    Calls Tryz.prog 63 #[.int .u8 c, .pointer (some ⟨B, 0, none⟩)] w fun e w' => e = .returned (.bool (kind o.data.toList c)) ∧ w = w' := by
 go_enter Tryz.func63, Tryz.ntmps63
 go_wp2_with (go_at_call 64; refine (indexByte_any _ _ _).mono ?_; rintro e w' ⟨rfl, rfl⟩)
 all_goals
  go_ret
  refine ⟨ret_bool ?_, rfl⟩
  unfold kind
  rw [Bool.eq_iff_iff]
  simp
  omega
def okText (k : Int → Bool) (m : Int) (s : ByteArray) : Bool := decide (1 ≤ s.size) && decide ((s.size : Int) ≤ m) && (ints s).all k
theorem okText_long (k : Int → Bool) (m : Int) (s : ByteArray) (h : m < s.size) : okText k m s = false := by
 unfold okText; simp; omega
theorem okText_none (k : Int → Bool) (m : Int) (s : ByteArray) (h : s.size = 0) : okText k m s = false := by
 unfold okText; simp [h]
theorem okText_all (k : Int → Bool) (m : Int) (s : ByteArray) (h : 1 ≤ s.size) (h' : (s.size : Int) ≤ m) (ha : ∀ j, j < s.size → k ((ints s).getD j 0) = true) : okText k m s = true := by
 unfold okText
 simp only [h, h', decide_true, Bool.true_and, List.all_eq_true]
 intro x hx
 obtain ⟨i, hi, rfl⟩ := List.mem_iff_getElem.1 hx
 have := ha i (by rw [← ints_length]; exact hi)
 rw [List.getD_eq_getElem?_getD, List.getElem?_eq_getElem hi] at this
 exact this
theorem okText_bad (k : Int → Bool) (m : Int) (s : ByteArray) (j : Nat) (hj : j < s.size) (ha : k ((ints s).getD j 0) = false) : okText k m s = false := by
 unfold okText
 have hj' : j < (ints s).length := by rw [ints_length]; exact hj
 have : (ints s).all k = false := by
  rw [List.all_eq_false]
  refine ⟨(ints s)[j], List.getElem_mem hj', ?_⟩
  rw [List.getD_eq_getElem?_getD, List.getElem?_eq_getElem hj'] at ha
  simpa using ha
 rw [this]; simp
theorem fits_any (s o : ByteArray) (m : Int) (B : Nat) (w : World) (hs : s.size ≤ 140737488351232) (hc : w.cell? ⟨B, 0, none⟩ = some (.string o)) :
    Calls Tryz.prog 43 #[.string s, .int .i64 m, .func (.func 63) #[] #[.pointer (some ⟨B, 0, none⟩)]] w fun e w' => e = .returned (.bool (okText (kind o.data.toList) m s)) ∧ w = w' := by
 by_cases he : s.size = 0
 · have he' : (s.size : Int) = 0 := by omega
   go_enter Tryz.func43, Tryz.ntmps43
   go_wp2
   go_ret
   exact ⟨ret_bool (okText_none _ _ _ he).symm, rfl⟩
 by_cases hm : m < (s.size : Int)
 · go_enter Tryz.func43, Tryz.ntmps43
   go_wp2
   go_ret
   exact ⟨ret_bool (okText_long _ _ _ hm).symm, rfl⟩
 go_enter Tryz.func43, Tryz.ntmps43
 go_wp2
 go_loop [19] (fun i => ∃ k : Nat, k ≤ s.size ∧ i = .int .i64 k ∧ ∀ j, j < k → kind o.data.toList ((ints s).getD j 0) = true) (fun i => s.size - (intOf i).toNat)
 case atStart => exact ⟨0, Nat.zero_le _, rfl, fun j hj => by omega⟩
 case round =>
  obtain ⟨k, hk, rfl, hall⟩ := hrel
  have HA : Hid (∀ j, j < k → kind o.data.toList ((ints s).getD j 0) = true) := hall
  clear hall
  by_cases hlt : k < s.size
  · have HG : Hid ((ints s).getD k 0 = (s[k].toNat : Int)) := ints_getD s k hlt
    have hb1 : (s[k].toNat : Int) ≤ 255 := by have := s[k].toNat_lt; omega
    by_cases hb : kind o.data.toList (s[k].toNat : Int) = true
    · go_wp2_with (go_at_call 63; refine (letter_clo o _ B _ hc (by omega) (by omega)).mono ?_; rintro e w' ⟨rfl, rfl⟩)
      go_round
      case rel => exact ⟨k + 1, by omega, by go_num, fun j hj => by
                            by_cases e : j = k
                            · rw [e, HG.out]; exact hb
                            · exact HA.out j (by omega)⟩
      case measure => simp [intOf]; omega
    · have hb' : kind o.data.toList (s[k].toNat : Int) = false := by simpa using hb
      clear hb
      go_wp2_with (go_at_call 63; refine (letter_clo o _ B _ hc (by omega) (by omega)).mono ?_; rintro e w' ⟨rfl, rfl⟩)
      go_ret
      exact ⟨ret_bool (okText_bad _ _ _ k hlt (by rw [HG.out]; exact hb')).symm, rfl⟩
  · obtain rfl : k = s.size := by omega
    go_wp2
    go_ret
    exact ⟨ret_bool (okText_all _ _ _ (by omega) (by omega) HA.out).symm, rfl⟩
def small (c : Int) : Bool := (decide (97 ≤ c) && decide (c ≤ 122)) || (decide (48 ≤ c) && decide (c ≤ 57)) || decide (c = 46)
def kSrv (c : Int) : Bool := small c || decide (c = 45)
def kLoc (c : Int) : Bool := small c || decide (c = 45) || decide (c = 95)
def kTyp (c : Int) : Bool := small c || decide (c = 95)
def srv (s : ByteArray) : Bool := okText kSrv 32 s
def loc (s : ByteArray) : Bool := okText kLoc 32 s
def typ (s : ByteArray) : Bool := okText kTyp 64 s
theorem kind_srv : ∀ n : Fin 256, kind [46, 45] (n.val : Int) = kSrv n.val := by decide +kernel
theorem kind_loc : ∀ n : Fin 256, kind [46, 95, 45] (n.val : Int) = kLoc n.val := by decide +kernel
theorem kind_typ : ∀ n : Fin 256, kind [46, 95] (n.val : Int) = kTyp n.val := by decide +kernel
theorem okText_congr {k k' : Int → Bool} (h : ∀ n : Fin 256, k (n.val : Int) = k' n.val) (m : Int) (s : ByteArray) : okText k m s = okText k' m s := by
 unfold okText
 congr 1
 rw [Bool.eq_iff_iff, List.all_eq_true, List.all_eq_true]
 constructor <;> intro ha x hx
 · have hb := ints_bd s x hx
   have := h ⟨x.toNat, by omega⟩
   have e : ((x.toNat : Nat) : Int) = x := by omega
   rw [e] at this
   rw [← this]; exact ha x hx
 · have hb := ints_bd s x hx
   have := h ⟨x.toNat, by omega⟩
   have e : ((x.toNat : Nat) : Int) = x := by omega
   rw [e] at this
   rw [this]; exact ha x hx
theorem cell_new (w : World) (v : Value) (t : Nat) : (w.alloc (.cells #[v] t)).cell? ⟨w.heap.size, 0, none⟩ = some v :=
 World.cell?_alloc_at _ _ _ _ rfl
theorem letterOr_any (o : ByteArray) (w : World) :
    Calls Tryz.prog 44 #[.string o] w fun e w' => e = .returned (.func (.func 63) #[] #[.pointer (some ⟨w.heap.size, 0, none⟩)]) ∧ w' = w.alloc (.cells #[.string o] 9) := by
 go_enter Tryz.func44, Tryz.ntmps44
 go_wp2
 go_ret
 exact ⟨rfl, rfl⟩
theorem server_any (s : ByteArray) (w : World) (hs : s.size ≤ 140737488351232) :
    Calls Tryz.prog 82 #[.string s] w fun e w' => e = .returned (.bool (srv s)) ∧ Below w.heap.size w w' := by
 have hc := cell_new w (.string ⟨#[46, 45]⟩) 9
 go_enter Tryz.func82, Tryz.ntmps82
 go_wp2_with (first
  | (go_at_call 44; refine (letterOr_any _ _).mono ?_; rintro e w' ⟨rfl, rfl⟩)
  | (go_at_call 43; refine (fits_any s _ 32 _ _ hs hc).mono ?_; rintro e w' ⟨rfl, rfl⟩))
 go_ret
 exact ⟨ret_bool (okText_congr kind_srv 32 s), (Below.refl _ _).alloc (Nat.le_refl _) _⟩
theorem local_any (s : ByteArray) (w : World) (hs : s.size ≤ 140737488351232) :
    Calls Tryz.prog 81 #[.string s] w fun e w' => e = .returned (.bool (loc s)) ∧ Below w.heap.size w w' := by
 have hc := cell_new w (.string ⟨#[46, 95, 45]⟩) 9
 go_enter Tryz.func81, Tryz.ntmps81
 go_wp2_with (first
  | (go_at_call 44; refine (letterOr_any _ _).mono ?_; rintro e w' ⟨rfl, rfl⟩)
  | (go_at_call 43; refine (fits_any s _ 32 _ _ hs hc).mono ?_; rintro e w' ⟨rfl, rfl⟩))
 go_ret
 exact ⟨ret_bool (okText_congr kind_loc 32 s), (Below.refl _ _).alloc (Nat.le_refl _) _⟩
theorem type_any (s : ByteArray) (w : World) (hs : s.size ≤ 140737488351232) :
    Calls Tryz.prog 17 #[.string s] w fun e w' => e = .returned (.bool (typ s)) ∧ Below w.heap.size w w' := by
 have hc := cell_new w (.string ⟨#[46, 95]⟩) 9
 go_enter Tryz.func17, Tryz.ntmps17
 go_wp2_with (first
  | (go_at_call 44; refine (letterOr_any _ _).mono ?_; rintro e w' ⟨rfl, rfl⟩)
  | (go_at_call 43; refine (fits_any s _ 64 _ _ hs hc).mono ?_; rintro e w' ⟨rfl, rfl⟩))
 go_ret
 exact ⟨ret_bool (okText_congr kind_typ 64 s), (Below.refl _ _).alloc (Nat.le_refl _) _⟩
theorem small_any (c : Int) (w : World) :
    Calls Tryz.prog 53 #[.int .u8 c] w fun e w' => e = .returned (.bool (small c)) ∧ w = w' := by
 go_enter Tryz.func53, Tryz.ntmps53
 go_wp2
 all_goals
  go_ret
  refine ⟨ret_bool ?_, rfl⟩
  unfold small
  rw [Bool.eq_iff_iff]
  simp
  omega
def nix : ByteArray := ⟨#[]⟩
def parts (c : Int) (s : ByteArray) : ByteArray × ByteArray × Bool :=
 if 0 < s.size ∧ (ints s).getD 0 0 = c ∧ ((ints s).drop 1).findIdx (· == 58) + 1 < s.size ∧ loc (s.extract 1 (((ints s).drop 1).findIdx (· == 58) + 1)) = true ∧ srv (s.extract (((ints s).drop 1).findIdx (· == 58) + 2) s.size) = true
 then (s.extract 1 (((ints s).drop 1).findIdx (· == 58) + 1), s.extract (((ints s).drop 1).findIdx (· == 58) + 2) s.size, true) else (nix, nix, false)
theorem getD_drop1 (l : List Int) (j : Nat) : (l.drop 1).getD j 0 = l.getD (j + 1) 0 := by
 simp [List.getD_eq_getElem?_getD]
theorem find_hit (l : List Int) (k : Nat) (hk : k < l.length) (hc : l.getD k 0 = 58) (ha : ∀ j, j < k → l.getD j 0 ≠ 58) : l.findIdx (· == 58) = k := by
 induction l generalizing k with
 | nil => simp at hk
 | cons a l ih =>
  rw [List.findIdx_cons]
  match k with
  | 0 => simp at hc; simp [hc]
  | k + 1 =>
   have h0 := ha 0 (by omega)
   simp only [List.getD_cons_zero] at h0
   have h1 : (a == 58) = false := by simp [h0]
   rw [h1]
   simp only [cond_false]
   rw [ih k (by simpa using hk) (by simpa using hc) (fun j hj => by simpa using ha (j + 1) (by omega))]
theorem find_miss (l : List Int) (ha : ∀ j, j < l.length → l.getD j 0 ≠ 58) : l.findIdx (· == 58) = l.length := by
 induction l with
 | nil => rfl
 | cons a l ih =>
  have h0 := ha 0 (by simp)
  simp only [List.getD_cons_zero] at h0
  have h1 : (a == 58) = false := by simp [h0]
  rw [List.findIdx_cons, h1]
  simp only [cond_false]
  rw [ih (fun j hj => by simpa using ha (j + 1) (by simpa using hj))]
  simp
theorem idx_hit (l : List UInt8) (k : Nat) (hk : k < l.length) (hc : (l.map fun c => (c.toNat : Int)).getD k 0 = 58) (ha : ∀ j, j < k → (l.map fun c => (c.toNat : Int)).getD j 0 ≠ 58) : Lib.indexByte l 58 = k := by
 induction l generalizing k with
 | nil => simp at hk
 | cons a l ih =>
  unfold Lib.indexByte
  match k with
  | 0 =>
   have : a = 58 := by
    simp at hc
    exact UInt8.toNat_inj.1 (by simpa using (by omega : a.toNat = 58))
   simp [this]
  | k + 1 =>
   have h0 := ha 0 (by omega)
   have h1 : (a == 58) = false := by
    simp only [List.map_cons, List.getD_cons_zero] at h0
    simp only [beq_eq_false_iff_ne, ne_eq]
    intro h; subst h; exact h0 rfl
   rw [h1, ih k (by simpa using hk) (by simpa using hc) (fun j hj => by simpa using ha (j + 1) (by omega))]
   have h2 : ((k : Int) == -1) = false := by simp
   simp [h2]
theorem idx_miss (l : List UInt8) (ha : ∀ j, j < l.length → (l.map fun c => (c.toNat : Int)).getD j 0 ≠ 58) : Lib.indexByte l 58 = -1 := by
 induction l with
 | nil => rfl
 | cons a l ih =>
  unfold Lib.indexByte
  have h0 := ha 0 (by simp)
  have h1 : (a == 58) = false := by
   simp only [List.map_cons, List.getD_cons_zero] at h0
   simp only [beq_eq_false_iff_ne, ne_eq]
   intro h; subst h; exact h0 rfl
  rw [h1, ih (fun j hj => by simpa using ha (j + 1) (by simpa using hj))]
  simp
theorem parts_hit (c : Int) (s : ByteArray) (k : Nat) (h0 : (ints s).getD 0 0 = c) (h1 : 1 ≤ k) (hk : k < s.size) (hc : (ints s).getD k 0 = 58) (ha : ∀ j, 1 ≤ j → j < k → (ints s).getD j 0 ≠ 58) :
    parts c s = if loc (s.extract 1 k) = true ∧ srv (s.extract (k + 1) s.size) = true then (s.extract 1 k, s.extract (k + 1) s.size, true) else (nix, nix, false) := by
 have hf : ((ints s).drop 1).findIdx (· == 58) = k - 1 := by
  refine find_hit _ _ (by simp [ints_length]; omega) ?_ fun j hj => ?_
  · rw [getD_drop1, Nat.sub_add_cancel h1]; exact hc
  · rw [getD_drop1]; exact ha (j + 1) (by omega) (by omega)
 unfold parts
 rw [hf]
 have e1 : k - 1 + 1 = k := by omega
 have e2 : k - 1 + 2 = k + 1 := by omega
 rw [e1, e2]
 by_cases hl : loc (s.extract 1 k) = true ∧ srv (s.extract (k + 1) s.size) = true
 · rw [if_pos hl, if_pos ⟨by omega, h0, hk, hl.1, hl.2⟩]
 · rw [if_neg hl, if_neg fun h => hl ⟨h.2.2.2.1, h.2.2.2.2⟩]
theorem parts_other (c : Int) (s : ByteArray) (h : s.size = 0 ∨ (ints s).getD 0 0 ≠ c ∨ ∀ j, 1 ≤ j → j < s.size → (ints s).getD j 0 ≠ 58) : parts c s = (nix, nix, false) := by
 unfold parts
 rw [if_neg]
 intro ⟨g0, g1, g2, _⟩
 rcases h with h | h | h
 · omega
 · exact h g1
 · have : ((ints s).drop 1).findIdx (· == 58) = ((ints s).drop 1).length := find_miss _ fun j hj => by
     rw [getD_drop1]; exact h (j + 1) (by omega) (by simp [ints_length] at hj; omega)
   rw [this] at g2
   simp [ints_length] at g2
   omega
theorem colon_cases (s : ByteArray) : (∃ k, 1 ≤ k ∧ k < s.size ∧ (ints s).getD k 0 = 58 ∧ ∀ j, 1 ≤ j → j < k → (ints s).getD j 0 ≠ 58) ∨ ∀ j, 1 ≤ j → j < s.size → (ints s).getD j 0 ≠ 58 := by
 have : ∀ n, (∃ k, 1 ≤ k ∧ k < n ∧ (ints s).getD k 0 = 58 ∧ ∀ j, 1 ≤ j → j < k → (ints s).getD j 0 ≠ 58) ∨ ∀ j, 1 ≤ j → j < n → (ints s).getD j 0 ≠ 58 := by
  intro n
  induction n with
  | zero => exact .inr fun j _ hj => by omega
  | succ n ih =>
   rcases ih with ⟨k, h1, h2, h3, h4⟩ | h
   · exact .inl ⟨k, h1, by omega, h3, h4⟩
   · by_cases hn : 1 ≤ n ∧ (ints s).getD n 0 = 58
     · exact .inl ⟨n, hn.1, by omega, hn.2, h⟩
     · refine .inr fun j h1 h2 => ?_
       by_cases e : j = n
       · subst e; exact fun he => hn ⟨h1, he⟩
       · exact h j h1 (by omega)
 exact this s.size
theorem cut_name (s : ByteArray) (k : Nat) (h1 : 1 ≤ k) (hk : k ≤ s.size) : (s.extract 1 s.size).extract 0 (k - 1) = s.extract 1 k := by
 rw [ByteArray.extract_extract]
 congr 1
 omega
theorem cut_server (s : ByteArray) (k : Nat) : (s.extract 1 s.size).extract k (s.extract 1 s.size).size = s.extract (k + 1) s.size := by
 rw [ByteArray.extract_extract]
 simp
 congr 1
 all_goals omega
theorem below_drewN (w : World) : ∀ n, Below w.heap.size w (w.drewN n)
 | 0 => by rw [World.drewN_zero]; exact Below.refl _ _
 | n + 1 => by rw [← World.drew_drewN]; exact (below_drewN w n).drew
theorem take_one' (l : List UInt8) (h : 0 < l.length) : l.take 1 = [l[0]] := by
 cases l with
 | nil => simp at h
 | cons a l => simp
theorem one_head (s : ByteArray) (h : 0 < s.size) : (s.extract 0 1).toList = [s[0]] := by
 rw [Lib.toList_data, ByteArray.data_extract, Array.toList_extract]
 simp only [List.extract_eq_take_drop, List.drop_zero, Nat.sub_zero]
 rw [take_one' _ (by simpa using h)]
 simp [ByteArray.getElem_eq_getElem_data]
theorem hasPrefix_yes (s : ByteArray) (c : UInt8) (w : World) (hs : s.size ≤ 140737488351232) (h : 0 < s.size) (hc : s[0] = c) :
    Calls Tryz.prog 99 #[.string s, .string ⟨#[c]⟩] w fun e w' => e = .returned (.bool true) ∧ w = w' := by
 have h1 : ((s.extract 0 1).toList == [c]) = true := by rw [one_head s h, hc]; simp
 go_enter Tryz.func99, Tryz.ntmps99
 go_wp2
 go_ret
 exact ⟨rfl, rfl⟩
theorem hasPrefix_no (s : ByteArray) (c : UInt8) (w : World) (hs : s.size ≤ 140737488351232) (h : ∀ h : 0 < s.size, s[0] ≠ c) :
    Calls Tryz.prog 99 #[.string s, .string ⟨#[c]⟩] w fun e w' => e = .returned (.bool false) ∧ w = w' := by
 by_cases h0 : 0 < s.size
 · have h1 : ((s.extract 0 1).toList == [c]) = false := by rw [one_head s h0]; simp [h h0]
   go_enter Tryz.func99, Tryz.ntmps99
   go_wp2
   go_ret
   exact ⟨rfl, rfl⟩
 · go_enter Tryz.func99, Tryz.ntmps99
   go_wp2
   go_ret
   exact ⟨rfl, rfl⟩
theorem liteCutPrefix_yes (s : ByteArray) (c : UInt8) (w : World) (hs : s.size ≤ 140737488351232) (h : 0 < s.size) (hc : s[0] = c) :
    Calls Tryz.prog 92 #[.string s, .string ⟨#[c]⟩] w fun e w' => e = .returned (.tuple #[.string (s.extract 1 s.size), .bool true]) ∧ w = w' := by
 go_enter Tryz.func92, Tryz.ntmps92
 go_wp2_with (go_at_call 99; refine (hasPrefix_yes s c _ hs h hc).mono ?_; rintro e w' ⟨rfl, rfl⟩)
 go_ret2
 exact ⟨rfl, rfl⟩
theorem liteCutPrefix_no (s : ByteArray) (c : UInt8) (w : World) (hs : s.size ≤ 140737488351232) (h : ∀ h : 0 < s.size, s[0] ≠ c) :
    Calls Tryz.prog 92 #[.string s, .string ⟨#[c]⟩] w fun e w' => e = .returned (.tuple #[.string s, .bool false]) ∧ w = w' := by
 go_enter Tryz.func92, Tryz.ntmps92
 go_wp2_with (go_at_call 99; refine (hasPrefix_no s c _ hs h).mono ?_; rintro e w' ⟨rfl, rfl⟩)
 go_ret2
 exact ⟨rfl, rfl⟩
theorem cutPrefix_yes (s : ByteArray) (c : UInt8) (w : World) (hs : s.size ≤ 140737488351232) (h : 0 < s.size) (hc : s[0] = c) :
    Calls Tryz.prog 79 #[.string s, .string ⟨#[c]⟩] w fun e w' => e = .returned (.tuple #[.string (s.extract 1 s.size), .bool true]) ∧ w = w' := by
 go_enter Tryz.func79, Tryz.ntmps79
 go_wp2_with (go_at_call 92; refine (liteCutPrefix_yes s c _ hs h hc).mono ?_; rintro e w' ⟨rfl, rfl⟩)
 go_ret2
 exact ⟨rfl, rfl⟩
theorem cutPrefix_no (s : ByteArray) (c : UInt8) (w : World) (hs : s.size ≤ 140737488351232) (h : ∀ h : 0 < s.size, s[0] ≠ c) :
    Calls Tryz.prog 79 #[.string s, .string ⟨#[c]⟩] w fun e w' => e = .returned (.tuple #[.string s, .bool false]) ∧ w = w' := by
 go_enter Tryz.func79, Tryz.ntmps79
 go_wp2_with (go_at_call 92; refine (liteCutPrefix_no s c _ hs h).mono ?_; rintro e w' ⟨rfl, rfl⟩)
 go_ret2
 exact ⟨rfl, rfl⟩
theorem index_one (s : ByteArray) (w : World) :
    Calls Tryz.prog 100 #[.string s, .string ⟨#[58]⟩] w fun e w' => e = .returned (.int .i64 (Lib.indexByte s.data.toList 58)) ∧ w = w' := by
 go_enter Tryz.func100, Tryz.ntmps100
 go_wp2_with (go_at_call 83; refine (liteIndexByte_any _ _ _).mono ?_; rintro e w' ⟨rfl, rfl⟩)
 · have h : ([58] == s.toList) = true := by assumption
   go_ret
   refine ⟨?_, rfl⟩
   have e : s.data.toList = [58] := by rw [← Lib.toList_data]; exact (beq_iff_eq.1 h).symm
   rw [e]
   simp [Lib.indexByte]
 · go_ret
   exact ⟨rfl, rfl⟩
theorem liteCut_no (t : ByteArray) (w : World) (hi : Lib.indexByte t.data.toList 58 = -1) :
    Calls Tryz.prog 93 #[.string t, .string ⟨#[58]⟩] w fun e w' => e = .returned (.tuple #[.string t, .string ⟨#[]⟩, .bool false]) ∧ Below w.heap.size w w' := by
 go_enter Tryz.func93, Tryz.ntmps93
 go_wp2_with (go_at_call 100; refine (index_one t _).mono ?_; rw [hi]; rintro e w' ⟨rfl, rfl⟩)
 go_ret3
 exact ⟨rfl, Below.refl _ _⟩
theorem cut_no (t : ByteArray) (w : World) (hi : Lib.indexByte t.data.toList 58 = -1) :
    Calls Tryz.prog 80 #[.string t, .string ⟨#[58]⟩] w fun e w' => e = .returned (.tuple #[.string t, .string ⟨#[]⟩, .bool false]) ∧ Below w.heap.size w w' := by
 go_enter Tryz.func80, Tryz.ntmps80
 go_wp2_with (go_at_call 93; refine (liteCut_no t _ hi).mono ?_; rintro e w' ⟨rfl, hb⟩)
 go_ret3
 exact ⟨rfl, hb⟩
theorem liteCut_yes (t : ByteArray) (k : Nat) (w : World) (hs : t.size ≤ 140737488351232) (hk : k < t.size) (hi : Lib.indexByte t.data.toList 58 = k) :
    Calls Tryz.prog 93 #[.string t, .string ⟨#[58]⟩] w fun e w' => e = .returned (.tuple #[.string (t.extract 0 k), .string (t.extract (k + 1) t.size), .bool true]) ∧ Below w.heap.size w w' := by
 go_enter Tryz.func93, Tryz.ntmps93
 go_wp2_with (go_at_call 100; refine (index_one t _).mono ?_; rw [hi]; rintro e w' ⟨rfl, rfl⟩)
 go_quiet (fail)
 go_wp2
 go_ret3
 exact ⟨rfl, below_drewN _ _⟩
theorem cut_yes (t : ByteArray) (k : Nat) (w : World) (hs : t.size ≤ 140737488351232) (hk : k < t.size) (hi : Lib.indexByte t.data.toList 58 = k) :
    Calls Tryz.prog 80 #[.string t, .string ⟨#[58]⟩] w fun e w' => e = .returned (.tuple #[.string (t.extract 0 k), .string (t.extract (k + 1) t.size), .bool true]) ∧ Below w.heap.size w w' := by
 go_enter Tryz.func80, Tryz.ntmps80
 go_wp2_with (go_at_call 93; refine (liteCut_yes t k _ hs hk hi).mono ?_; rintro e w' ⟨rfl, hb⟩)
 go_ret3
 exact ⟨rfl, hb⟩
def told (p : ByteArray × ByteArray × Bool) : Value := .tuple #[.string p.1, .string p.2.1, .bool p.2.2]
theorem ret_told {a b : ByteArray} {t : Bool} {p : ByteArray × ByteArray × Bool} (h : p = (a, b, t)) : Ending.returned (.tuple #[.string a, .string b, .bool t]) = .returned (told p) := by rw [h]; rfl
theorem u8_int (a c : UInt8) : (a.toNat : Int) = (c.toNat : Int) ↔ a = c := by
 constructor
 · intro h; exact UInt8.toNat_inj.1 (by omega)
 · intro h; rw [h]
theorem apart_any (s : ByteArray) (c : UInt8) (w : World) (hs : s.size ≤ 140737488351232) :
    Calls Tryz.prog 62 #[.string s, .string ⟨#[c]⟩] w fun e w' => e = .returned (told (parts (c.toNat : Int) s)) ∧ Below w.heap.size w w' := by
 by_cases hp : ∀ h : 0 < s.size, s[0] ≠ c
 · have HP : Hid (parts (c.toNat : Int) s = (nix, nix, false)) := by
     refine parts_other _ _ ?_
     by_cases h0 : s.size = 0
     · exact .inl h0
     · refine .inr (.inl ?_)
       rw [ints_getD s 0 (by omega), ne_eq, u8_int]
       exact hp (by omega)
   go_enter Tryz.func62, Tryz.ntmps62
   go_wp2_with (go_at_call 79; refine (cutPrefix_no s c _ hs hp).mono ?_; rintro e w' ⟨rfl, rfl⟩)
   go_ret3
   exact ⟨ret_told HP.out, Below.refl _ _⟩
 · obtain ⟨h0, hc⟩ : ∃ h : 0 < s.size, s[0] = c := by simpa using hp
   clear hp
   have hg : (ints s).getD 0 0 = (c.toNat : Int) := by rw [ints_getD s 0 h0, hc]
   have hsz : (s.extract 1 s.size).size ≤ 140737488351232 := by simp; omega
   have hii : (s.extract 1 s.size).data.toList.map (fun c => (c.toNat : Int)) = (ints s).drop 1 := ints_extract s 1
   rcases colon_cases s with ⟨k, h1, hk, hkc, hka⟩ | hno
   · have hi : Lib.indexByte (s.extract 1 s.size).data.toList 58 = ((k - 1 : Nat) : Int) := by
       refine idx_hit _ _ ?_ ?_ fun j hj => ?_
       · rw [← Lib.size_eq]; simp; omega
       · rw [hii, getD_drop1, Nat.sub_add_cancel h1]; exact hkc
       · rw [hii, getD_drop1]; exact hka (j + 1) (by omega) (by omega)
     have hcut := fun wx : World => cut_yes (s.extract 1 s.size) (k - 1) wx hsz (by simp; omega) hi
     rw [cut_name s k h1 (by omega), Nat.sub_add_cancel h1, cut_server s k] at hcut
     have HP : Hid (parts (c.toNat : Int) s = if loc (s.extract 1 k) = true ∧ srv (s.extract (k + 1) s.size) = true then (s.extract 1 k, s.extract (k + 1) s.size, true) else (nix, nix, false)) := parts_hit _ s k hg h1 hk hkc hka
     have hl1 : (s.extract 1 k).size ≤ 140737488351232 := by simp; omega
     have hl2 : (s.extract (k + 1) s.size).size ≤ 140737488351232 := by simp; omega
     obtain ⟨t1, ht1⟩ : ∃ t, t = s.extract 1 k := ⟨_, rfl⟩
     obtain ⟨t2, ht2⟩ : ∃ t, t = s.extract (k + 1) s.size := ⟨_, rfl⟩
     rw [← ht1, ← ht2] at HP hcut
     rw [← ht1] at hl1
     rw [← ht2] at hl2
     clear ht1 ht2 hi hii hka hkc
     by_cases hL : loc t1 = true
     · by_cases hS : srv t2 = true
       · go_enter Tryz.func62, Tryz.ntmps62
         go_wp2_with (first
          | (go_at_call 79; refine (cutPrefix_yes s c _ hs h0 hc).mono ?_; rintro e w' ⟨rfl, rfl⟩)
          | (go_at_call 80; refine (hcut _).mono ?_; rintro e w1 ⟨rfl, hb1⟩)
          | (go_at_call 81; refine (local_any t1 _ hl1).mono ?_; rintro e w2 ⟨rfl, hb2⟩)
          | (go_at_call 82; refine (server_any t2 _ hl2).mono ?_; rintro e w3 ⟨rfl, hb3⟩))
         go_ret3
         have c2 := hb1.trans (hb2.mono hb1.size)
         exact ⟨ret_told (by rw [HP.out, if_pos ⟨hL, hS⟩]), c2.trans (hb3.mono c2.size)⟩
       · have hS' : srv t2 = false := by simpa using hS
         go_enter Tryz.func62, Tryz.ntmps62
         go_wp2_with (first
          | (go_at_call 79; refine (cutPrefix_yes s c _ hs h0 hc).mono ?_; rintro e w' ⟨rfl, rfl⟩)
          | (go_at_call 80; refine (hcut _).mono ?_; rintro e w1 ⟨rfl, hb1⟩)
          | (go_at_call 81; refine (local_any t1 _ hl1).mono ?_; rintro e w2 ⟨rfl, hb2⟩)
          | (go_at_call 82; refine (server_any t2 _ hl2).mono ?_; rintro e w3 ⟨rfl, hb3⟩))
         go_ret3
         have c2 := hb1.trans (hb2.mono hb1.size)
         exact ⟨ret_told (by rw [HP.out, if_neg (by simp [hS'])]; rfl), c2.trans (hb3.mono c2.size)⟩
     · have hL' : loc t1 = false := by simpa using hL
       clear hL
       go_enter Tryz.func62, Tryz.ntmps62
       go_wp2_with (first
        | (go_at_call 79; refine (cutPrefix_yes s c _ hs h0 hc).mono ?_; rintro e w' ⟨rfl, rfl⟩)
        | (go_at_call 80; refine (hcut _).mono ?_; rintro e w1 ⟨rfl, hb1⟩)
        | (go_at_call 81; refine (local_any t1 _ hl1).mono ?_; rintro e w2 ⟨rfl, hb2⟩))
       go_ret3
       exact ⟨ret_told (by rw [HP.out, if_neg (by simp [hL'])]; rfl), hb1.trans (hb2.mono hb1.size)⟩
   · have hi : Lib.indexByte (s.extract 1 s.size).data.toList 58 = -1 := by
       refine idx_miss _ fun j hj => ?_
       rw [← Lib.size_eq] at hj
       simp at hj
       rw [hii, getD_drop1]; exact hno (j + 1) (by omega) (by omega)
     have HP : Hid (parts (c.toNat : Int) s = (nix, nix, false)) := parts_other _ _ (.inr (.inr hno))
     have hcut := fun wx : World => cut_no (s.extract 1 s.size) wx hi
     go_enter Tryz.func62, Tryz.ntmps62
     go_wp2_with (first
      | (go_at_call 79; refine (cutPrefix_yes s c _ hs h0 hc).mono ?_; rintro e w' ⟨rfl, rfl⟩)
      | (go_at_call 80; refine (hcut _).mono ?_; rintro e w1 ⟨rfl, hb1⟩))
     go_ret3
     exact ⟨ret_told HP.out, hb1⟩
theorem user_any (s : ByteArray) (w : World) (hs : s.size ≤ 140737488351232) :
    Calls Tryz.prog 42 #[.string s] w fun e w' => e = .returned (told (parts 64 s)) ∧ Below w.heap.size w w' := by
 go_enter Tryz.func42, Tryz.ntmps42
 go_wp2_with (go_at_call 62; refine (apart_any s 64 _ hs).mono ?_; rintro e w1 ⟨rfl, hb1⟩; unfold told)
 go_ret3
 exact ⟨rfl, hb1⟩
end Go.Proofs.YtcaknajjkfiaoaaGreat.Id

/-
  The changes from a row of names to the next, gone through by a function: by a contract.
  The rows of a content: by contracts.
  Parse, by a contract.
-/
import Derived.Test.YtnngalkdjgjmbaaGreatPR07
import Derived.RangeFuncBound
import Derived.RangeFuncCalls
import Derived.RangeFuncLeaves
import Derived.Shelf.Abstract
import Derived.Shelf.RegionOpen
import Derived.OwnWalkIn
import Derived.TacticsInMore
import Derived.LoopNIn
import Derived.LoopIn
import Derived.Laws.StructEq
import Derived.Deep.CutRange
import Derived.Deep.CutBlock
set_option maxRecDepth 100000
set_option maxHeartbeats 16000000
namespace Go.Proofs.YtnngalkdjgjmbaaGreat
open Go.RowKit Go.Maps Go.Shelf
section
attribute [local go_sem] Oper.semAt_some
structure Lay (W W' : World) : Prop where
 size : W.heap.size ≤ W'.heap.size
 same : ∀ (k : Nat) (o : Obj), W.heap[k]? = some o → (o.isCells = true ∨ o.isWalk = true) → W'.heap[k]? = some o
theorem Lay.refl (W : World) : Lay W W := ⟨Nat.le_refl _, fun _ _ h _ => h⟩
theorem Lay.trans {A B C : World} (h : Lay A B) (k : Lay B C) : Lay A C := ⟨Nat.le_trans h.size k.size, fun i o hi ho => k.same i o (h.same i o hi ho) ho⟩
theorem Lay.putObj (W : World) (l : Nat) (o o' : Obj) (h : W.heap[l]? = some o) (hc : o.isCells = false) (hw : o.isWalk = false) : Lay W (W.putObj l o') := by
 have hg := grownBy_putObj' W l o'
 refine ⟨hg.size, fun k x hk hx => ?_⟩
 by_cases e : k = l
 · subst e
   rw [hk] at h
   cases h
   rcases hx with hx | hx
   · rw [hc] at hx; cases hx
   · rw [hw] at hx; cases hx
 · exact (hg.block k (Array.getElem?_eq_some_iff.1 hk).1 (fun h => e (Option.some.inj h))).trans hk
theorem Lay.of_below {W W' : World} (h : Below W.heap.size W W') : Lay W W' := ⟨h.size, fun k _ hk _ => (h.block k (Array.getElem?_eq_some_iff.1 hk).1).trans hk⟩
theorem Lay.map {W W' : World} {M : Nat} {l : Nms} (h : MapN W M l) (k : Lay W W') : MapN W' M l := by
 obtain ⟨o, ho, hw, _⟩ := h.walk
 exact h.same ((k.same M o ho (.inr hw)).trans ho.symm)
theorem Lay.rdN {W W' : World} {O : Nat → Prop} {p : Option Addr} {c : Nat} {l : Nms} (h : RdN O W p c l) (k : Lay W W') : RdN O W' p c l := by
 refine ⟨h.1, fun hn => ?_⟩
 obtain ⟨b, o, hp, hb, hc⟩ := h.2 hn
 have key : ∀ j v, W.cell? ⟨b, j, none⟩ = some v → W'.cell? ⟨b, j, none⟩ = some v := fun j v hv => by
  cases e : W.heap[b]? with
  | none => simp [World.cell?, e] at hv
  | some ob =>
   cases ob with
   | cells cs t fr => rw [← hv]; exact World.cell?_of_block ((k.same b _ e (.inl rfl)).trans e.symm)
   | _ => simp [World.cell?, e] at hv
 exact ⟨b, o, hp, hb, fun j x hj => ⟨key _ _ (hc j x hj).1, key _ _ (hc j x hj).2⟩⟩
theorem own_rdN {w : World} {B : Nat} {v : Value} {l : Nms} (h : w.ownsRow B 50 2 v l.length (flatN l)) : ∃ p c, v = .slice p l.length c ∧ RdN (fun k => B ≤ k ∧ k < w.heap.size) w p c l := by
 rcases h.2 with ⟨rfl, hn⟩ | ⟨g, cap, cur, rfl, hb, hg, hnc, _, hcs, ht⟩
 · obtain rfl : l = [] := List.eq_nil_of_length_eq_zero hn
   exact ⟨none, 0, rfl, RdN.nil _ _ _ _ fun _ => rfl⟩
 · refine ⟨some ⟨g, 0, none⟩, cap, rfl, rdN_of (cur := cur.toList) ⟨hb, objP_lt hg⟩ (by simpa using hg) hnc fun j hj => ?_⟩
   rw [← ht, List.getElem?_take, Nat.zero_add]
   rw [if_pos (by rw [flatN_len] at hj; exact hj)]
theorem fieldsHeld : Tryz.prog.underlying 81 = some (.struct (Tryz.prog.fieldsOf 81)) := by kernel_rfl
theorem stoodHeld : Tryz.prog.stoodInHeld 81 = false := by kernel_rfl
theorem fieldsH : (Tryz.prog.fieldsOf 81).toList = [{ name := "has", type := 4, offset := 0, embedded := false, tag := "", pkgPath := "agora/power", byteOffset := 0 }, { name := "level", type := 2, offset := 1, embedded := false, tag := "", pkgPath := "agora/power", byteOffset := 8 }] := by kernel_rfl
theorem held_neq (w : World) (x y : Option Int) : (binOp .neq 81 (.agg #[.bool x.isSome, .int .i64 (x.getD 0)]) (.agg #[.bool y.isSome, .int .i64 (y.getD 0)])).run Tryz.prog w = .ok (.bool (!(x == y))) w := by
 have h4 : Tryz.prog.underlying 4 = some .bool := by kernel_rfl
 have h2 : Tryz.prog.underlying 2 = some (.int .i64) := by kernel_rfl
 rw [run_neq_struct, run_equalIn_agg w 9999 81 _ _ fieldsHeld stoodHeld, fieldsH]
 have p0 : ∀ W (b : Bool) (m : Int), (part 4 #[.bool b, .int .i64 m] 0).run Tryz.prog W = .ok (.bool b) W := fun W b m => by simp [go_sem, part]
 have p1 : ∀ W (b : Bool) (m : Int), (part 2 #[.bool b, .int .i64 m] 1).run Tryz.prog W = .ok (.int .i64 m) W := fun W b m => by simp [go_sem, part]
 have e0 : ∀ (W : World) (a b : Bool), (Op.equalIn 9999 4 (.bool a) (.bool b)).run Tryz.prog W = .ok (a == b) W := fun W a b => run_equalIn_bool' W 9998 4 a b h4
 have e1 : ∀ (W : World) (a b : Int), (Op.equalIn 9999 2 (.int .i64 a) (.int .i64 b)).run Tryz.prog W = .ok (a == b) W := fun W a b => run_equalIn_int W 9998 2 .i64 .i64 a b h2
 cases x with
 | none =>
  cases y with
  | none => simp [Op.eqFields, p0, p1, e0, e1, Result.andThen]
  | some y => simp [Op.eqFields, p0, e0, Result.andThen]
 | some x =>
  cases y with
  | none => simp [Op.eqFields, p0, e0, Result.andThen]
  | some y => by_cases h : x = y <;> simp [Op.eqFields, p0, p1, e0, e1, Result.andThen, h]
theorem heldV_eq (x : Option Int) : heldV x = .agg #[.bool x.isSome, .int .i64 (x.getD 0)] := by cases x <;> rfl
theorem below_grownP {w w' : World} (h : Below w.heap.size w w') : w.grownBy w' none := ⟨h.os, h.tape, h.output, h.size, fun k hk _ => h.block k hk⟩
theorem chs_pre {α : Type} (f : α → Chg) : ∀ (l : List α) (k : Nat), ((l.take k).map f).filter Chg.turns <+: (l.map f).filter Chg.turns
 | l, k => by
  conv => rhs; rw [← List.take_append_drop k l, List.map_append, List.filter_append]
  exact List.prefix_append _ _
theorem changes_fn {w : World} (p q : Option Addr) (n c m d : Nat) :
    Calls Tryz.prog 43 #[.slice p n c, .slice q m d] w fun e w' => e = .returned (.func (.func 58) #[] #[.pointer (some ⟨w.heap.size, 0, none⟩), .pointer (some ⟨w.heap.size + 1, 0, none⟩)]) ∧ w' = (w.alloc (.cells #[.slice p n c] 32)).alloc (.cells #[.slice q m d] 32) := by
 go_enter Tryz.func43, Tryz.ntmps43
 go_wp2
 go_ret
 exact ⟨rfl, rfl⟩
theorem changes_in (n l B1 B2 : Nat) (hn : 1 ≤ n) {O : Nat → Prop} {a b : Nms} {p q : Option Addr} {c d : Nat} (J Jx : List Chg → World → Prop) (W : World) (hJ : AbidesFrom W.heap.size J)
    (ha : RdN O W p c a) (hb : RdN O W q d b) (hO : ∀ k, O k → k < W.heap.size) (hza : SzN a) (hzb : SzN b)
    (h1 : W.cell? ⟨B1, 0, none⟩ = some (.slice p a.length c)) (h2 : W.cell? ⟨B2, 0, none⟩ = some (.slice q b.length d)) (hB1 : B1 < W.heap.size) (hB2 : B2 < W.heap.size)
    (hY : ∀ pre x W1, J pre W1 → pre.length < (a ++ b).length → YieldAt Fence.wide (n - 1) Tryz.prog l #[valC x] W1 fun e W' => (e = .returned (.bool true) ∧ J (pre ++ [x]) W' ∧ Lay W1 W') ∨ (e = .returned (.bool false) ∧ Jx (pre ++ [x]) W'))
    (h0 : J [] W) :
    CallsIn Fence.wide n Tryz.prog 58 #[.func (.yield l) #[] #[], .pointer (some ⟨B1, 0, none⟩), .pointer (some ⟨B2, 0, none⟩)] W fun e W' => (∃ v, e = .returned v) ∧ ((∃ xs, xs = chs a b (a ++ b) ∧ J xs W') ∨ (∃ pre, pre <+: chs a b (a ++ b) ∧ Jx pre W')) := by
 refine callsIn_wide.2 ?_
 have HB1 : Hid (∀ X, Below W.heap.size W X → Calls Tryz.prog 59 #[.slice p a.length c] X fun e w' => (∃ M, e = .returned (.map (some M)) ∧ X.heap.size ≤ M ∧ MapN w' M a) ∧ Below X.heap.size X w') := fun X hX => byName_any (ha.below hO hX) (fun k hk => Nat.lt_of_lt_of_le (hO k hk) hX.size) hza
 have HB2 : Hid (∀ X, Below W.heap.size W X → Calls Tryz.prog 59 #[.slice q b.length d] X fun e w' => (∃ M, e = .returned (.map (some M)) ∧ X.heap.size ≤ M ∧ MapN w' M b) ∧ Below X.heap.size X w') := fun X hX => byName_any (hb.below hO hX) (fun k hk => Nat.lt_of_lt_of_le (hO k hk) hX.size) hzb
 have HCC : Hid (∀ X, Below W.heap.size W X → X.cell? ⟨B1, 0, none⟩ = some (.slice p a.length c) ∧ X.cell? ⟨B2, 0, none⟩ = some (.slice q b.length d)) := fun X hX => ⟨(hX.cell (p := ⟨B1, 0, none⟩) hB1).trans h1, (hX.cell (p := ⟨B2, 0, none⟩) hB2).trans h2⟩
 have HCo : Hid (∀ X g, Below W.heap.size W X → X.heap[g]? = some (.cells #[.slice p a.length c, .slice q b.length d] 32 (0, 0)) → Calls Tryz.prog 60 #[.slice (some ⟨g, 0, none⟩) 2 2] X fun e w' => (∃ v, e = .returned v ∧ w'.ownsRow X.heap.size 50 2 v (a ++ b).length (flatN (a ++ b))) ∧ Below X.heap.size X w') := fun X g hX hg =>
  concat_any (ha.below hO hX) (hb.below hO hX) (fun k hk => Nat.lt_of_lt_of_le (hO k hk) hX.size) hza hzb (cellP hg 0 _ rfl) (cellP hg 1 _ rfl) (objP_lt hg)
 obtain ⟨na, hna⟩ : ∃ n, a.length = n := ⟨_, rfl⟩
 obtain ⟨nb, hnb⟩ : ∃ n, b.length = n := ⟨_, rfl⟩
 rw [hna] at HB1 HCC HCo
 rw [hnb] at HB2 HCC HCo
 have HNA : Hid (a.length = na) := hna
 have HNB : Hid (b.length = nb) := hnb
 have HAB : Hid (SzN a ∧ SzN b) := ⟨hza, hzb⟩
 have HJ0 : Hid (J [] W) := h0
 have HJ : Hid (AbidesFrom W.heap.size J) := hJ
 have HY : Hid (∀ pre x W1, J pre W1 → pre.length < (a ++ b).length → YieldAt Fence.wide (n - 1) Tryz.prog l #[valC x] W1 fun e W' => (e = .returned (.bool true) ∧ J (pre ++ [x]) W' ∧ Lay W1 W') ∨ (e = .returned (.bool false) ∧ Jx (pre ++ [x]) W')) := hY
 clear hna hnb ha hb hza hzb h1 h2 h0 hJ hY
 obtain ⟨ab, hab⟩ : ∃ ab, a ++ b = ab := ⟨_, rfl⟩
 have HZ : Hid (SzN a ∧ SzN b) := HAB
 have HL : Hid (ab.length = na + nb ∧ na ≤ 100000 ∧ nb ≤ 100000) := ⟨by rw [← hab, List.length_append, HNA.out, HNB.out], by have := HZ.out.1.1; have := HNA.out; omega, by have := HZ.out.2.1; have := HNB.out; omega⟩
 have HOK : Hid (∀ k, k < ab.length → okP (ab.getD k zN).1) := fun k hk => by
  apply okP_of
  rw [List.getD_eq_getElem?_getD, List.getElem?_eq_getElem hk]
  have : ab[k] ∈ a ++ b := by rw [hab]; exact List.getElem_mem hk
  rcases List.mem_append.1 this with h | h
  · exact HZ.out.1.2 _ h
  · exact HZ.out.2.2 _ h
 rw [hab] at HCo HY ⊢
 clear hab
 go_enter Tryz.func58, Tryz.ntmps58
 go_upto_region 0 with fail
 refine wp_region_in (by kernel_rfl) (fun w' => Below W.heap.size W w') ?_
 change wpIn _ _ _ _ _ _ _ _ (World.drew _)
 have hD : Below W.heap.size W W.drew := (Below.refl _ _).drew
 refine wpIn_tp (i := 0) (d := some 9) rfl (by (intro wq hq; obtain ⟨z1, z2⟩ := HCC.out wq hq; go_simp; first | done | with_reducible rfl)) ?_
 refine wpIn_tp (i := 2) (d := some 11) rfl (by (intro wq hq; obtain ⟨z1, z2⟩ := HCC.out wq hq; go_simp; first | done | with_reducible rfl)) ?_
 refine wpIn_do (i := 1) hD (by kernel_rfl) rfl (by rfl) ?_
 intro K hK
 go_simp
 go_wp2_with (go_at_call 59; refine (HB1.out _ hD).mono ?_; rintro e w1 ⟨⟨M, rfl, hM0, hM⟩, hb1⟩)
 have hD1 : Below W.heap.size W w1 := belowP hD hb1
 refine wpIn_do (i := 3) hD1 (by kernel_rfl) rfl (by rfl) ?_
 intro K hK
 go_simp
 go_wp2_with (go_at_call 59; refine (HB2.out _ hD1).mono ?_; rintro e w2 ⟨⟨N, rfl, hN0, hN⟩, hb2⟩)
 have hD2 : Below W.heap.size W w2 := belowP hD1 hb2
 refine wpIn_tk (i := 4) (d := some 4) rfl ?_
 refine wpIn_tk (i := 5) (d := some 5) rfl ?_
 refine wpIn_done hD2 (by kernel_rfl) ?_ _
 obtain ⟨z1, z2⟩ := HCC.out w2 hD2
 have hbA : Below W.heap.size W (w2.alloc (.cells #[.slice p na c, .slice q nb d] 32)) := belowP hD2 ((Below.refl _ _).alloc (Nat.le_refl _) _)
 have hCo := HCo.out _ w2.heap.size hbA (newP _)
 have HM : Hid (MapN w2 M a) := hM.same (hb2.block M hM.lt)
 have HN : Hid (MapN w2 N b) := hN
 clear hb1 hb2 hM hN HB1 HB2 HCC HCo
 obtain ⟨n', hn'⟩ : ∃ m, ab.length = m := ⟨_, rfl⟩
 have HN' : Hid (ab.length = n') := hn'
 have hnb : n' ≤ 200000 := by have := HL.out; omega
 rw [hn'] at hCo
 clear hn'
 go_wp2_with (go_at_call 60; refine hCo.mono ?_; rintro e w3 ⟨⟨v, rfl, hown⟩, hb3⟩; rw [← HN'.out] at hown; obtain ⟨pr, cr, rfl, hrd⟩ := own_rdN hown; rw [HN'.out])
 have hD3 : Below W.heap.size W w3 := belowP hbA hb3
 have HM3 : Hid (MapN w3 M a) := (HM.out.same (Below.heap_alloc _ _ _ HM.out.lt)).same (hb3.block M (by have := HM.out.lt; simp; omega))
 have HN3 : Hid (MapN w3 N b) := (HN.out.same (Below.heap_alloc _ _ _ HN.out.lt)).same (hb3.block N (by have := HN.out.lt; simp; omega))
 have HR3 : Hid (RdN (fun k => (w2.alloc (.cells #[.slice p na c, .slice q nb d] 32)).heap.size ≤ k ∧ k < w3.heap.size) w3 pr cr ab) := hrd
 have hc3 := hrd.1.1
 rw [HN'.out] at hc3
 clear hrd hown z1 z2 hCo hD hD1 hD2 HM HN
 go_loopw [18] (fun i wr => ∃ k : Nat, i = .int .i64 k ∧ k ≤ n' ∧ J (chs a b (ab.take k)) wr ∧ Lay w3 wr) (fun i _ => n' - (intOf i).toNat)
 case atStart => exact ⟨0, rfl, Nat.zero_le _, HJ.out [] W w3 none HJ0.out (below_grownP hD3) (fun r e => by cases e), Lay.refl _⟩
 case round =>
  obtain ⟨k, rfl, hk, hj, hly⟩ := hrel
  by_cases hkn : k < n'
  · have hkl : k < ab.length := by rw [HN'.out]; exact hkn
    obtain ⟨rb, ro, rfl, _, g1, g2⟩ := (Lay.rdN HR3.out hly).at hkl
    have hok := HOK.out k hkl
    have HT : Hid (ab.take (k + 1) = ab.take k ++ [ab.getD k zN]) := takeP_one hkl
    generalize ab.getD k zN = x at g1 g2 HT hok
    obtain ⟨xn, xl⟩ := x
    simp only at g1 g2 hok
    have hlk1 := ((Lay.map HM3.out hly).same (w' := wr.alloc (.cells #[.string xn, .int .i64 xl] 50)) (Below.heap_alloc _ _ _ (Lay.map HM3.out hly).lt)).look hok
    have hlk2 := ((Lay.map HN3.out hly).same (w' := wr.alloc (.cells #[.string xn, .int .i64 xl] 50)) (Below.heap_alloc _ _ _ (Lay.map HN3.out hly).lt)).look hok
    rw [heldV_eq] at hlk1 hlk2
    have HCH : Hid (chs a b (ab.take (k + 1)) = if (Chg.turns ⟨xn, fnd a xn, fnd b xn⟩) = true then chs a b (ab.take k) ++ [⟨xn, fnd a xn, fnd b xn⟩] else chs a b (ab.take k)) := by show _ = _; rw [HT.out, chs_snoc]; rfl
    have HPR : Hid (chs a b (ab.take (k + 1)) <+: chs a b ab) := chs_pre _ _ _
    have HLN : Hid ((chs a b (ab.take k)).length < ab.length) := by
     show _ < _
     have := chs_len a b (ab.take k)
     rw [List.length_take] at this
     omega
    generalize fnd a xn = oa at hlk1 HCH
    generalize fnd b xn = ob at hlk2 HCH
    have hneq := held_neq
    have hbW : Below wr.heap.size wr ((wr.alloc (.cells #[.string xn, .int .i64 xl] 50)).alloc (.cells #[.string xn, .bool oa.isSome, .int .i64 (oa.getD 0), .bool ob.isSome, .int .i64 (ob.getD 0)] 83)) := ((Below.refl _ _).alloc (Nat.le_refl _) _).alloc (by simp) _
    have hj5 := HJ.out _ _ _ none hj (below_grownP hbW) (fun r e => by cases e)
    cases ht : (!(oa == ob)) with
    | true =>
     have HC1 : Hid (chs a b (ab.take (k + 1)) = chs a b (ab.take k) ++ [⟨xn, oa, ob⟩]) := by show _ = _; rw [HCH.out, if_pos (show Chg.turns ⟨xn, oa, ob⟩ = true from ht)]
     obtain ⟨fn, tm, asg, bod, hy, hR⟩ := HY.out _ ⟨xn, oa, ob⟩ _ hj5 HLN.out
     simp only [valC, cellsC] at hy
     refine (wpIn_wide (n := n)).1 ?_
     gi_wp2
     refine hR.mono ?_
     rintro e W6 (⟨rfl, hJ6, hk6⟩ | ⟨rfl, hJx6⟩)
     · gi_wp2
       go_roundw
       case rel => exact ⟨k + 1, by simp, by omega, by rw [HC1.out]; exact hJ6, (hly.trans (Lay.of_below hbW)).trans hk6⟩
       case measure => simp [intOf]; omega
     · gi_wp2
       refine bodyPost_ret (results_none rfl _ _ _) rfl ?_
       exact ⟨⟨_, rfl⟩, .inr ⟨_, HPR.out, by rw [HC1.out]; exact hJx6⟩⟩
    | false =>
     have HC1 : Hid (chs a b (ab.take (k + 1)) = chs a b (ab.take k)) := by show _ = _; rw [HCH.out, if_neg (by unfold Chg.turns; rw [ht]; decide)]
     go_wp2
     go_roundw
     case rel => exact ⟨k + 1, by simp, by omega, by rw [HC1.out]; exact hj5, hly.trans (Lay.of_below hbW)⟩
     case measure => simp [intOf]; omega
  · obtain rfl : k = n' := by omega
    have HJE : Hid (J (chs a b ab) wr) := by show J _ _; rw [← List.take_length (l := ab), HN'.out]; exact hj
    clear hj
    go_wp2
    go_end0
    exact ⟨⟨_, rfl⟩, .inl ⟨_, rfl, HJE.out⟩⟩
theorem changes_seq (n B1 B2 : Nat) (hn : 1 ≤ n) {O : Nat → Prop} {a b : Nms} {p q : Option Addr} {c d : Nat} {w : World}
    (ha : RdN O w p c a) (hb : RdN O w q d b) (hO : ∀ k, O k → k < w.heap.size) (hza : SzN a) (hzb : SzN b)
    (h1 : w.cell? ⟨B1, 0, none⟩ = some (.slice p a.length c)) (h2 : w.cell? ⟨B2, 0, none⟩ = some (.slice q b.length d)) (hB1 : B1 < w.heap.size) (hB2 : B2 < w.heap.size) :
    SeqStopsK Fence.wide n Tryz.prog 58 #[.pointer (some ⟨B1, 0, none⟩), .pointer (some ⟨B2, 0, none⟩)] (fun x : Chg => #[valC x]) Lay (fun ys => ys = chs a b (a ++ b)) (fun pre => pre <+: chs a b (a ++ b)) (a ++ b).length w := fun l J Jx W hW hJ _ hY h0 =>
 changes_in n l B1 B2 hn J Jx W hJ (ha.below hO hW) (hb.below hO hW) (fun k hk => Nat.lt_of_lt_of_le (hO k hk) hW.size) hza hzb ((hW.cell (p := ⟨B1, 0, none⟩) hB1).trans h1) ((hW.cell (p := ⟨B2, 0, none⟩) hB2).trans h2) (Nat.lt_of_lt_of_le hB1 hW.size) (Nat.lt_of_lt_of_le hB2 hW.size) hY h0
end
end Go.Proofs.YtnngalkdjgjmbaaGreat
namespace Go.Proofs.YtnngalkdjgjmbaaGreat
open Go.RowKit
def isU (s : ByteArray) : Bool := (Id.parts 64 s).2.2
def isT (s : ByteArray) : Bool := Id.typ s
theorem isUser_any {w : World} (s : ByteArray) (hs : s.size ≤ 1000000000) : Calls Tryz.prog 26 #[.string s] w fun e w' => e = .returned (.bool (isU s)) ∧ Below w.heap.size w w' := by
 have hU := Id.user_any s w (by omega)
 unfold isU
 generalize Id.parts 64 s = x at hU
 obtain ⟨x1, x2, x3⟩ := x
 simp only [Id.told] at hU
 go_enter Tryz.func26, Tryz.ntmps26
 go_wp2_with (go_at_call 50; refine hU.mono ?_; rintro e w1 ⟨rfl, hb1⟩)
 go_ret
 exact ⟨rfl, hb1⟩
theorem isType_any {w : World} (s : ByteArray) (hs : s.size ≤ 1000000000) : Calls Tryz.prog 27 #[.string s] w fun e w' => e = .returned (.bool (isT s)) ∧ Below w.heap.size w w' := Id.type_any s w (by omega)
def rowsOf (v : J) : Nms := (v.ks.zip v.ls).map fun q => (q.1, q.2.nm)
def badIn (fit : ByteArray → Bool) (q : ByteArray × J) : Bool := !fit q.1 || !lvOk q.2.kd q.2.nm
def rowT (fit : ByteArray → Bool) : Option J → Nms × Bool
 | none => ([], false)
 | some v => (rowsOf v, !decide (v.kd = 5) || (v.ks.zip v.ls).any (badIn fit))
theorem zip_at {ks : List ByteArray} {l : List J} {n : Nat} (h : n < ks.length) (hl : ks.length ≤ l.length) : (ks.zip l).take (n + 1) = (ks.zip l).take n ++ [(ks.getD n nix, l.getD n J.zero)] := by
 have hz : n < (ks.zip l).length := by rw [List.length_zip]; omega
 rw [takeP_one (z := (nix, J.zero)) hz]
 congr 2
 rw [List.getD_eq_getElem?_getD, List.getElem?_eq_getElem hz]
 simp only [List.getElem_zip, Option.getD_some]
 rw [List.getD_eq_getElem?_getD, List.getElem?_eq_getElem h, List.getD_eq_getElem?_getD, List.getElem?_eq_getElem (by omega : n < l.length)]
 rfl
theorem row_users {O : Nat → Prop} {w : World} {Rb d : Nat} {j : J} {k i : Int} {t : ByteArray} {pk pl : Option Addr} {nk ck nl cl : Nat} {bad : Bool} (hR : RdrIs w Rb (.int .i64 k) (.int .i64 i) (.string t) (.slice pk nk ck) (.slice pl nl cl) bad)
    (hj : isJ O w j [.int .i64 k, .int .i64 i, .string t, .slice pk nk ck, .slice pl nl cl]) (hO : ∀ x, O x → x < w.heap.size ∧ x ≠ Rb) (hok : OkJ (d + 2) j) (s : ByteArray) :
    Calls Tryz.prog 25 #[.pointer (some ⟨Rb, 0, none⟩), .string s, .func (.func 26) #[] #[]] w fun e w' => (∃ p c, e = .returned (.slice p (rowT isU (lookV j.ks j.ls s)).1.length c) ∧ RdN (fun b => w.heap.size ≤ b ∧ b < w'.heap.size) w' p c (rowT isU (lookV j.ks j.ls s)).1) ∧ RdrIs w' Rb (.int .i64 k) (.int .i64 i) (.string t) (.slice pk nk ck) (.slice pl nl cl) (bad || (rowT isU (lookV j.ks j.ls s)).2) ∧ Keep (OneP Rb) w w' := by
 have hU := under_any hR hj (fun x hx => (hO x hx).1) hok s
 have HR : Hid (∀ X, Below w.heap.size w X → RdrIs X Rb (.int .i64 k) (.int .i64 i) (.string t) (.slice pk nk ck) (.slice pl nl cl) bad) := fun X hX => (hX.block Rb (objP_lt hR)).trans hR
 have hlt := objP_lt hR
 have HOK : Hid (∀ v, lookV j.ks j.ls s = some v → OkJ (d + 1) v) := fun v hv => by
  obtain ⟨_, _, _, _, _⟩ := j
  exact hok.parts.2.2.2.2.2 v (lookJ_mem hv)
 clear hR hj hok
 generalize lookV j.ks j.ls s = o at hU HOK
 cases o with
 | none =>
  go_enter Tryz.func25, Tryz.ntmps25
  go_wp2_with (go_at_call 48; refine hU.mono ?_; rintro e w1 ⟨he, hb1⟩; replace he : e = _ := he; subst he)
  go_ret
  have hbE := belowP hb1 ((Below.refl _ _).alloc (Nat.le_refl _) (.cells #[.int .i64 0, .int .i64 0, .string ⟨#[]⟩, .slice none 0 0, .slice none 0 0] 25))
  refine ⟨⟨none, 0, rfl, RdN.nil _ _ _ _ fun _ => rfl⟩, ?_, Keep.of_below hbE⟩
  simp only [rowT, Bool.or_false]
  exact HR.out _ hbE
 | some v =>
  have hokv := HOK.out v rfl
  obtain ⟨kv, iv, tv, ks, ls⟩ := v
  have hkn := hokv.parts.2.2.2.1
  have HKS : Hid (∀ x ∈ ks, x.size ≤ 1000000000) := hokv.parts.2.2.2.2.1
  have HLE : Hid (ks.length ≤ ls.length) := hokv.lens
  have HNE : Hid (kv ≠ 5 → ks = []) := hokv.parts.2.2.1
  clear hokv HOK
  obtain ⟨nv, hnv⟩ : ∃ n, ks.length = n := ⟨_, rfl⟩
  obtain ⟨mv, hmv⟩ : ∃ n, ls.length = n := ⟨_, rfl⟩
  have HNV : Hid (ks.length = nv) := hnv
  have HMV : Hid (ls.length = mv) := hmv
  rw [hnv] at hkn
  clear hnv hmv
  go_enter Tryz.func25, Tryz.ntmps25
  go_upto_region 2 with (go_at_call 48; refine hU.mono ?_; rintro e w1 ⟨⟨kv', iv', tv', pv, nv', cv, qv, mv', dv, rfl, hv⟩, hb1⟩; obtain ⟨rfl, rfl, rfl, rfl, rfl, hvk, hvc, hvs⟩ := isJP_parts hv; rw [HNV.out, HMV.out]; rw [HMV.out] at hvc; clear hv)
  obtain ⟨W1, hW1⟩ : ∃ W1, W1 = w1.alloc (.cells #[.int .i64 kv', .int .i64 iv', .string tv', .slice pv nv cv, .slice qv mv dv] 25) := ⟨_, rfl⟩
  have hbW : Below w.heap.size w W1 := by rw [hW1]; exact belowP hb1 ((Below.refl _ _).alloc (Nat.le_refl _) _)
  have hs1 := hb1.size
  have hX : W1.heap[w1.heap.size]? = some (.cells #[.int .i64 kv', .int .i64 iv', .string tv', .slice pv nv cv, .slice qv mv dv] 25 (0, 0)) := by rw [hW1]; exact newP _
  have hsW : w1.heap.size < W1.heap.size := objP_lt hX
  have HRW : Hid (RdrIs W1 Rb (.int .i64 k) (.int .i64 i) (.string t) (.slice pk nk ck) (.slice pl nl cl) bad) := HR.out W1 hbW
  have HOB : Hid (∀ x, O x → x < W1.heap.size ∧ x ≠ Rb) := fun x hx => ⟨Nat.lt_of_lt_of_le (hO x hx).1 hbW.size, (hO x hx).2⟩
  have HVK : Hid (RdK O W1 pv cv ks) := hvk.carry fun x hx => ⟨hx, (by rw [hW1]; exact Below.heap_alloc _ _ _ (Nat.lt_of_lt_of_le (hO x hx).1 hb1.size))⟩
  have HVS : Hid (isJs O W1 qv 0 ls) := isJs.carry (fun x hx => ⟨hx, (by rw [hW1]; exact Below.heap_alloc _ _ _ (Nat.lt_of_lt_of_le (hO x hx).1 hb1.size))⟩) qv 0 ls hvs
  have hck := hvk.1
  rw [HNV.out] at hck
  have b0 := cellP hX 0 _ rfl; have b3 := cellP hX 3 _ rfl
  have r5 := cellP HRW.out 5 _ rfl
  have rz := fzP HRW.out 5
  rw [← hW1]
  clear hvk hvs hU hW1 hb1
  by_cases hk5 : kv' = 5
  · subst hk5
    go_wp2
    have HBX : Hid (W1.heap[w1.heap.size]? = some (.cells #[.int .i64 5, .int .i64 iv', .string tv', .slice pv nv cv, .slice qv mv dv] 25 (0, 0))) := hX
    clear r5 rz b0 b3 hX
    go_loopw [9, 29] (fun v x wx => ∃ n : Nat, x = .int .i64 n ∧ n ≤ nv ∧ wx.ownsRow W1.heap.size 50 2 v (((ks.zip ls).take n).map fun q => (q.1, q.2.nm)).length (flatN (((ks.zip ls).take n).map fun q => (q.1, q.2.nm))) ∧ RdrIs wx Rb (.int .i64 k) (.int .i64 i) (.string t) (.slice pk nk ck) (.slice pl nl cl) (bad || ((ks.zip ls).take n).any (badIn isU)) ∧ Keep (OneP Rb) W1 wx) (fun _ x _ => nv - (intOf x).toNat)
    case atStart => exact ⟨0, rfl, Nat.zero_le _, World.ownsRow_nil _ _ _ _, by simpa using HRW.out, Keep.refl _ _⟩
    case round =>
     obtain ⟨n, rfl, hn, hown, hrd, hkp⟩ := hrel
     have HF : Hid (∀ X, Keep (OneP Rb) W1 X → X.cell? ⟨w1.heap.size, 4, none⟩ = some (.slice qv mv dv)) := fun X hX => (World.cell?_of_block (a := ⟨w1.heap.size, 4, none⟩) (hX.block w1.heap.size hsW (by unfold OneP; omega))).trans (cellP HBX.out 4 _ rfl)
     by_cases hnv : n < nv
     · have hnk : n < ks.length := by rw [HNV.out]; exact hnv
       have hnm : n < mv := by have := HLE.out; rw [HNV.out, HMV.out] at this; omega
       have HT : Hid ((ks.zip ls).take (n + 1) = (ks.zip ls).take n ++ [(ks.getD n nix, ls.getD n J.zero)]) := zip_at hnk HLE.out
       obtain ⟨ad, rfl, hOa, hck1⟩ := HVK.out.2 n hnk
       have hkey : wr.cell? (ad.add n) = some (.string (ks.getD n nix)) := (World.cell?_of_block (by rw [add_block]; exact hkp.block _ (HOB.out _ hOa).1 (by unfold OneP; exact (HOB.out _ hOa).2))).trans hck1
       have hksz : (ks.getD n nix).size ≤ 1000000000 := by rw [List.getD_eq_getElem?_getD, List.getElem?_eq_getElem hnk]; exact HKS.out _ (List.getElem_mem hnk)
       obtain ⟨lb, lo, cs, hpl, hOb, hcells, hyj⟩ := isJs.at ls 0 n HVS.out (by rw [HMV.out]; exact hnm)
       subst hpl
       obtain ⟨ke, ie, te, pe, ne, ce, qe, me, de, rfl⟩ := isJ_shape hyj
       have HE : Hid ((ls.getD n J.zero).kd = ke ∧ (ls.getD n J.zero).nm = ie) := by
        generalize ls.getD n J.zero = y at hyj
        obtain ⟨_, _, _, _, _⟩ := y
        obtain ⟨rfl, rfl, _⟩ := isJP_parts hyj
        exact ⟨rfl, rfl⟩
       have HC : Hid (∀ X, Keep (OneP Rb) W1 X → X.cell? ⟨lb, lo + n * 5, none⟩ = some (.int .i64 ke) ∧ X.cell? ⟨lb, lo + n * 5 + 1, none⟩ = some (.int .i64 ie) ∧ X.cell? ⟨lb, lo + n * 5 + 2, none⟩ = some (.string te) ∧ X.cell? ⟨lb, lo + n * 5 + 3, none⟩ = some (.slice pe ne ce) ∧ X.cell? ⟨lb, lo + n * 5 + 4, none⟩ = some (.slice qe me de)) := fun X hX => by
        have cc : ∀ m v, [Value.int .i64 ke, .int .i64 ie, .string te, .slice pe ne ce, .slice qe me de][m]? = some v → X.cell? ⟨lb, lo + n * 5 + m, none⟩ = some v := fun m v h => by
         have := hcells m v h
         rw [Nat.zero_add] at this
         exact (World.cell?_of_block (a := ⟨lb, lo + n * 5 + m, none⟩) (hX.block lb (HOB.out lb hOb).1 (by unfold OneP; exact (HOB.out lb hOb).2))).trans this
        exact ⟨cc 0 _ rfl, cc 1 _ rfl, cc 2 _ rfl, cc 3 _ rfl, cc 4 _ rfl⟩
       have HB : Hid (∀ b, b = (bad || ((ks.zip ls).take n).any (badIn isU)) → (b || (!isU (ks.getD n nix) || !lvOk ke ie)) = (bad || ((ks.zip ls).take (n + 1)).any (badIn isU))) := fun b hb => by
        rw [hb, HT.out, List.any_append, Bool.or_assoc]
        simp only [List.any_cons, List.any_nil, Bool.or_false, badIn, HE.out.1, HE.out.2]
       have HL : Hid ((((ks.zip ls).take (n + 1)).map fun q => (q.1, q.2.nm)) = (((ks.zip ls).take n).map fun q => (q.1, q.2.nm)) ++ [(ks.getD n nix, ie)]) := by
        show _ = _
        rw [HT.out, List.map_append]
        simp only [List.map_cons, List.map_nil, HE.out.2]
       have HLN : Hid ((((ks.zip ls).take n).map fun q => (q.1, q.2.nm)).length ≤ 100000) := by
        show _ ≤ _
        simp only [List.length_map, List.length_take]
        omega
       have hlb := (HOB.out lb hOb).1
       generalize (((ks.zip ls).take n).map fun q => (q.1, q.2.nm)) = L at hown HL HLN
       obtain ⟨bn, hbn⟩ : ∃ b, b = (bad || ((ks.zip ls).take n).any (badIn isU)) := ⟨_, rfl⟩
       rw [← hbn] at hrd
       have HB2 := (show Hid _ from HB.out bn hbn)
       clear hbn HB hcells hyj hck1
       generalize ks.getD n nix = K at hkey hksz HB2 HL
       have hFt := isUser_any (w := wr) K hksz
       have hRl := (hown.lt)
       have HOwn : Hid (wr.ownsRow W1.heap.size 50 2 _ L.length (flatN L)) := hown
       have HRd : Hid (RdrIs wr Rb (.int .i64 k) (.int .i64 i) (.string t) (.slice pk nk ck) (.slice pl nl cl) bn) := hrd
       have HKp : Hid (Keep (OneP Rb) W1 wr) := hkp
       have hsx := hkp.size
       have hRbx : Rb < wr.heap.size := by omega
       clear hown hrd hkp hRl
       cases hft : isU K with
       | true =>
        rw [hft] at hFt HB2
        go_wp2_with (first
         | (go_at_call 26; refine hFt.mono ?_; rintro e w2 ⟨rfl, hb2⟩
            have hk2 : Keep (OneP Rb) wr w2 := Keep.of_below hb2
            have x4 := HF.out w2 (HKp.out.then hk2)
            obtain ⟨e0, e1, e2, e3, e4⟩ := HC.out w2 (HKp.out.then hk2)
            have hLv := level_any ((hb2.block Rb hRbx).trans HRd.out) ke ie te pe qe ne ce me de
            have HK2 : Hid (Keep (OneP Rb) wr w2) := hk2
            clear hk2 hb2)
         | (go_at_call 49; refine hLv.mono ?_; rintro e w4 ⟨rfl, hr4, hk4⟩
            have hkx : Keep (OneP Rb) wr w4 := HK2.out.then hk4
            have hownA := (own_keep HOwn.out hkx (fun q hq => by have := (HOwn.out.lt q hq).1; unfold OneP; omega)).alloc (.cells #[.string K, .int .i64 ie] 50)
            have hrdA : RdN (fun _ => True) (w4.alloc (.cells #[.string K, .int .i64 ie] 50)) (some ⟨w4.heap.size, 0, none⟩) 1 [(K, ie)] := rdN_flat (l := [(K, ie)]) trivial (newP _)
            have hsz4 : W1.heap.size ≤ (w4.alloc (.cells #[.string K, .int .i64 ie] 50)).heap.size := by have := hkx.size; simp; omega
            have HR4 := (show Hid _ from hr4)
            have HKX : Hid (Keep (OneP Rb) wr w4) := hkx
            clear hr4 hk4 hkx e0 e1 e2 e3 e4 x4 hLv)
         | (refine wpList_append_rdN rfl _ _ rfl W1.heap.size _ L rfl hownA hrdA rfl (by have := HLN.out; omega) (by simp) hsz4 ?_; intro v5 w5 hown5 hg5))
        go_roundw
        case rel =>
         have hkA : Keep (OneP Rb) W1 (w4.alloc (.cells #[.string K, .int .i64 ie] 50)) := (HKp.out.then HKX.out).alloc _
         have hlt4 := objP_lt HR4.out
         refine ⟨n + 1, by simp, by omega, by rw [HL.out]; exact hown5, ?_, hkA.grown hg5 (fun q hq => (hownA.lt q hq).1)⟩
         rw [← HB2.out]
         refine (hg5.block Rb (by simp; omega) (fun e => by have := (hownA.lt Rb e.symm).1; omega)).trans ?_
         rw [Below.heap_alloc _ _ _ hlt4]
         simpa using HR4.out
        case measure => simp [intOf]; omega
       | false =>
        rw [hft] at hFt HB2
        go_wp2_with (first
         | (go_at_call 26; refine hFt.mono ?_; rintro e w2 ⟨rfl, hb2⟩
            have hR2 : RdrIs w2 Rb _ _ _ _ _ bn := (hb2.block Rb hRbx).trans HRd.out
            have r5 := cellP hR2 5 _ rfl
            have rz := fzP hR2 5
            have hk3 : Keep (OneP Rb) wr (w2.setCell ⟨Rb, 5, none⟩ (.bool true)) := Keep.setCell (S := OneP Rb) (p := ⟨Rb, 5, none⟩) (Keep.of_below hb2) (fun _ => (rfl : Rb = Rb)) _
            have x4 := HF.out _ (HKp.out.then hk3)
            obtain ⟨e0, e1, e2, e3, e4⟩ := HC.out _ (HKp.out.then hk3)
            have hLv := level_any (hR2.set true) ke ie te pe qe ne ce me de
            have HK2 : Hid (Keep (OneP Rb) wr (w2.setCell ⟨Rb, 5, none⟩ (.bool true))) := hk3
            clear hk3 hb2 hR2)
         | (go_at_call 49; refine hLv.mono ?_; rintro e w4 ⟨rfl, hr4, hk4⟩
            have hkx : Keep (OneP Rb) wr w4 := HK2.out.then hk4
            have hownA := (own_keep HOwn.out hkx (fun q hq => by have := (HOwn.out.lt q hq).1; unfold OneP; omega)).alloc (.cells #[.string K, .int .i64 ie] 50)
            have hrdA : RdN (fun _ => True) (w4.alloc (.cells #[.string K, .int .i64 ie] 50)) (some ⟨w4.heap.size, 0, none⟩) 1 [(K, ie)] := rdN_flat (l := [(K, ie)]) trivial (newP _)
            have hsz4 : W1.heap.size ≤ (w4.alloc (.cells #[.string K, .int .i64 ie] 50)).heap.size := by have := hkx.size; simp; omega
            have HR4 := (show Hid _ from hr4)
            have HKX : Hid (Keep (OneP Rb) wr w4) := hkx
            clear hr4 hk4 hkx e0 e1 e2 e3 e4 x4 hLv r5 rz)
         | (refine wpList_append_rdN rfl _ _ rfl W1.heap.size _ L rfl hownA hrdA rfl (by have := HLN.out; omega) (by simp) hsz4 ?_; intro v5 w5 hown5 hg5))
        go_roundw
        case rel =>
         have hkA : Keep (OneP Rb) W1 (w4.alloc (.cells #[.string K, .int .i64 ie] 50)) := (HKp.out.then HKX.out).alloc _
         have hlt4 := objP_lt HR4.out
         refine ⟨n + 1, by simp, by omega, by rw [HL.out]; exact hown5, ?_, hkA.grown hg5 (fun q hq => (hownA.lt q hq).1)⟩
         rw [← HB2.out]
         refine (hg5.block Rb (by simp; omega) (fun e => by have := (hownA.lt Rb e.symm).1; omega)).trans ?_
         rw [Below.heap_alloc _ _ _ hlt4]
         simpa using HR4.out
        case measure => simp [intOf]; omega
     · obtain rfl : n = nv := by omega
       have htk : (ks.zip ls).take n = ks.zip ls := List.take_of_length_le (by rw [List.length_zip, HNV.out]; omega)
       rw [htk] at hown hrd
       have HOwn := (show Hid _ from hown)
       have HRd := (show Hid _ from hrd)
       clear hown hrd htk
       go_wp2
       go_ret
       obtain ⟨p', c', hv', hrd'⟩ := own_rdN HOwn.out
       refine ⟨⟨p', c', by first | (rw [hv']; rfl) | (simp only [] ; rw [← hv']; rfl), hrd'.carry fun q hq => ⟨⟨by have := hbW.size; omega, hq.2⟩, rfl⟩⟩, ?_, (Keep.of_below hbW).then hkp⟩
       simpa [rowT, J.kd, J.ks, J.ls] using HRd.out
  · have hks := HNE.out hk5
    have hnv0 : nv = 0 := by rw [← HNV.out, hks]; rfl
    subst hnv0
    have HRS : Hid (RdrIs (W1.setCell ⟨Rb, 5, none⟩ (.bool true)) Rb (.int .i64 k) (.int .i64 i) (.string t) (.slice pk nk ck) (.slice pl nl cl) true) := HRW.out.set true
    have HKS2 : Hid (Keep (OneP Rb) w (W1.setCell ⟨Rb, 5, none⟩ (.bool true))) := Keep.setCell (S := OneP Rb) (p := ⟨Rb, 5, none⟩) (Keep.of_below hbW) (fun _ => (rfl : Rb = Rb)) _
    have HBX : Hid (W1.heap[w1.heap.size]? = some (.cells #[.int .i64 kv', .int .i64 iv', .string tv', .slice pv 0 cv, .slice qv mv dv] 25 (0, 0))) := hX
    have b3' : (W1.setCell ⟨Rb, 5, none⟩ (.bool true)).cell? ⟨w1.heap.size, 3, none⟩ = some (.slice pv 0 cv) := by
     rw [World.cell?_of_block (Below.heap_setCell W1 ⟨Rb, 5, none⟩ _ w1.heap.size (by simp; omega))]; exact b3
    have HRO : Hid (rowT isU (some (.mk kv' iv' tv' ks ls)) = ([], true)) := by
     show _ = _
     simp [rowT, rowsOf, J.kd, J.ks, J.ls, hks, hk5]
    clear hX hks
    go_wp2
    go_loopw [9, 29] (fun v x wx => v = .slice none 0 0 ∧ x = .int .i64 0 ∧ Hid (wx = W1.setCell ⟨Rb, 5, none⟩ (.bool true))) (fun _ _ _ => 0)
    case atStart => exact ⟨rfl, rfl, rfl⟩
    case round =>
     obtain ⟨rfl, rfl, hwr⟩ := hrel
     go_wp2
     go_ret
     rw [HRO.out, hwr.out]
     exact ⟨⟨none, 0, rfl, RdN.nil _ _ _ _ fun _ => rfl⟩, by simpa using HRS.out, HKS2.out⟩
theorem row_types {O : Nat → Prop} {w : World} {Rb d : Nat} {j : J} {k i : Int} {t : ByteArray} {pk pl : Option Addr} {nk ck nl cl : Nat} {bad : Bool} (hR : RdrIs w Rb (.int .i64 k) (.int .i64 i) (.string t) (.slice pk nk ck) (.slice pl nl cl) bad)
    (hj : isJ O w j [.int .i64 k, .int .i64 i, .string t, .slice pk nk ck, .slice pl nl cl]) (hO : ∀ x, O x → x < w.heap.size ∧ x ≠ Rb) (hok : OkJ (d + 2) j) (s : ByteArray) :
    Calls Tryz.prog 25 #[.pointer (some ⟨Rb, 0, none⟩), .string s, .func (.func 27) #[] #[]] w fun e w' => (∃ p c, e = .returned (.slice p (rowT isT (lookV j.ks j.ls s)).1.length c) ∧ RdN (fun b => w.heap.size ≤ b ∧ b < w'.heap.size) w' p c (rowT isT (lookV j.ks j.ls s)).1) ∧ RdrIs w' Rb (.int .i64 k) (.int .i64 i) (.string t) (.slice pk nk ck) (.slice pl nl cl) (bad || (rowT isT (lookV j.ks j.ls s)).2) ∧ Keep (OneP Rb) w w' := by
 have hU := under_any hR hj (fun x hx => (hO x hx).1) hok s
 have HR : Hid (∀ X, Below w.heap.size w X → RdrIs X Rb (.int .i64 k) (.int .i64 i) (.string t) (.slice pk nk ck) (.slice pl nl cl) bad) := fun X hX => (hX.block Rb (objP_lt hR)).trans hR
 have hlt := objP_lt hR
 have HOK : Hid (∀ v, lookV j.ks j.ls s = some v → OkJ (d + 1) v) := fun v hv => by
  obtain ⟨_, _, _, _, _⟩ := j
  exact hok.parts.2.2.2.2.2 v (lookJ_mem hv)
 clear hR hj hok
 generalize lookV j.ks j.ls s = o at hU HOK
 cases o with
 | none =>
  go_enter Tryz.func25, Tryz.ntmps25
  go_wp2_with (go_at_call 48; refine hU.mono ?_; rintro e w1 ⟨he, hb1⟩; replace he : e = _ := he; subst he)
  go_ret
  have hbE := belowP hb1 ((Below.refl _ _).alloc (Nat.le_refl _) (.cells #[.int .i64 0, .int .i64 0, .string ⟨#[]⟩, .slice none 0 0, .slice none 0 0] 25))
  refine ⟨⟨none, 0, rfl, RdN.nil _ _ _ _ fun _ => rfl⟩, ?_, Keep.of_below hbE⟩
  simp only [rowT, Bool.or_false]
  exact HR.out _ hbE
 | some v =>
  have hokv := HOK.out v rfl
  obtain ⟨kv, iv, tv, ks, ls⟩ := v
  have hkn := hokv.parts.2.2.2.1
  have HKS : Hid (∀ x ∈ ks, x.size ≤ 1000000000) := hokv.parts.2.2.2.2.1
  have HLE : Hid (ks.length ≤ ls.length) := hokv.lens
  have HNE : Hid (kv ≠ 5 → ks = []) := hokv.parts.2.2.1
  clear hokv HOK
  obtain ⟨nv, hnv⟩ : ∃ n, ks.length = n := ⟨_, rfl⟩
  obtain ⟨mv, hmv⟩ : ∃ n, ls.length = n := ⟨_, rfl⟩
  have HNV : Hid (ks.length = nv) := hnv
  have HMV : Hid (ls.length = mv) := hmv
  rw [hnv] at hkn
  clear hnv hmv
  go_enter Tryz.func25, Tryz.ntmps25
  go_upto_region 2 with (go_at_call 48; refine hU.mono ?_; rintro e w1 ⟨⟨kv', iv', tv', pv, nv', cv, qv, mv', dv, rfl, hv⟩, hb1⟩; obtain ⟨rfl, rfl, rfl, rfl, rfl, hvk, hvc, hvs⟩ := isJP_parts hv; rw [HNV.out, HMV.out]; rw [HMV.out] at hvc; clear hv)
  obtain ⟨W1, hW1⟩ : ∃ W1, W1 = w1.alloc (.cells #[.int .i64 kv', .int .i64 iv', .string tv', .slice pv nv cv, .slice qv mv dv] 25) := ⟨_, rfl⟩
  have hbW : Below w.heap.size w W1 := by rw [hW1]; exact belowP hb1 ((Below.refl _ _).alloc (Nat.le_refl _) _)
  have hs1 := hb1.size
  have hX : W1.heap[w1.heap.size]? = some (.cells #[.int .i64 kv', .int .i64 iv', .string tv', .slice pv nv cv, .slice qv mv dv] 25 (0, 0)) := by rw [hW1]; exact newP _
  have hsW : w1.heap.size < W1.heap.size := objP_lt hX
  have HRW : Hid (RdrIs W1 Rb (.int .i64 k) (.int .i64 i) (.string t) (.slice pk nk ck) (.slice pl nl cl) bad) := HR.out W1 hbW
  have HOB : Hid (∀ x, O x → x < W1.heap.size ∧ x ≠ Rb) := fun x hx => ⟨Nat.lt_of_lt_of_le (hO x hx).1 hbW.size, (hO x hx).2⟩
  have HVK : Hid (RdK O W1 pv cv ks) := hvk.carry fun x hx => ⟨hx, (by rw [hW1]; exact Below.heap_alloc _ _ _ (Nat.lt_of_lt_of_le (hO x hx).1 hb1.size))⟩
  have HVS : Hid (isJs O W1 qv 0 ls) := isJs.carry (fun x hx => ⟨hx, (by rw [hW1]; exact Below.heap_alloc _ _ _ (Nat.lt_of_lt_of_le (hO x hx).1 hb1.size))⟩) qv 0 ls hvs
  have hck := hvk.1
  rw [HNV.out] at hck
  have b0 := cellP hX 0 _ rfl; have b3 := cellP hX 3 _ rfl
  have r5 := cellP HRW.out 5 _ rfl
  have rz := fzP HRW.out 5
  rw [← hW1]
  clear hvk hvs hU hW1 hb1
  by_cases hk5 : kv' = 5
  · subst hk5
    go_wp2
    have HBX : Hid (W1.heap[w1.heap.size]? = some (.cells #[.int .i64 5, .int .i64 iv', .string tv', .slice pv nv cv, .slice qv mv dv] 25 (0, 0))) := hX
    clear r5 rz b0 b3 hX
    go_loopw [9, 29] (fun v x wx => ∃ n : Nat, x = .int .i64 n ∧ n ≤ nv ∧ wx.ownsRow W1.heap.size 50 2 v (((ks.zip ls).take n).map fun q => (q.1, q.2.nm)).length (flatN (((ks.zip ls).take n).map fun q => (q.1, q.2.nm))) ∧ RdrIs wx Rb (.int .i64 k) (.int .i64 i) (.string t) (.slice pk nk ck) (.slice pl nl cl) (bad || ((ks.zip ls).take n).any (badIn isT)) ∧ Keep (OneP Rb) W1 wx) (fun _ x _ => nv - (intOf x).toNat)
    case atStart => exact ⟨0, rfl, Nat.zero_le _, World.ownsRow_nil _ _ _ _, by simpa using HRW.out, Keep.refl _ _⟩
    case round =>
     obtain ⟨n, rfl, hn, hown, hrd, hkp⟩ := hrel
     have HF : Hid (∀ X, Keep (OneP Rb) W1 X → X.cell? ⟨w1.heap.size, 4, none⟩ = some (.slice qv mv dv)) := fun X hX => (World.cell?_of_block (a := ⟨w1.heap.size, 4, none⟩) (hX.block w1.heap.size hsW (by unfold OneP; omega))).trans (cellP HBX.out 4 _ rfl)
     by_cases hnv : n < nv
     · have hnk : n < ks.length := by rw [HNV.out]; exact hnv
       have hnm : n < mv := by have := HLE.out; rw [HNV.out, HMV.out] at this; omega
       have HT : Hid ((ks.zip ls).take (n + 1) = (ks.zip ls).take n ++ [(ks.getD n nix, ls.getD n J.zero)]) := zip_at hnk HLE.out
       obtain ⟨ad, rfl, hOa, hck1⟩ := HVK.out.2 n hnk
       have hkey : wr.cell? (ad.add n) = some (.string (ks.getD n nix)) := (World.cell?_of_block (by rw [add_block]; exact hkp.block _ (HOB.out _ hOa).1 (by unfold OneP; exact (HOB.out _ hOa).2))).trans hck1
       have hksz : (ks.getD n nix).size ≤ 1000000000 := by rw [List.getD_eq_getElem?_getD, List.getElem?_eq_getElem hnk]; exact HKS.out _ (List.getElem_mem hnk)
       obtain ⟨lb, lo, cs, hpl, hOb, hcells, hyj⟩ := isJs.at ls 0 n HVS.out (by rw [HMV.out]; exact hnm)
       subst hpl
       obtain ⟨ke, ie, te, pe, ne, ce, qe, me, de, rfl⟩ := isJ_shape hyj
       have HE : Hid ((ls.getD n J.zero).kd = ke ∧ (ls.getD n J.zero).nm = ie) := by
        generalize ls.getD n J.zero = y at hyj
        obtain ⟨_, _, _, _, _⟩ := y
        obtain ⟨rfl, rfl, _⟩ := isJP_parts hyj
        exact ⟨rfl, rfl⟩
       have HC : Hid (∀ X, Keep (OneP Rb) W1 X → X.cell? ⟨lb, lo + n * 5, none⟩ = some (.int .i64 ke) ∧ X.cell? ⟨lb, lo + n * 5 + 1, none⟩ = some (.int .i64 ie) ∧ X.cell? ⟨lb, lo + n * 5 + 2, none⟩ = some (.string te) ∧ X.cell? ⟨lb, lo + n * 5 + 3, none⟩ = some (.slice pe ne ce) ∧ X.cell? ⟨lb, lo + n * 5 + 4, none⟩ = some (.slice qe me de)) := fun X hX => by
        have cc : ∀ m v, [Value.int .i64 ke, .int .i64 ie, .string te, .slice pe ne ce, .slice qe me de][m]? = some v → X.cell? ⟨lb, lo + n * 5 + m, none⟩ = some v := fun m v h => by
         have := hcells m v h
         rw [Nat.zero_add] at this
         exact (World.cell?_of_block (a := ⟨lb, lo + n * 5 + m, none⟩) (hX.block lb (HOB.out lb hOb).1 (by unfold OneP; exact (HOB.out lb hOb).2))).trans this
        exact ⟨cc 0 _ rfl, cc 1 _ rfl, cc 2 _ rfl, cc 3 _ rfl, cc 4 _ rfl⟩
       have HB : Hid (∀ b, b = (bad || ((ks.zip ls).take n).any (badIn isT)) → (b || (!isT (ks.getD n nix) || !lvOk ke ie)) = (bad || ((ks.zip ls).take (n + 1)).any (badIn isT))) := fun b hb => by
        rw [hb, HT.out, List.any_append, Bool.or_assoc]
        simp only [List.any_cons, List.any_nil, Bool.or_false, badIn, HE.out.1, HE.out.2]
       have HL : Hid ((((ks.zip ls).take (n + 1)).map fun q => (q.1, q.2.nm)) = (((ks.zip ls).take n).map fun q => (q.1, q.2.nm)) ++ [(ks.getD n nix, ie)]) := by
        show _ = _
        rw [HT.out, List.map_append]
        simp only [List.map_cons, List.map_nil, HE.out.2]
       have HLN : Hid ((((ks.zip ls).take n).map fun q => (q.1, q.2.nm)).length ≤ 100000) := by
        show _ ≤ _
        simp only [List.length_map, List.length_take]
        omega
       have hlb := (HOB.out lb hOb).1
       generalize (((ks.zip ls).take n).map fun q => (q.1, q.2.nm)) = L at hown HL HLN
       obtain ⟨bn, hbn⟩ : ∃ b, b = (bad || ((ks.zip ls).take n).any (badIn isT)) := ⟨_, rfl⟩
       rw [← hbn] at hrd
       have HB2 := (show Hid _ from HB.out bn hbn)
       clear hbn HB hcells hyj hck1
       generalize ks.getD n nix = K at hkey hksz HB2 HL
       have hFt := isType_any (w := wr) K hksz
       have hRl := (hown.lt)
       have HOwn : Hid (wr.ownsRow W1.heap.size 50 2 _ L.length (flatN L)) := hown
       have HRd : Hid (RdrIs wr Rb (.int .i64 k) (.int .i64 i) (.string t) (.slice pk nk ck) (.slice pl nl cl) bn) := hrd
       have HKp : Hid (Keep (OneP Rb) W1 wr) := hkp
       have hsx := hkp.size
       have hRbx : Rb < wr.heap.size := by omega
       clear hown hrd hkp hRl
       cases hft : isT K with
       | true =>
        rw [hft] at hFt HB2
        go_wp2_with (first
         | (go_at_call 27; refine hFt.mono ?_; rintro e w2 ⟨rfl, hb2⟩
            have hk2 : Keep (OneP Rb) wr w2 := Keep.of_below hb2
            have x4 := HF.out w2 (HKp.out.then hk2)
            obtain ⟨e0, e1, e2, e3, e4⟩ := HC.out w2 (HKp.out.then hk2)
            have hLv := level_any ((hb2.block Rb hRbx).trans HRd.out) ke ie te pe qe ne ce me de
            have HK2 : Hid (Keep (OneP Rb) wr w2) := hk2
            clear hk2 hb2)
         | (go_at_call 49; refine hLv.mono ?_; rintro e w4 ⟨rfl, hr4, hk4⟩
            have hkx : Keep (OneP Rb) wr w4 := HK2.out.then hk4
            have hownA := (own_keep HOwn.out hkx (fun q hq => by have := (HOwn.out.lt q hq).1; unfold OneP; omega)).alloc (.cells #[.string K, .int .i64 ie] 50)
            have hrdA : RdN (fun _ => True) (w4.alloc (.cells #[.string K, .int .i64 ie] 50)) (some ⟨w4.heap.size, 0, none⟩) 1 [(K, ie)] := rdN_flat (l := [(K, ie)]) trivial (newP _)
            have hsz4 : W1.heap.size ≤ (w4.alloc (.cells #[.string K, .int .i64 ie] 50)).heap.size := by have := hkx.size; simp; omega
            have HR4 := (show Hid _ from hr4)
            have HKX : Hid (Keep (OneP Rb) wr w4) := hkx
            clear hr4 hk4 hkx e0 e1 e2 e3 e4 x4 hLv)
         | (refine wpList_append_rdN rfl _ _ rfl W1.heap.size _ L rfl hownA hrdA rfl (by have := HLN.out; omega) (by simp) hsz4 ?_; intro v5 w5 hown5 hg5))
        go_roundw
        case rel =>
         have hkA : Keep (OneP Rb) W1 (w4.alloc (.cells #[.string K, .int .i64 ie] 50)) := (HKp.out.then HKX.out).alloc _
         have hlt4 := objP_lt HR4.out
         refine ⟨n + 1, by simp, by omega, by rw [HL.out]; exact hown5, ?_, hkA.grown hg5 (fun q hq => (hownA.lt q hq).1)⟩
         rw [← HB2.out]
         refine (hg5.block Rb (by simp; omega) (fun e => by have := (hownA.lt Rb e.symm).1; omega)).trans ?_
         rw [Below.heap_alloc _ _ _ hlt4]
         simpa using HR4.out
        case measure => simp [intOf]; omega
       | false =>
        rw [hft] at hFt HB2
        go_wp2_with (first
         | (go_at_call 27; refine hFt.mono ?_; rintro e w2 ⟨rfl, hb2⟩
            have hR2 : RdrIs w2 Rb _ _ _ _ _ bn := (hb2.block Rb hRbx).trans HRd.out
            have r5 := cellP hR2 5 _ rfl
            have rz := fzP hR2 5
            have hk3 : Keep (OneP Rb) wr (w2.setCell ⟨Rb, 5, none⟩ (.bool true)) := Keep.setCell (S := OneP Rb) (p := ⟨Rb, 5, none⟩) (Keep.of_below hb2) (fun _ => (rfl : Rb = Rb)) _
            have x4 := HF.out _ (HKp.out.then hk3)
            obtain ⟨e0, e1, e2, e3, e4⟩ := HC.out _ (HKp.out.then hk3)
            have hLv := level_any (hR2.set true) ke ie te pe qe ne ce me de
            have HK2 : Hid (Keep (OneP Rb) wr (w2.setCell ⟨Rb, 5, none⟩ (.bool true))) := hk3
            clear hk3 hb2 hR2)
         | (go_at_call 49; refine hLv.mono ?_; rintro e w4 ⟨rfl, hr4, hk4⟩
            have hkx : Keep (OneP Rb) wr w4 := HK2.out.then hk4
            have hownA := (own_keep HOwn.out hkx (fun q hq => by have := (HOwn.out.lt q hq).1; unfold OneP; omega)).alloc (.cells #[.string K, .int .i64 ie] 50)
            have hrdA : RdN (fun _ => True) (w4.alloc (.cells #[.string K, .int .i64 ie] 50)) (some ⟨w4.heap.size, 0, none⟩) 1 [(K, ie)] := rdN_flat (l := [(K, ie)]) trivial (newP _)
            have hsz4 : W1.heap.size ≤ (w4.alloc (.cells #[.string K, .int .i64 ie] 50)).heap.size := by have := hkx.size; simp; omega
            have HR4 := (show Hid _ from hr4)
            have HKX : Hid (Keep (OneP Rb) wr w4) := hkx
            clear hr4 hk4 hkx e0 e1 e2 e3 e4 x4 hLv r5 rz)
         | (refine wpList_append_rdN rfl _ _ rfl W1.heap.size _ L rfl hownA hrdA rfl (by have := HLN.out; omega) (by simp) hsz4 ?_; intro v5 w5 hown5 hg5))
        go_roundw
        case rel =>
         have hkA : Keep (OneP Rb) W1 (w4.alloc (.cells #[.string K, .int .i64 ie] 50)) := (HKp.out.then HKX.out).alloc _
         have hlt4 := objP_lt HR4.out
         refine ⟨n + 1, by simp, by omega, by rw [HL.out]; exact hown5, ?_, hkA.grown hg5 (fun q hq => (hownA.lt q hq).1)⟩
         rw [← HB2.out]
         refine (hg5.block Rb (by simp; omega) (fun e => by have := (hownA.lt Rb e.symm).1; omega)).trans ?_
         rw [Below.heap_alloc _ _ _ hlt4]
         simpa using HR4.out
        case measure => simp [intOf]; omega
     · obtain rfl : n = nv := by omega
       have htk : (ks.zip ls).take n = ks.zip ls := List.take_of_length_le (by rw [List.length_zip, HNV.out]; omega)
       rw [htk] at hown hrd
       have HOwn := (show Hid _ from hown)
       have HRd := (show Hid _ from hrd)
       clear hown hrd htk
       go_wp2
       go_ret
       obtain ⟨p', c', hv', hrd'⟩ := own_rdN HOwn.out
       refine ⟨⟨p', c', by first | (rw [hv']; rfl) | (simp only [] ; rw [← hv']; rfl), hrd'.carry fun q hq => ⟨⟨by have := hbW.size; omega, hq.2⟩, rfl⟩⟩, ?_, (Keep.of_below hbW).then hkp⟩
       simpa [rowT, J.kd, J.ks, J.ls] using HRd.out
  · have hks := HNE.out hk5
    have hnv0 : nv = 0 := by rw [← HNV.out, hks]; rfl
    subst hnv0
    have HRS : Hid (RdrIs (W1.setCell ⟨Rb, 5, none⟩ (.bool true)) Rb (.int .i64 k) (.int .i64 i) (.string t) (.slice pk nk ck) (.slice pl nl cl) true) := HRW.out.set true
    have HKS2 : Hid (Keep (OneP Rb) w (W1.setCell ⟨Rb, 5, none⟩ (.bool true))) := Keep.setCell (S := OneP Rb) (p := ⟨Rb, 5, none⟩) (Keep.of_below hbW) (fun _ => (rfl : Rb = Rb)) _
    have HBX : Hid (W1.heap[w1.heap.size]? = some (.cells #[.int .i64 kv', .int .i64 iv', .string tv', .slice pv 0 cv, .slice qv mv dv] 25 (0, 0))) := hX
    have b3' : (W1.setCell ⟨Rb, 5, none⟩ (.bool true)).cell? ⟨w1.heap.size, 3, none⟩ = some (.slice pv 0 cv) := by
     rw [World.cell?_of_block (Below.heap_setCell W1 ⟨Rb, 5, none⟩ _ w1.heap.size (by simp; omega))]; exact b3
    have HRO : Hid (rowT isT (some (.mk kv' iv' tv' ks ls)) = ([], true)) := by
     show _ = _
     simp [rowT, rowsOf, J.kd, J.ks, J.ls, hks, hk5]
    clear hX hks
    go_wp2
    go_loopw [9, 29] (fun v x wx => v = .slice none 0 0 ∧ x = .int .i64 0 ∧ Hid (wx = W1.setCell ⟨Rb, 5, none⟩ (.bool true))) (fun _ _ _ => 0)
    case atStart => exact ⟨rfl, rfl, rfl⟩
    case round =>
     obtain ⟨rfl, rfl, hwr⟩ := hrel
     go_wp2
     go_ret
     rw [HRO.out, hwr.out]
     exact ⟨⟨none, 0, rfl, RdN.nil _ _ _ _ fun _ => rfl⟩, by simpa using HRS.out, HKS2.out⟩
def parseL (j : J) : Lv := ⟨(numT 50 (lookV j.ks j.ls kBan)).1, (numT 50 (lookV j.ks j.ls kKick)).1, (numT 0 (lookV j.ks j.ls kInvite)).1, (numT 50 (lookV j.ks j.ls kRedact)).1, (numT 50 (lookV j.ks j.ls kState)).1, (numT 0 (lookV j.ks j.ls kEvents)).1, (numT 0 (lookV j.ks j.ls kUsers)).1, (rowT isU (lookV j.ks j.ls kByUser)).1, (rowT isT (lookV j.ks j.ls kByType)).1⟩
def parseB (j : J) : Bool := ((((((((!decide (j.kd = 5) || (numT 50 (lookV j.ks j.ls kBan)).2) || (numT 50 (lookV j.ks j.ls kKick)).2) || (numT 0 (lookV j.ks j.ls kInvite)).2) || (numT 50 (lookV j.ks j.ls kRedact)).2) || (numT 50 (lookV j.ks j.ls kState)).2) || (numT 0 (lookV j.ks j.ls kEvents)).2) || (numT 0 (lookV j.ks j.ls kUsers)).2) || (rowT isU (lookV j.ks j.ls kByUser)).2) || (rowT isT (lookV j.ks j.ls kByType)).2
abbrev zeroL : Lv := ⟨0, 0, 0, 0, 0, 0, 0, [], []⟩
def parseT (j : J) : Lv × Int := if parseB j then (zeroL, 1) else (parseL j, 0)
theorem parse_any {O : Nat → Prop} {w : World} {c : J} {k i : Int} {t : ByteArray} {pk pl : Option Addr} {nk ck nl cl : Nat} (hj : isJ O w c [.int .i64 k, .int .i64 i, .string t, .slice pk nk ck, .slice pl nl cl]) (hO : ∀ x, O x → x < w.heap.size) (hsz : szJ 12 c = true) :
    Calls Tryz.prog 7 #[.agg #[.int .i64 k, .int .i64 i, .string t, .slice pk nk ck, .slice pl nl cl]] w fun e w' => (∃ p, e = .returned (.tuple #[valL (parseT (ordT c)).1 p, .int .i64 (parseT (ordT c)).2]) ∧ IsL (fun b => w.heap.size ≤ b ∧ b < w'.heap.size) w' (parseT (ordT c)).1 p) ∧ Below w.heap.size w w' := by
 obtain ⟨wA, hwA⟩ : ∃ wA, wA = (w.alloc (.cells #[.int .i64 k, .int .i64 i, .string t, .slice pk nk ck, .slice pl nl cl] 25)).alloc (.cells #[.int .i64 0, .int .i64 0, .int .i64 0, .int .i64 0, .int .i64 0, .int .i64 0, .int .i64 0, .slice none 0 0, .slice none 0 0] 34) := ⟨_, rfl⟩
 have hbA : Below w.heap.size w wA := by rw [hwA]; exact ((Below.refl _ _).alloc (Nat.le_refl _) _).alloc (by simp) _
 have hsA : wA.heap.size = w.heap.size + 2 := by rw [hwA]; simp
 have hA0 : wA.heap[w.heap.size]? = some (.cells #[.int .i64 k, .int .i64 i, .string t, .slice pk nk ck, .slice pl nl cl] 25 (0, 0)) := by rw [hwA, Below.heap_alloc _ _ _ (by simp)]; exact newP _
 have hA1 : wA.heap[w.heap.size + 1]? = some (.cells #[.int .i64 0, .int .i64 0, .int .i64 0, .int .i64 0, .int .i64 0, .int .i64 0, .int .i64 0, .slice none 0 0, .slice none 0 0] 34 (0, 0)) := by
  rw [hwA]
  have := newP (w := w.alloc (.cells #[.int .i64 k, .int .i64 i, .string t, .slice pk nk ck, .slice pl nl cl] 25)) (.cells #[.int .i64 0, .int .i64 0, .int .i64 0, .int .i64 0, .int .i64 0, .int .i64 0, .int .i64 0, .slice none 0 0, .slice none 0 0] 34)
  rw [World.size_alloc] at this
  exact this
 have hOr := order_any (fun x hx => Nat.lt_of_lt_of_le (hO x hx) hbA.size) hsz (hj.carry (O' := O) (w' := wA) fun x hx => ⟨hx, hbA.block x (hO x hx)⟩)
 have HOK : Hid (OkJ 12 (ordT c)) := ordT_okJ hsz
 have b0 := cellP hA0 0 _ rfl; have b1 := cellP hA0 1 _ rfl; have b2 := cellP hA0 2 _ rfl; have b3 := cellP hA0 3 _ rfl; have b4 := cellP hA0 4 _ rfl
 generalize ordT c = j at hOr HOK
 have HA1 : Hid (∀ X, Below wA.heap.size wA X → X.heap[w.heap.size + 1]? = some (.cells #[.int .i64 0, .int .i64 0, .int .i64 0, .int .i64 0, .int .i64 0, .int .i64 0, .int .i64 0, .slice none 0 0, .slice none 0 0] 34 (0, 0))) := fun X hX => (hX.block _ (by omega)).trans hA1
 clear hj hO hsz hA0 hA1
 go_enter Tryz.func7, Tryz.ntmps7
 go_upto_region 1 with fail
 rw [← hwA]
 clear hwA
 go_upto_region 2 with (go_at_call 23; refine hOr.mono ?_; rintro e w1 ⟨⟨kr, ir, tr, pr, nr, cr, qr, mr, dr, rfl, hjr⟩, hb1⟩)
 go_upto_region 3 with fail
 have hs1 := hb1.size
 obtain ⟨W2, hW2⟩ : ∃ W2, W2 = (w1.alloc (.cells #[.int .i64 kr, .int .i64 ir, .string tr, .slice pr nr cr, .slice qr mr dr] 25)).alloc (.cells #[.int .i64 kr, .int .i64 ir, .string tr, .slice pr nr cr, .slice qr mr dr, .bool (kr != 5)] 54) := ⟨_, rfl⟩
 have hb2 : Below w1.heap.size w1 W2 := by rw [hW2]; exact ((Below.refl _ _).alloc (Nat.le_refl _) _).alloc (by simp) _
 have hs2 : W2.heap.size = w1.heap.size + 2 := by rw [hW2]; simp
 have hr0 : RdrIs W2 (w1.heap.size + 1) (.int .i64 kr) (.int .i64 ir) (.string tr) (.slice pr nr cr) (.slice qr mr dr) (kr != 5) := by
  rw [hW2]
  have := newP (w := w1.alloc (.cells #[.int .i64 kr, .int .i64 ir, .string tr, .slice pr nr cr, .slice qr mr dr] 25)) (.cells #[.int .i64 kr, .int .i64 ir, .string tr, .slice pr nr cr, .slice qr mr dr, .bool (kr != 5)] 54)
  rw [World.size_alloc] at this
  exact this
 have HB0 : Hid ((kr != 5) = !decide (j.kd = 5)) := by
  show _ = _
  obtain ⟨_, _, _, _, _⟩ := j
  obtain ⟨rfl, _⟩ := isJP_parts hjr
  show (kr != 5) = !decide (kr = 5)
  by_cases h : kr = 5 <;> simp [h]
 have hj2 : isJ (fun b => b < w1.heap.size) W2 j [.int .i64 kr, .int .i64 ir, .string tr, .slice pr nr cr, .slice qr mr dr] := hjr.carry fun x hx => ⟨hx, hb2.block x hx⟩
 have HNum : Hid (∀ X bad s z, Keep (OneP (w1.heap.size + 1)) W2 X → RdrIs X (w1.heap.size + 1) (.int .i64 kr) (.int .i64 ir) (.string tr) (.slice pr nr cr) (.slice qr mr dr) bad → Calls Tryz.prog 24 #[.pointer (some ⟨w1.heap.size + 1, 0, none⟩), .string s, .int .i64 z] X fun e w' => e = .returned (.int .i64 (numT z (lookV j.ks j.ls s)).1) ∧ RdrIs w' (w1.heap.size + 1) (.int .i64 kr) (.int .i64 ir) (.string tr) (.slice pr nr cr) (.slice qr mr dr) (bad || (numT z (lookV j.ks j.ls s)).2) ∧ Keep (OneP (w1.heap.size + 1)) X w') := fun X bad s z hX hR =>
  numberP_any (d := 11) hR (hj2.carry (O' := fun b => b < w1.heap.size) fun x hx => ⟨hx, hX.block x (by omega) (by unfold OneP; omega)⟩) (fun x hx => by have := hX.size; omega) HOK.out s z
 have HRowU : Hid (∀ X bad, Keep (OneP (w1.heap.size + 1)) W2 X → RdrIs X (w1.heap.size + 1) (.int .i64 kr) (.int .i64 ir) (.string tr) (.slice pr nr cr) (.slice qr mr dr) bad → Calls Tryz.prog 25 #[.pointer (some ⟨w1.heap.size + 1, 0, none⟩), .string kByUser, .func (.func 26) #[] #[]] X fun e w' => (∃ p c, e = .returned (.slice p (rowT isU (lookV j.ks j.ls kByUser)).1.length c) ∧ RdN (fun b => X.heap.size ≤ b ∧ b < w'.heap.size) w' p c (rowT isU (lookV j.ks j.ls kByUser)).1) ∧ RdrIs w' (w1.heap.size + 1) (.int .i64 kr) (.int .i64 ir) (.string tr) (.slice pr nr cr) (.slice qr mr dr) (bad || (rowT isU (lookV j.ks j.ls kByUser)).2) ∧ Keep (OneP (w1.heap.size + 1)) X w') := fun X bad hX hR =>
  row_users (d := 10) hR (hj2.carry (O' := fun b => b < w1.heap.size) fun x hx => ⟨hx, hX.block x (by omega) (by unfold OneP; omega)⟩) (fun x hx => ⟨by have := hX.size; omega, by omega⟩) HOK.out kByUser
 have HRowT : Hid (∀ X bad, Keep (OneP (w1.heap.size + 1)) W2 X → RdrIs X (w1.heap.size + 1) (.int .i64 kr) (.int .i64 ir) (.string tr) (.slice pr nr cr) (.slice qr mr dr) bad → Calls Tryz.prog 25 #[.pointer (some ⟨w1.heap.size + 1, 0, none⟩), .string kByType, .func (.func 27) #[] #[]] X fun e w' => (∃ p c, e = .returned (.slice p (rowT isT (lookV j.ks j.ls kByType)).1.length c) ∧ RdN (fun b => X.heap.size ≤ b ∧ b < w'.heap.size) w' p c (rowT isT (lookV j.ks j.ls kByType)).1) ∧ RdrIs w' (w1.heap.size + 1) (.int .i64 kr) (.int .i64 ir) (.string tr) (.slice pr nr cr) (.slice qr mr dr) (bad || (rowT isT (lookV j.ks j.ls kByType)).2) ∧ Keep (OneP (w1.heap.size + 1)) X w') := fun X bad hX hR =>
  row_types (d := 10) hR (hj2.carry (O' := fun b => b < w1.heap.size) fun x hx => ⟨hx, hX.block x (by omega) (by unfold OneP; omega)⟩) (fun x hx => ⟨by have := hX.size; omega, by omega⟩) HOK.out kByType
 rw [← hW2]
 have HBW : Hid (Below w.heap.size w W2) := belowP hbA (belowP hb1 hb2)
 have HBA : Hid (Below wA.heap.size wA W2) := belowP hb1 hb2
 clear hjr hj2 hOr hW2 b0 b1 b2 b3 b4
 have HPB : Hid (parseB j = ((((((((((kr != 5) || (numT 50 (lookV j.ks j.ls kBan)).2) || (numT 50 (lookV j.ks j.ls kKick)).2) || (numT 0 (lookV j.ks j.ls kInvite)).2) || (numT 50 (lookV j.ks j.ls kRedact)).2) || (numT 50 (lookV j.ks j.ls kState)).2) || (numT 0 (lookV j.ks j.ls kEvents)).2) || (numT 0 (lookV j.ks j.ls kUsers)).2) || (rowT isU (lookV j.ks j.ls kByUser)).2) || (rowT isT (lookV j.ks j.ls kByType)).2)) := by show _ = _; unfold parseB; rw [HB0.out]
 generalize (kr != 5) = bad0 at hr0 HPB ⊢
 have hN1 := HNum.out W2 bad0 kBan 50 (Keep.refl _ _) hr0
 go_upto_region 4 with (first
  | (go_at_call 24; refine hN1.mono ?_; rintro e v1 ⟨rfl, hr1, hk1⟩
     have HK1 : Hid (Keep (OneP (w1.heap.size + 1)) W2 v1) := hk1
     have hN2 := HNum.out v1 _ kKick 50 HK1.out hr1
     clear hN1 hk1 hr1)
  | (go_at_call 24; refine hN2.mono ?_; rintro e v2 ⟨rfl, hr2, hk2⟩
     have HK2 : Hid (Keep (OneP (w1.heap.size + 1)) W2 v2) := HK1.out.then hk2
     have hN3 := HNum.out v2 _ kInvite 0 HK2.out hr2
     clear hN2 hk2 hr2)
  | (go_at_call 24; refine hN3.mono ?_; rintro e v3 ⟨rfl, hr3, hk3⟩
     have HK3 : Hid (Keep (OneP (w1.heap.size + 1)) W2 v3) := HK2.out.then hk3
     have hN4 := HNum.out v3 _ kRedact 50 HK3.out hr3
     clear hN3 hk3 hr3)
  | (go_at_call 24; refine hN4.mono ?_; rintro e v4 ⟨rfl, hr4, hk4⟩
     have HK4 : Hid (Keep (OneP (w1.heap.size + 1)) W2 v4) := HK3.out.then hk4
     have hN5 := HNum.out v4 _ kState 50 HK4.out hr4
     clear hN4 hk4 hr4)
  | (go_at_call 24; refine hN5.mono ?_; rintro e v5 ⟨rfl, hr5, hk5⟩
     have HK5 : Hid (Keep (OneP (w1.heap.size + 1)) W2 v5) := HK4.out.then hk5
     have hN6 := HNum.out v5 _ kEvents 0 HK5.out hr5
     clear hN5 hk5 hr5)
  | (go_at_call 24; refine hN6.mono ?_; rintro e v6 ⟨rfl, hr6, hk6⟩
     have HK6 : Hid (Keep (OneP (w1.heap.size + 1)) W2 v6) := HK5.out.then hk6
     have hN7 := HNum.out v6 _ kUsers 0 HK6.out hr6
     clear hN6 hk6 hr6)
  | (go_at_call 24; refine hN7.mono ?_; rintro e v7 ⟨rfl, hr7, hk7⟩
     have HK7 : Hid (Keep (OneP (w1.heap.size + 1)) W2 v7) := HK6.out.then hk7
     have hN8 := HRowU.out v7 _ HK7.out hr7
     clear hN7 hk7 hr7)
  | (go_at_call 25; refine hN8.mono ?_; rintro e v8 ⟨⟨pu, cu, rfl, hru⟩, hr8, hk8⟩
     have HK8 : Hid (Keep (OneP (w1.heap.size + 1)) W2 v8) := HK7.out.then hk8
     have HRU := (show Hid _ from hru)
     have hN9 := HRowT.out v8 _ HK8.out hr8
     clear hN8 hk8 hr8 hru)
  | (go_at_call 25; refine hN9.mono ?_; rintro e v9 ⟨⟨pt, ct, rfl, hrt⟩, hr9, hk9⟩
     have HK9 : Hid (Keep (OneP (w1.heap.size + 1)) W2 v9) := HK8.out.then hk9
     have HK89 : Hid (Keep (OneP (w1.heap.size + 1)) v8 v9) := hk9
     have HRT := (show Hid _ from hrt)
     have HR9 := (show Hid _ from hr9)
     clear hN9 hk9 hr9 hrt))
 have hR9 := HR9.out
 rw [← HPB.out] at hR9
 obtain ⟨WE, hWE⟩ : ∃ WE, WE = v9.alloc (.cells (cellsL (parseL j) ⟨pu, cu, pt, ct⟩).toArray 34) := ⟨_, rfl⟩
 have hbE : Below v9.heap.size v9 WE := by rw [hWE]; exact (Below.refl _ _).alloc (Nat.le_refl _) _
 have hL : WE.heap[v9.heap.size]? = some (.cells (cellsL (parseL j) ⟨pu, cu, pt, ct⟩).toArray 34 (0, 0)) := by rw [hWE]; exact newP _
 have hRE : RdrIs WE (w1.heap.size + 1) (.int .i64 kr) (.int .i64 ir) (.string tr) (.slice pr nr cr) (.slice qr mr dr) (parseB j) := (hbE.block _ (objP_lt hR9)).trans hR9
 have h9s := HK9.out.size
 have hZ : WE.heap[w.heap.size + 1]? = some (.cells #[.int .i64 0, .int .i64 0, .int .i64 0, .int .i64 0, .int .i64 0, .int .i64 0, .int .i64 0, .slice none 0 0, .slice none 0 0] 34 (0, 0)) :=
  (hbE.block _ (by omega)).trans ((HK9.out.block _ (by omega) (by unfold OneP; omega)).trans (HA1.out W2 HBA.out))
 have hbF : Below w.heap.size w WE := belowP (HBW.out.trans (HK9.out.below HBW.out.size fun q hq e => by unfold OneP at e; omega)) hbE
 have HIS : Hid (IsL (fun b => w.heap.size ≤ b ∧ b < WE.heap.size ∧ b ≠ w.heap.size + 1) WE (parseL j) ⟨pu, cu, pt, ct⟩) := by
  have h8 := HK8.out.size
  have h89 := HK89.out.size
  have hE := hbE.size
  refine ⟨RdN.carry HRU.out fun b hb => ⟨⟨by have := hb.1; have := HK7.out.size; omega, by omega, by have := hb.1; have := HK7.out.size; omega⟩, (hbE.block b (by omega)).trans (HK89.out.block b hb.2 (by have := hb.1; have := HK7.out.size; unfold OneP; omega))⟩, RdN.carry HRT.out fun b hb => ⟨⟨by have := hb.1; omega, by omega, by have := hb.1; omega⟩, hbE.block b hb.2⟩⟩
 have r5 := cellP hRE 5 _ rfl
 have g0 := cellP hZ 0 _ rfl; have g1 := cellP hZ 1 _ rfl; have g2 := cellP hZ 2 _ rfl; have g3 := cellP hZ 3 _ rfl; have g4 := cellP hZ 4 _ rfl; have g5 := cellP hZ 5 _ rfl; have g6 := cellP hZ 6 _ rfl; have g7 := cellP hZ 7 _ rfl; have g8 := cellP hZ 8 _ rfl
 have z0 := fzP hZ 0; have z1 := fzP hZ 1; have z2 := fzP hZ 2; have z3 := fzP hZ 3; have z4 := fzP hZ 4; have z5 := fzP hZ 5; have z6 := fzP hZ 6; have z7 := fzP hZ 7; have z8 := fzP hZ 8
 have HZ := (show Hid _ from hZ)
 have HPT : Hid (parseT j = if parseB j then (zeroL, 1) else (parseL j, 0)) := rfl
 have hltZ := objP_lt hZ
 change Code.wp _ _ _ _ (v9.alloc (.cells (cellsL (parseL j) ⟨pu, cu, pt, ct⟩).toArray 34))
 rw [← hWE]
 cases hpb : parseB j with
 | true =>
  rw [hpb] at r5 HPT
  clear hWE hL hRE hR9 HR9 HPB hZ
  go_wp2
  have h9 := setL_all (b := w.heap.size + 1) [.int .i64 0, .int .i64 0, .int .i64 0, .int .i64 0, .int .i64 0, .int .i64 0, .int .i64 0, .slice none 0 0, .slice none 0 0] HZ.out rfl
  have HK := setL_keep (w.heap.size + 1) [.int .i64 0, .int .i64 0, .int .i64 0, .int .i64 0, .int .i64 0, .int .i64 0, .int .i64 0, .slice none 0 0, .slice none 0 0] WE 0
  simp only [setL, Nat.zero_add, Nat.reduceAdd] at h9 HK
  refine bodyPost_ret (resultsP_cell_tmp rfl _ _ _ rfl (loadL9 h9)) rfl ?_
  rw [HPT.out]
  exact ⟨⟨⟨none, 0, none, 0⟩, rfl, RdN.nil _ _ _ _ fun _ => rfl, RdN.nil _ _ _ _ fun _ => rfl⟩, hbF.trans (HK.below hbF.size fun q hq e => by unfold OneP at e; omega)⟩
 | false =>
  rw [hpb] at r5 HPT
  have c0 := cellP hL 0 _ rfl; have c1 := cellP hL 1 _ rfl; have c2 := cellP hL 2 _ rfl; have c3 := cellP hL 3 _ rfl; have c4 := cellP hL 4 _ rfl; have c5 := cellP hL 5 _ rfl; have c6 := cellP hL 6 _ rfl; have c7 := cellP hL 7 _ rfl; have c8 := cellP hL 8 _ rfl
  clear hWE hRE hR9 HR9 HPB hZ hL
  generalize parseL j = PL at c0 c1 c2 c3 c4 c5 c6 c7 c8 HIS HPT
  go_wp2
  have h9 := setL_all (b := w.heap.size + 1) [.int .i64 PL.ban, .int .i64 PL.kick, .int .i64 PL.invite, .int .i64 PL.redact, .int .i64 PL.state, .int .i64 PL.events, .int .i64 PL.users, .slice pu PL.byUser.length cu, .slice pt PL.byType.length ct] HZ.out rfl
  have HK := setL_keep (w.heap.size + 1) [.int .i64 PL.ban, .int .i64 PL.kick, .int .i64 PL.invite, .int .i64 PL.redact, .int .i64 PL.state, .int .i64 PL.events, .int .i64 PL.users, .slice pu PL.byUser.length cu, .slice pt PL.byType.length ct] WE 0
  simp only [setL, Nat.zero_add, Nat.reduceAdd] at h9 HK
  refine bodyPost_ret (resultsP_cell_tmp rfl _ _ _ rfl (loadL9 h9)) rfl ?_
  rw [HPT.out]
  refine ⟨⟨⟨pu, cu, pt, ct⟩, rfl, HIS.out.carry fun b hb => ⟨⟨hb.1, Nat.lt_of_lt_of_le hb.2.1 HK.size⟩, HK.block b hb.2.1 (by unfold OneP; exact hb.2.2)⟩⟩, hbF.trans (HK.below hbF.size fun q hq e => by unfold OneP at e; omega)⟩
end Go.Proofs.YtnngalkdjgjmbaaGreat

/-
  The changes from a row of names to the next, gone through by a function: by a contract.
-/
import Derived.Test.YtldegjjaknelgaaGreatDoorAK11
import Derived.RangeFuncBound
import Derived.RangeFuncCalls
import Derived.RangeFuncLeaves
import Derived.Shelf.Abstract
import Derived.Shelf.RegionOpen
import Derived.OwnWalkIn
import Derived.TacticsInMore
import Derived.LoopNIn
import Derived.LoopIn
import Derived.Laws.StructEq
import Derived.Deep.CutRange
import Derived.Deep.CutBlock
set_option maxRecDepth 100000
set_option maxHeartbeats 16000000
namespace Go.Proofs.YtldegjjaknelgaaGreatDoor
open Go.RowKit Go.Maps Go.Shelf
section
attribute [local go_sem] Oper.semAt_some
structure Lay (W W' : World) : Prop where
 size : W.heap.size ≤ W'.heap.size
 same : ∀ (k : Nat) (o : Obj),W.heap[k]? = some o → (o.isCells = true ∨ o.isWalk = true) → W'.heap[k]? = some o
theorem Lay.refl (W : World) : Lay W W:=⟨Nat.le_refl _,fun _ _ h _ => h⟩
theorem Lay.trans {A B C : World} (h : Lay A B) (k : Lay B C) : Lay A C:=⟨Nat.le_trans h.size k.size,fun i o hi ho => k.same i o (h.same i o hi ho) ho⟩
theorem Lay.putObj (W : World) (l : Nat) (o o' : Obj) (h : W.heap[l]? = some o) (hc : o.isCells = false) (hw : o.isWalk = false) : Lay W (W.putObj l o'):=by
 have hg:=grownBy_putObj' W l o'
 refine ⟨hg.size,fun k x hk hx => ?_⟩
 by_cases e : k = l
 · subst e
   rw [hk] at h
   cases h
   rcases hx with hx | hx
   · rw [hc] at hx;cases hx
   · rw [hw] at hx;cases hx
 · exact (hg.block k (Array.getElem?_eq_some_iff.1 hk).1 (fun h => e (Option.some.inj h))).trans hk
theorem Lay.of_below {W W' : World} (h : Below W.heap.size W W') : Lay W W':=⟨h.size,fun k _ hk _ => (h.block k (Array.getElem?_eq_some_iff.1 hk).1).trans hk⟩
theorem Lay.map {W W' : World} {M : Nat} {l : Nms} (h : MapN W M l) (k : Lay W W') : MapN W' M l:=by
 obtain ⟨o,ho,hw,_⟩:=h.walk
 exact h.same ((k.same M o ho (.inr hw)).trans ho.symm)
theorem Lay.rdN {W W' : World} {O : Nat → Prop} {p : Option Addr} {c : Nat} {l : Nms} (h : RdN O W p c l) (k : Lay W W') : RdN O W' p c l:=by
 refine ⟨h.1,fun hn => ?_⟩
 obtain ⟨b,o,hp,hb,hc⟩:=h.2 hn
 have key : ∀ j v,W.cell? ⟨b,j,none⟩ = some v → W'.cell? ⟨b,j,none⟩ = some v:=fun j v hv => by
  cases e : W.heap[b]? with
  | none => simp [World.cell?,e] at hv
  | some ob =>
   cases ob with
   | cells cs t fr => rw [← hv];exact World.cell?_of_block ((k.same b _ e (.inl rfl)).trans e.symm)
   | _ => simp [World.cell?,e] at hv
 exact ⟨b,o,hp,hb,fun j x hj => ⟨key _ _ (hc j x hj).1,key _ _ (hc j x hj).2⟩⟩
theorem own_rdN {w : World} {B : Nat} {v : Value} {l : Nms} (h : w.ownsRow B 109 2 v l.length (flatN l)) : ∃ p c,v = .slice p l.length c ∧ RdN (fun k => B ≤ k ∧ k < w.heap.size) w p c l:=by
 rcases h.2 with ⟨rfl,hn⟩ | ⟨g,cap,cur,rfl,hb,hg,hnc,_,hcs,ht⟩
 · obtain rfl : l = []:=List.eq_nil_of_length_eq_zero hn
   exact ⟨none,0,rfl,RdN.nil _ _ _ _ fun _ => rfl⟩
 · refine ⟨some ⟨g,0,none⟩,cap,rfl,rdN_of (cur:=cur.toList) ⟨hb,objP_lt hg⟩ (by simpa using hg) hnc fun j hj => ?_⟩
   rw [← ht,List.getElem?_take,Nat.zero_add]
   rw [if_pos (by rw [flatN_len] at hj;exact hj)]
theorem fieldsHeld : Tryz.prog.underlying 141 = some (.struct (Tryz.prog.fieldsOf 141)):=by kernel_rfl
theorem stoodHeld : Tryz.prog.stoodInHeld 141 = false:=by kernel_rfl
theorem fieldsH : (Tryz.prog.fieldsOf 141).toList = [{ name := "has", type := 4, offset := 0, embedded := false, tag := "", pkgPath := "agora/power", byteOffset := 0 }, { name := "level", type := 2, offset := 1, embedded := false, tag := "", pkgPath := "agora/power", byteOffset := 8 }] := by kernel_rfl
theorem held_neq (w : World) (x y : Option Int) : (binOp .neq 141 (.agg #[.bool x.isSome,.int .i64 (x.getD 0)]) (.agg #[.bool y.isSome,.int .i64 (y.getD 0)])).run Tryz.prog w = .ok (.bool (!(x == y))) w:=by
 have h4 : Tryz.prog.underlying 4 = some .bool:=by kernel_rfl
 have h2 : Tryz.prog.underlying 2 = some (.int .i64):=by kernel_rfl
 rw [run_neq_struct,run_equalIn_agg w 9999 141 _ _ fieldsHeld stoodHeld,fieldsH]
 have p0 : ∀ W (b : Bool) (m : Int),(part 4 #[.bool b,.int .i64 m] 0).run Tryz.prog W = .ok (.bool b) W:=fun W b m => by simp [go_sem,part]
 have p1 : ∀ W (b : Bool) (m : Int),(part 2 #[.bool b,.int .i64 m] 1).run Tryz.prog W = .ok (.int .i64 m) W:=fun W b m => by simp [go_sem,part]
 have e0 : ∀ (W : World) (a b : Bool),(Op.equalIn 9999 4 (.bool a) (.bool b)).run Tryz.prog W = .ok (a == b) W:=fun W a b => run_equalIn_bool' W 9998 4 a b h4
 have e1 : ∀ (W : World) (a b : Int),(Op.equalIn 9999 2 (.int .i64 a) (.int .i64 b)).run Tryz.prog W = .ok (a == b) W:=fun W a b => run_equalIn_int W 9998 2 .i64 .i64 a b h2
 cases x with
 | none =>
  cases y with
  | none => simp [Op.eqFields,p0,p1,e0,e1,Result.andThen]
  | some y => simp [Op.eqFields,p0,e0,Result.andThen]
 | some x =>
  cases y with
  | none => simp [Op.eqFields,p0,e0,Result.andThen]
  | some y => by_cases h : x = y <;> simp [Op.eqFields,p0,p1,e0,e1,Result.andThen,h]
theorem heldV_eq (x : Option Int) : heldV x = .agg #[.bool x.isSome,.int .i64 (x.getD 0)]:=by cases x <;> rfl
theorem below_grownP {w w' : World} (h : Below w.heap.size w w') : w.grownBy w' none:=⟨h.os,h.tape,h.output,h.size,fun k hk _ => h.block k hk⟩
theorem chs_pre {α : Type} (f : α → Chg) : ∀ (l : List α) (k : Nat),((l.take k).map f).filter Chg.turns <+: (l.map f).filter Chg.turns
 | l,k => by
  conv => rhs;rw [← List.take_append_drop k l,List.map_append,List.filter_append]
  exact List.prefix_append _ _
theorem changes_fn {w : World} (p q : Option Addr) (n c m d : Nat) :
    Calls Tryz.prog 124 #[.slice p n c,.slice q m d] w fun e w' => e = .returned (.func (.func 150) #[] #[.pointer (some ⟨w.heap.size,0,none⟩),.pointer (some ⟨w.heap.size + 1,0,none⟩)]) ∧ w' = (w.alloc (.cells #[.slice p n c] 45)).alloc (.cells #[.slice q m d] 45):=by
 go_enter Tryz.func124,Tryz.ntmps124
 go_wp2
 go_ret
 exact ⟨rfl,rfl⟩
theorem changes_in (n l B1 B2 : Nat) (hn : 1 ≤ n) {O : Nat → Prop} {a b : Nms} {p q : Option Addr} {c d : Nat} (J Jx : List Chg → World → Prop) (W : World) (hJ : AbidesFrom W.heap.size J)
    (ha : RdN O W p c a) (hb : RdN O W q d b) (hO : ∀ k,O k → k < W.heap.size) (hza : SzN a) (hzb : SzN b)
    (h1 : W.cell? ⟨B1,0,none⟩ = some (.slice p a.length c)) (h2 : W.cell? ⟨B2,0,none⟩ = some (.slice q b.length d)) (hB1 : B1 < W.heap.size) (hB2 : B2 < W.heap.size)
    (hY : ∀ pre x W1,J pre W1 → pre.length < (a ++ b).length → YieldAt Fence.wide (n - 1) Tryz.prog l #[valC x] W1 fun e W' => (e = .returned (.bool true) ∧ J (pre ++ [x]) W' ∧ Lay W1 W') ∨ (e = .returned (.bool false) ∧ Jx (pre ++ [x]) W'))
    (h0 : J [] W) :
    CallsIn Fence.wide n Tryz.prog 150 #[.func (.yield l) #[] #[],.pointer (some ⟨B1,0,none⟩),.pointer (some ⟨B2,0,none⟩)] W fun e W' => (∃ v,e = .returned v) ∧ ((∃ xs,xs = chs a b (a ++ b) ∧ J xs W') ∨ (∃ pre,pre <+: chs a b (a ++ b) ∧ Jx pre W')):=by
 refine callsIn_wide.2 ?_
 have HB1 : Hid (∀ X,Below W.heap.size W X → Calls Tryz.prog 151 #[.slice p a.length c] X fun e w' => (∃ M,e = .returned (.map (some M)) ∧ X.heap.size ≤ M ∧ MapN w' M a) ∧ Below X.heap.size X w'):=fun X hX => byName_any (ha.below hO hX) (fun k hk => Nat.lt_of_lt_of_le (hO k hk) hX.size) hza
 have HB2 : Hid (∀ X,Below W.heap.size W X → Calls Tryz.prog 151 #[.slice q b.length d] X fun e w' => (∃ M,e = .returned (.map (some M)) ∧ X.heap.size ≤ M ∧ MapN w' M b) ∧ Below X.heap.size X w'):=fun X hX => byName_any (hb.below hO hX) (fun k hk => Nat.lt_of_lt_of_le (hO k hk) hX.size) hzb
 have HCC : Hid (∀ X,Below W.heap.size W X → X.cell? ⟨B1,0,none⟩ = some (.slice p a.length c) ∧ X.cell? ⟨B2,0,none⟩ = some (.slice q b.length d)):=fun X hX => ⟨(hX.cell (p:=⟨B1,0,none⟩) hB1).trans h1,(hX.cell (p:=⟨B2,0,none⟩) hB2).trans h2⟩
 have HCo : Hid (∀ X g,Below W.heap.size W X → X.heap[g]? = some (.cells #[.slice p a.length c,.slice q b.length d] 45 (0,0)) → Calls Tryz.prog 152 #[.slice (some ⟨g,0,none⟩) 2 2] X fun e w' => (∃ v,e = .returned v ∧ w'.ownsRow X.heap.size 109 2 v (a ++ b).length (flatN (a ++ b))) ∧ Below X.heap.size X w'):=fun X g hX hg =>
  concat_any (ha.below hO hX) (hb.below hO hX) (fun k hk => Nat.lt_of_lt_of_le (hO k hk) hX.size) hza hzb (cellP hg 0 _ rfl) (cellP hg 1 _ rfl) (objP_lt hg)
 obtain ⟨na,hna⟩ : ∃ n,a.length = n:=⟨_,rfl⟩
 obtain ⟨nb,hnb⟩ : ∃ n,b.length = n:=⟨_,rfl⟩
 rw [hna] at HB1 HCC HCo
 rw [hnb] at HB2 HCC HCo
 have HNA : Hid (a.length = na):=hna
 have HNB : Hid (b.length = nb):=hnb
 have HAB : Hid (SzN a ∧ SzN b):=⟨hza,hzb⟩
 have HJ0 : Hid (J [] W):=h0
 have HJ : Hid (AbidesFrom W.heap.size J):=hJ
 have HY : Hid (∀ pre x W1,J pre W1 → pre.length < (a ++ b).length → YieldAt Fence.wide (n - 1) Tryz.prog l #[valC x] W1 fun e W' => (e = .returned (.bool true) ∧ J (pre ++ [x]) W' ∧ Lay W1 W') ∨ (e = .returned (.bool false) ∧ Jx (pre ++ [x]) W')):=hY
 clear hna hnb ha hb hza hzb h1 h2 h0 hJ hY
 obtain ⟨ab,hab⟩ : ∃ ab,a ++ b = ab:=⟨_,rfl⟩
 have HZ : Hid (SzN a ∧ SzN b):=HAB
 have HL : Hid (ab.length = na + nb ∧ na ≤ 100000 ∧ nb ≤ 100000):=⟨by rw [← hab,List.length_append,HNA.out,HNB.out],by have:=HZ.out.1.1;have:=HNA.out;omega,by have:=HZ.out.2.1;have:=HNB.out;omega⟩
 have HOK : Hid (∀ k,k < ab.length → okP (ab.getD k zN).1):=fun k hk => by
  apply okP_of
  rw [List.getD_eq_getElem?_getD,List.getElem?_eq_getElem hk]
  have : ab[k] ∈ a ++ b:=by rw [hab];exact List.getElem_mem hk
  rcases List.mem_append.1 this with h | h
  · exact HZ.out.1.2 _ h
  · exact HZ.out.2.2 _ h
 rw [hab] at HCo HY ⊢
 clear hab
 go_enter Tryz.func150,Tryz.ntmps150
 go_upto_region 0 with fail
 refine wp_region_in (by kernel_rfl) (fun w' => Below W.heap.size W w') ?_
 change wpIn _ _ _ _ _ _ _ _ (World.drew _)
 have hD : Below W.heap.size W W.drew:=(Below.refl _ _).drew
 refine wpIn_tp (i:=0) (d:=some 9) rfl (by (intro wq hq;obtain ⟨z1,z2⟩:=HCC.out wq hq;go_simp;first | done | with_reducible rfl)) ?_
 refine wpIn_tp (i:=2) (d:=some 11) rfl (by (intro wq hq;obtain ⟨z1,z2⟩:=HCC.out wq hq;go_simp;first | done | with_reducible rfl)) ?_
 refine wpIn_do (i:=1) hD (by kernel_rfl) rfl (by rfl) ?_
 intro K hK
 go_simp
 go_wp2_with (go_at_call 151;refine (HB1.out _ hD).mono ?_;rintro e w1 ⟨⟨M,rfl,hM0,hM⟩,hb1⟩)
 have hD1 : Below W.heap.size W w1:=belowP hD hb1
 refine wpIn_do (i:=3) hD1 (by kernel_rfl) rfl (by rfl) ?_
 intro K hK
 go_simp
 go_wp2_with (go_at_call 151;refine (HB2.out _ hD1).mono ?_;rintro e w2 ⟨⟨N,rfl,hN0,hN⟩,hb2⟩)
 have hD2 : Below W.heap.size W w2:=belowP hD1 hb2
 refine wpIn_tk (i:=4) (d:=some 4) rfl ?_
 refine wpIn_tk (i:=5) (d:=some 5) rfl ?_
 refine wpIn_done hD2 (by kernel_rfl) ?_ _
 obtain ⟨z1,z2⟩:=HCC.out w2 hD2
 have hbA : Below W.heap.size W (w2.alloc (.cells #[.slice p na c,.slice q nb d] 45)):=belowP hD2 ((Below.refl _ _).alloc (Nat.le_refl _) _)
 have hCo:=HCo.out _ w2.heap.size hbA (newP _)
 have HM : Hid (MapN w2 M a):=hM.same (hb2.block M hM.lt)
 have HN : Hid (MapN w2 N b):=hN
 clear hb1 hb2 hM hN HB1 HB2 HCC HCo
 obtain ⟨n',hn'⟩ : ∃ m,ab.length = m:=⟨_,rfl⟩
 have HN' : Hid (ab.length = n'):=hn'
 have hnb : n' ≤ 200000:=by have:=HL.out;omega
 rw [hn'] at hCo
 clear hn'
 go_wp2_with (go_at_call 152;refine hCo.mono ?_;rintro e w3 ⟨⟨v,rfl,hown⟩,hb3⟩;rw [← HN'.out] at hown;obtain ⟨pr,cr,rfl,hrd⟩:=own_rdN hown;rw [HN'.out])
 have hD3 : Below W.heap.size W w3:=belowP hbA hb3
 have HM3 : Hid (MapN w3 M a):=(HM.out.same (Below.heap_alloc _ _ _ HM.out.lt)).same (hb3.block M (by have:=HM.out.lt;simp;omega))
 have HN3 : Hid (MapN w3 N b):=(HN.out.same (Below.heap_alloc _ _ _ HN.out.lt)).same (hb3.block N (by have:=HN.out.lt;simp;omega))
 have HR3 : Hid (RdN (fun k => (w2.alloc (.cells #[.slice p na c,.slice q nb d] 45)).heap.size ≤ k ∧ k < w3.heap.size) w3 pr cr ab):=hrd
 have hc3:=hrd.1.1
 rw [HN'.out] at hc3
 clear hrd hown z1 z2 hCo hD hD1 hD2 HM HN
 go_loopw [18] (fun i wr => ∃ k : Nat,i = .int .i64 k ∧ k ≤ n' ∧ J (chs a b (ab.take k)) wr ∧ Lay w3 wr) (fun i _ => n' - (intOf i).toNat)
 case atStart => exact ⟨0,rfl,Nat.zero_le _,HJ.out [] W w3 none HJ0.out (below_grownP hD3) (fun r e => by cases e),Lay.refl _⟩
 case round =>
  obtain ⟨k,rfl,hk,hj,hly⟩:=hrel
  by_cases hkn : k < n'
  · have hkl : k < ab.length:=by rw [HN'.out];exact hkn
    obtain ⟨rb,ro,rfl,_,g1,g2⟩:=(Lay.rdN HR3.out hly).at hkl
    have hok:=HOK.out k hkl
    have HT : Hid (ab.take (k + 1) = ab.take k ++ [ab.getD k zN]):=takeP_one hkl
    generalize ab.getD k zN = x at g1 g2 HT hok
    obtain ⟨xn,xl⟩:=x
    simp only at g1 g2 hok
    have hlk1:=((Lay.map HM3.out hly).same (w':=wr.alloc (.cells #[.string xn,.int .i64 xl] 109)) (Below.heap_alloc _ _ _ (Lay.map HM3.out hly).lt)).look hok
    have hlk2:=((Lay.map HN3.out hly).same (w':=wr.alloc (.cells #[.string xn,.int .i64 xl] 109)) (Below.heap_alloc _ _ _ (Lay.map HN3.out hly).lt)).look hok
    rw [heldV_eq] at hlk1 hlk2
    have HCH : Hid (chs a b (ab.take (k + 1)) = if (Chg.turns ⟨xn,fnd a xn,fnd b xn⟩) = true then chs a b (ab.take k) ++ [⟨xn,fnd a xn,fnd b xn⟩] else chs a b (ab.take k)):=by show _ = _;rw [HT.out,chs_snoc];rfl
    have HPR : Hid (chs a b (ab.take (k + 1)) <+: chs a b ab):=chs_pre _ _ _
    have HLN : Hid ((chs a b (ab.take k)).length < ab.length):=by
     show _ < _
     have:=chs_len a b (ab.take k)
     rw [List.length_take] at this
     omega
    generalize fnd a xn = oa at hlk1 HCH
    generalize fnd b xn = ob at hlk2 HCH
    have hneq:=held_neq
    have hbW : Below wr.heap.size wr ((wr.alloc (.cells #[.string xn,.int .i64 xl] 109)).alloc (.cells #[.string xn,.bool oa.isSome,.int .i64 (oa.getD 0),.bool ob.isSome,.int .i64 (ob.getD 0)] 143)):=((Below.refl _ _).alloc (Nat.le_refl _) _).alloc (by simp) _
    have hj5:=HJ.out _ _ _ none hj (below_grownP hbW) (fun r e => by cases e)
    cases ht : (!(oa == ob)) with
    | true =>
     have HC1 : Hid (chs a b (ab.take (k + 1)) = chs a b (ab.take k) ++ [⟨xn,oa,ob⟩]):=by show _ = _;rw [HCH.out,if_pos (show Chg.turns ⟨xn,oa,ob⟩ = true from ht)]
     obtain ⟨fn,tm,asg,bod,hy,hR⟩:=HY.out _ ⟨xn,oa,ob⟩ _ hj5 HLN.out
     simp only [valC,cellsC] at hy
     refine (wpIn_wide (n:=n)).1 ?_
     gi_wp2
     refine hR.mono ?_
     rintro e W6 (⟨rfl,hJ6,hk6⟩ | ⟨rfl,hJx6⟩)
     · gi_wp2
       go_roundw
       case rel => exact ⟨k + 1,by simp,by omega,by rw [HC1.out];exact hJ6,(hly.trans (Lay.of_below hbW)).trans hk6⟩
       case measure => simp [intOf];omega
     · gi_wp2
       refine bodyPost_ret (results_none rfl _ _ _) rfl ?_
       exact ⟨⟨_,rfl⟩,.inr ⟨_,HPR.out,by rw [HC1.out];exact hJx6⟩⟩
    | false =>
     have HC1 : Hid (chs a b (ab.take (k + 1)) = chs a b (ab.take k)):=by show _ = _;rw [HCH.out,if_neg (by unfold Chg.turns;rw [ht];decide)]
     go_wp2
     go_roundw
     case rel => exact ⟨k + 1,by simp,by omega,by rw [HC1.out];exact hj5,hly.trans (Lay.of_below hbW)⟩
     case measure => simp [intOf];omega
  · obtain rfl : k = n':=by omega
    have HJE : Hid (J (chs a b ab) wr):=by show J _ _;rw [← List.take_length (l:=ab),HN'.out];exact hj
    clear hj
    go_wp2
    go_end0
    exact ⟨⟨_,rfl⟩,.inl ⟨_,rfl,HJE.out⟩⟩
theorem changes_seq (n B1 B2 : Nat) (hn : 1 ≤ n) {O : Nat → Prop} {a b : Nms} {p q : Option Addr} {c d : Nat} {w : World}
    (ha : RdN O w p c a) (hb : RdN O w q d b) (hO : ∀ k,O k → k < w.heap.size) (hza : SzN a) (hzb : SzN b)
    (h1 : w.cell? ⟨B1,0,none⟩ = some (.slice p a.length c)) (h2 : w.cell? ⟨B2,0,none⟩ = some (.slice q b.length d)) (hB1 : B1 < w.heap.size) (hB2 : B2 < w.heap.size) :
    SeqStopsK Fence.wide n Tryz.prog 150 #[.pointer (some ⟨B1,0,none⟩),.pointer (some ⟨B2,0,none⟩)] (fun x : Chg => #[valC x]) Lay (fun ys => ys = chs a b (a ++ b)) (fun pre => pre <+: chs a b (a ++ b)) (a ++ b).length w:=fun l J Jx W hW hJ _ hY h0 =>
 changes_in n l B1 B2 hn J Jx W hJ (ha.below hO hW) (hb.below hO hW) (fun k hk => Nat.lt_of_lt_of_le (hO k hk) hW.size) hza hzb ((hW.cell (p:=⟨B1,0,none⟩) hB1).trans h1) ((hW.cell (p:=⟨B2,0,none⟩) hB2).trans h2) (Nat.lt_of_lt_of_le hB1 hW.size) (Nat.lt_of_lt_of_le hB2 hW.size) hY h0
end
end Go.Proofs.YtldegjjaknelgaaGreatDoor

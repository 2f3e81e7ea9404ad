/-
  The document's levels of a content, by a contract.
  Levels that are few: by contracts.
  The document's levels: who may change them: by contracts.
  The document's May: by contracts.
  The document's May, walked.
  The document's Type, Start, and levels that are the same: by contracts.
-/
import Derived.Test.YtldegjjaknelgaaGreatDoorAK37
set_option maxRecDepth 100000
set_option maxHeartbeats 16000000
namespace Go.Proofs.YtldegjjaknelgaaGreatDoor
open Go.RowKit
theorem rpar_off {c : J} (h : (decide (c.kd = 5) && goodJ 12 c) = false) : rparseT c = (zeroL,1):=by
 unfold rparseT
 rw [if_neg (by rw [h];decide)]
theorem rpar_bad {c : J} (h : (decide (c.kd = 5) && goodJ 12 c) = true) (hb : rparB c = true) : rparseT c = (zeroL,1):=by
 unfold rparseT
 rw [if_pos h,if_pos hb]
theorem rpar_ok {c : J} (h : (decide (c.kd = 5) && goodJ 12 c) = true) (hb : rparB c = false) : rparseT c = (rparL c,0):=by
 unfold rparseT
 rw [if_pos h,if_neg (by rw [hb];decide)]
def ParP (w w' : World) (r : Lv × Int) (e : Ending) : Prop:=(∃ p,e = .returned (.tuple #[valL r.1 p,.int .i64 r.2]) ∧ IsL (fun b => w.heap.size ≤ b ∧ b < w'.heap.size) w' r.1 p) ∧ Below w.heap.size w w'
theorem ParP.off {w w' : World} {r : Lv × Int} (h : r = (zeroL,1)) (hb : Below w.heap.size w w') : ParP w w' r (.returned (.tuple #[.agg #[.int .i64 0,.int .i64 0,.int .i64 0,.int .i64 0,.int .i64 0,.int .i64 0,.int .i64 0,.slice none 0 0,.slice none 0 0],.int .i64 1])):=by
 subst h
 exact ⟨⟨⟨none,0,none,0⟩,rfl,RdN.nil _ _ _ _ fun _ => rfl,RdN.nil _ _ _ _ fun _ => rfl⟩,hb⟩
theorem rParse_any {O : Nat → Prop} {w : World} {c : J} {k i : Int} {t : ByteArray} {pk pl : Option Addr} {nk ck nl cl : Nat} (hj : isJ O w c [.int .i64 k, .int .i64 i, .string t, .slice pk nk ck, .slice pl nl cl]) (hO : ∀ b, O b → b < w.heap.size) (hz : szJ 13 c = true) :
    Calls Tryz.prog 46 #[.agg #[.int .i64 k,.int .i64 i,.string t,.slice pk nk ck,.slice pl nl cl]] w fun e w' => ParP w w' (rparseT c) e:=by
 obtain ⟨W0,hW0⟩ : ∃ W0,W0 = (w.alloc (.cells #[.int .i64 k,.int .i64 i,.string t,.slice pk nk ck,.slice pl nl cl] 25)).alloc (.cells #[.int .i64 0,.int .i64 0,.int .i64 0,.int .i64 0,.int .i64 0,.int .i64 0,.int .i64 0,.slice none 0 0,.slice none 0 0] 47):=⟨_,rfl⟩
 have hb0 : Below w.heap.size w W0:=by rw [hW0];exact ((Below.refl _ _).alloc (Nat.le_refl _) _).alloc (by simp) _
 have hs0 : W0.heap.size = w.heap.size + 2:=by rw [hW0];simp
 have hX0 : W0.heap[w.heap.size]? = some (.cells #[.int .i64 k,.int .i64 i,.string t,.slice pk nk ck,.slice pl nl cl] 25 (0,0)):=by rw [hW0,Below.heap_alloc _ _ _ (by simp)];exact newP _
 have hR0 : W0.heap[w.heap.size + 1]? = some (.cells #[.int .i64 0,.int .i64 0,.int .i64 0,.int .i64 0,.int .i64 0,.int .i64 0,.int .i64 0,.slice none 0 0,.slice none 0 0] 47 (0,0)):=by
  rw [hW0]
  have:=newP (w:=w.alloc (.cells #[.int .i64 k,.int .i64 i,.string t,.slice pk nk ck,.slice pl nl cl] 25)) (.cells #[.int .i64 0,.int .i64 0,.int .i64 0,.int .i64 0,.int .i64 0,.int .i64 0,.int .i64 0,.slice none 0 0,.slice none 0 0] 47)
  rw [World.size_alloc] at this
  exact this
 have HX : Hid (∀ X,Below W0.heap.size W0 X → X.heap[w.heap.size]? = some (.cells #[.int .i64 k,.int .i64 i,.string t,.slice pk nk ck,.slice pl nl cl] 25 (0,0)) ∧ X.heap[w.heap.size + 1]? = some (.cells #[.int .i64 0,.int .i64 0,.int .i64 0,.int .i64 0,.int .i64 0,.int .i64 0,.int .i64 0,.slice none 0 0,.slice none 0 0] 47 (0,0))):=fun X hX => ⟨(hX.block _ (objP_lt hX0)).trans hX0,(hX.block _ (objP_lt hR0)).trans hR0⟩
 have HJ : Hid (∀ X,(∀ b,b < w.heap.size → X.heap[b]? = w.heap[b]?) → isJ O X c [.int .i64 k,.int .i64 i,.string t,.slice pk nk ck,.slice pl nl cl]):=fun X hX => hj.carry fun b hb => ⟨hb,hX b (hO b hb)⟩
 have hz12 : szJ 12 c = true:=sz_less 12 13 c (by decide) hz
 have hG:=rGood_any (w:=W0) (fun b hb => Nat.lt_of_lt_of_le (hO b hb) hb0.size) hz12 (HJ.out W0 fun b hb => hb0.block b hb)
 have HKD : Hid (c.kd = k):=by
  obtain ⟨_,_,_,_,_⟩:=c
  obtain ⟨rfl,_⟩:=isJP_parts hj
  rfl
 have HW0:=(show Hid _ from hs0)
 clear hj hX0 hR0 hs0
 obtain ⟨q0,hZ0⟩:=HX.out W0 (Below.refl _ _)
 by_cases k5 : k = 5
 case neg =>
  have HT : Hid (rparseT c = (zeroL,1)):=rpar_off (by rw [HKD.out];simp [k5])
  have r0:=cellP hZ0 0 _ rfl;have r1:=cellP hZ0 1 _ rfl;have r2:=cellP hZ0 2 _ rfl;have r3:=cellP hZ0 3 _ rfl;have r4:=cellP hZ0 4 _ rfl;have r5:=cellP hZ0 5 _ rfl;have r6:=cellP hZ0 6 _ rfl;have r7:=cellP hZ0 7 _ rfl;have r8:=cellP hZ0 8 _ rfl
  have z0:=fzP hZ0 0;have z1:=fzP hZ0 1;have z2:=fzP hZ0 2;have z3:=fzP hZ0 3;have z4:=fzP hZ0 4;have z5:=fzP hZ0 5;have z6:=fzP hZ0 6;have z7:=fzP hZ0 7;have z8:=fzP hZ0 8
  have c0:=cellP q0 0 _ rfl
  have HZ:=(show Hid _ from hZ0)
  clear q0 hZ0
  go_enter Tryz.func46,Tryz.ntmps46
  go_upto_region 1 with fail
  rw [← hW0]
  clear hW0
  go_wp2
  have hZ0:=HZ.out
  have h9:=setL_all (b:=w.heap.size + 1) [.int .i64 0,.int .i64 0,.int .i64 0,.int .i64 0,.int .i64 0,.int .i64 0,.int .i64 0,.slice none 0 0,.slice none 0 0] hZ0 rfl
  have HK:=setL_keep (w.heap.size + 1) [.int .i64 0,.int .i64 0,.int .i64 0,.int .i64 0,.int .i64 0,.int .i64 0,.int .i64 0,.slice none 0 0,.slice none 0 0] W0 0
  simp only [setL,Nat.zero_add,Nat.reduceAdd] at h9 HK
  refine bodyPost_ret (resultsP_cell_tmp rfl _ _ _ rfl (loadL9 h9)) rfl ?_
  exact ParP.off HT.out (hb0.trans (HK.below hb0.size fun q hq e => by unfold OneP at e;omega))
 subst k5
 have c0:=cellP q0 0 _ rfl;have c1:=cellP q0 1 _ rfl;have c2:=cellP q0 2 _ rfl;have c3:=cellP q0 3 _ rfl;have c4:=cellP q0 4 _ rfl
 cases hg : goodJ 12 c with
 | false =>
  have HT : Hid (rparseT c = (zeroL,1)):=rpar_off (by rw [hg,Bool.and_false])
  rw [hg] at hG
  clear q0 hZ0
  go_enter Tryz.func46,Tryz.ntmps46
  go_upto_region 1 with fail
  rw [← hW0]
  clear hW0
  go_wp2_with (go_at_call 37; refine hG.mono ?_; rintro e w1 ⟨rfl, hb1⟩
               obtain ⟨q1,hZ1⟩:=HX.out w1 hb1
               have r0:=cellP hZ1 0 _ rfl;have r1:=cellP hZ1 1 _ rfl;have r2:=cellP hZ1 2 _ rfl;have r3:=cellP hZ1 3 _ rfl;have r4:=cellP hZ1 4 _ rfl;have r5:=cellP hZ1 5 _ rfl;have r6:=cellP hZ1 6 _ rfl;have r7:=cellP hZ1 7 _ rfl;have r8:=cellP hZ1 8 _ rfl
               have z0:=fzP hZ1 0;have z1:=fzP hZ1 1;have z2:=fzP hZ1 2;have z3:=fzP hZ1 3;have z4:=fzP hZ1 4;have z5:=fzP hZ1 5;have z6:=fzP hZ1 6;have z7:=fzP hZ1 7;have z8:=fzP hZ1 8
               have HZ:=(show Hid _ from hZ1)
               clear q1 hZ1)
  have hZ1:=HZ.out
  have h9:=setL_all (b:=w.heap.size + 1) [.int .i64 0,.int .i64 0,.int .i64 0,.int .i64 0,.int .i64 0,.int .i64 0,.int .i64 0,.slice none 0 0,.slice none 0 0] hZ1 rfl
  have HK:=setL_keep (w.heap.size + 1) [.int .i64 0,.int .i64 0,.int .i64 0,.int .i64 0,.int .i64 0,.int .i64 0,.int .i64 0,.slice none 0 0,.slice none 0 0] w1 0
  simp only [setL,Nat.zero_add,Nat.reduceAdd] at h9 HK
  refine bodyPost_ret (resultsP_cell_tmp rfl _ _ _ rfl (loadL9 h9)) rfl ?_
  have hbE:=belowP hb0 hb1
  exact ParP.off HT.out (hbE.trans (HK.below hbE.size fun q hq e => by unfold OneP at e;omega))
 | true =>
  rw [hg] at hG
  have HGD : Hid ((decide (c.kd = 5) && goodJ 12 c) = true):=by show _ = _;rw [HKD.out,hg];rfl
  clear q0 hZ0
  go_enter Tryz.func46,Tryz.ntmps46
  go_upto_region 1 with fail
  rw [← hW0]
  clear hW0
  go_upto_region 3 with (go_at_call 37;refine hG.mono ?_;rintro e w1 ⟨rfl,hb1⟩)
  clear c0 c1 c2 c3 c4 hG
  go_upto_region 5 with fail
  obtain ⟨W1,hW1⟩ : ∃ W1,W1 = w1.alloc (.cells #[.int .i64 0,.int .i64 0,.int .i64 0,.int .i64 0,.int .i64 0,.int .i64 0,.int .i64 0,.slice none 0 0,.slice none 0 0] 47):=⟨_,rfl⟩
  have hbW : Below w1.heap.size w1 W1:=by rw [hW1];exact (Below.refl _ _).alloc (Nat.le_refl _) _
  have hB0 : W1.heap[w1.heap.size]? = some (.cells #[.int .i64 0,.int .i64 0,.int .i64 0,.int .i64 0,.int .i64 0,.int .i64 0,.int .i64 0,.slice none 0 0,.slice none 0 0] 47 (0,0)):=by rw [hW1];exact newP _
  have hb1' : Below w.heap.size w W1:=belowP hb0 (belowP hb1 hbW)
  have hs1 : w.heap.size + 2 ≤ w1.heap.size:=by have:=hb1.size;have:=HW0.out;omega
  have HX1 : Hid (∀ X,Keep (OneP w1.heap.size) W1 X → X.heap[w.heap.size]? = some (.cells #[.int .i64 5,.int .i64 i,.string t,.slice pk nk ck,.slice pl nl cl] 25 (0,0)) ∧ X.heap[w.heap.size + 1]? = some (.cells #[.int .i64 0,.int .i64 0,.int .i64 0,.int .i64 0,.int .i64 0,.int .i64 0,.int .i64 0,.slice none 0 0,.slice none 0 0] 47 (0,0))):=fun X hX => by
   have s1:=hbW.size
   obtain ⟨a,b⟩:=HX.out W1 (belowP hb1 hbW)
   exact ⟨(hX.block _ (by omega) (by unfold OneP;omega)).trans a,(hX.block _ (by omega) (by unfold OneP;omega)).trans b⟩
  have HJX : Hid (∀ X,Keep (OneP w1.heap.size) W1 X → isJ O X c [.int .i64 5,.int .i64 i,.string t,.slice pk nk ck,.slice pl nl cl] ∧ ∀ b,O b → b < X.heap.size):=fun X hX => ⟨HJ.out X fun b hb => (hX.block b (by have:=hbW.size;omega) (by unfold OneP;omega)).trans (hb1'.block b hb),fun b hb => by have:=hO b hb;have:=hbW.size;have:=hX.size;omega⟩
  have HBX : Hid (∀ X,Keep (OneP w1.heap.size) W1 X → Below w.heap.size w X):=fun X hX => hb1'.trans (hX.below hb1'.size fun q hq e => by unfold OneP at e;omega)
  rw [← hW1]
  clear hW1 HX HJ hbW hb1' hb1
  have HT0 : Hid (∀ X,Keep (OneP w1.heap.size) W1 X → Calls Tryz.prog 75 #[.agg #[.int .i64 5,.int .i64 i,.string t,.slice pk nk ck,.slice pl nl cl],.string kBan,.int .i64 50] X fun e w' => e = .returned (.tuple #[.int .i64 (numT 50 (getT c kBan)).1,.bool (!(numT 50 (getT c kBan)).2)]) ∧ Below X.heap.size X w'):=fun X hX => rTold_any (HJX.out X hX).1 (HJX.out X hX).2 (szP_keys hz) kBan 50
  have HT1 : Hid (∀ X,Keep (OneP w1.heap.size) W1 X → Calls Tryz.prog 75 #[.agg #[.int .i64 5,.int .i64 i,.string t,.slice pk nk ck,.slice pl nl cl],.string kKick,.int .i64 50] X fun e w' => e = .returned (.tuple #[.int .i64 (numT 50 (getT c kKick)).1,.bool (!(numT 50 (getT c kKick)).2)]) ∧ Below X.heap.size X w'):=fun X hX => rTold_any (HJX.out X hX).1 (HJX.out X hX).2 (szP_keys hz) kKick 50
  have HT2 : Hid (∀ X,Keep (OneP w1.heap.size) W1 X → Calls Tryz.prog 75 #[.agg #[.int .i64 5,.int .i64 i,.string t,.slice pk nk ck,.slice pl nl cl],.string kInvite,.int .i64 0] X fun e w' => e = .returned (.tuple #[.int .i64 (numT 0 (getT c kInvite)).1,.bool (!(numT 0 (getT c kInvite)).2)]) ∧ Below X.heap.size X w'):=fun X hX => rTold_any (HJX.out X hX).1 (HJX.out X hX).2 (szP_keys hz) kInvite 0
  have HT3 : Hid (∀ X,Keep (OneP w1.heap.size) W1 X → Calls Tryz.prog 75 #[.agg #[.int .i64 5,.int .i64 i,.string t,.slice pk nk ck,.slice pl nl cl],.string kRedact,.int .i64 50] X fun e w' => e = .returned (.tuple #[.int .i64 (numT 50 (getT c kRedact)).1,.bool (!(numT 50 (getT c kRedact)).2)]) ∧ Below X.heap.size X w'):=fun X hX => rTold_any (HJX.out X hX).1 (HJX.out X hX).2 (szP_keys hz) kRedact 50
  have HT4 : Hid (∀ X,Keep (OneP w1.heap.size) W1 X → Calls Tryz.prog 75 #[.agg #[.int .i64 5,.int .i64 i,.string t,.slice pk nk ck,.slice pl nl cl],.string kState,.int .i64 50] X fun e w' => e = .returned (.tuple #[.int .i64 (numT 50 (getT c kState)).1,.bool (!(numT 50 (getT c kState)).2)]) ∧ Below X.heap.size X w'):=fun X hX => rTold_any (HJX.out X hX).1 (HJX.out X hX).2 (szP_keys hz) kState 50
  have HT5 : Hid (∀ X,Keep (OneP w1.heap.size) W1 X → Calls Tryz.prog 75 #[.agg #[.int .i64 5,.int .i64 i,.string t,.slice pk nk ck,.slice pl nl cl],.string kEvents,.int .i64 0] X fun e w' => e = .returned (.tuple #[.int .i64 (numT 0 (getT c kEvents)).1,.bool (!(numT 0 (getT c kEvents)).2)]) ∧ Below X.heap.size X w'):=fun X hX => rTold_any (HJX.out X hX).1 (HJX.out X hX).2 (szP_keys hz) kEvents 0
  have HT6 : Hid (∀ X,Keep (OneP w1.heap.size) W1 X → Calls Tryz.prog 75 #[.agg #[.int .i64 5,.int .i64 i,.string t,.slice pk nk ck,.slice pl nl cl],.string kUsers,.int .i64 0] X fun e w' => e = .returned (.tuple #[.int .i64 (numT 0 (getT c kUsers)).1,.bool (!(numT 0 (getT c kUsers)).2)]) ∧ Below X.heap.size X w'):=fun X hX => rTold_any (HJX.out X hX).1 (HJX.out X hX).2 (szP_keys hz) kUsers 0
  have HT7 : Hid (∀ X,Keep (OneP w1.heap.size) W1 X → Calls Tryz.prog 76 #[.agg #[.int .i64 5,.int .i64 i,.string t,.slice pk nk ck,.slice pl nl cl],.string kByUser,.bool true] X fun e w' => NamP isU X w' (getT c kByUser) e):=fun X hX => rNamed_users (HJX.out X hX).1 (HJX.out X hX).2 hz kByUser
  have HT8 : Hid (∀ X,Keep (OneP w1.heap.size) W1 X → Calls Tryz.prog 76 #[.agg #[.int .i64 5,.int .i64 i,.string t,.slice pk nk ck,.slice pl nl cl],.string kByType,.bool false] X fun e w' => NamP isT X w' (getT c kByType) e):=fun X hX => rNamed_types (HJX.out X hX).1 (HJX.out X hX).2 hz kByType
  have HPB:=(show Hid _ from fun h => rpar_bad (c:=c) HGD.out h)
  have HPO:=(show Hid _ from fun h => rpar_ok (c:=c) HGD.out h)
  unfold rparB at HPB HPO
  unfold rparL at HPO
  unfold NamP at HT7 HT8
  clear HGD HJX hO hz hz12 HKD
  generalize numT 50 (getT c kBan) = q0 at HT0 HPB HPO
  generalize numT 50 (getT c kKick) = q1 at HT1 HPB HPO
  generalize numT 0 (getT c kInvite) = q2 at HT2 HPB HPO
  generalize numT 50 (getT c kRedact) = q3 at HT3 HPB HPO
  generalize numT 50 (getT c kState) = q4 at HT4 HPB HPO
  generalize numT 0 (getT c kEvents) = q5 at HT5 HPB HPO
  generalize numT 0 (getT c kUsers) = q6 at HT6 HPB HPO
  generalize namT isU (getT c kByUser) = q7 at HT7 HPB HPO
  generalize namT isT (getT c kByType) = q8 at HT8 HPB HPO
  obtain ⟨v0,b0⟩:=q0
  obtain ⟨v1,b1⟩:=q1
  obtain ⟨v2,b2⟩:=q2
  obtain ⟨v3,b3⟩:=q3
  obtain ⟨v4,b4⟩:=q4
  obtain ⟨v5,b5⟩:=q5
  obtain ⟨v6,b6⟩:=q6
  obtain ⟨v7,b7⟩:=q7
  obtain ⟨v8,b8⟩:=q8
  simp only at HT0 HT1 HT2 HT3 HT4 HT5 HT6 HT7 HT8 HPB HPO
  have hK0 : Keep (OneP w1.heap.size) W1 W1:=Keep.refl _ _
  have hlB : w1.heap.size < W1.heap.size:=objP_lt hB0
  have HBB0:=(show Hid _ from hB0)
  clear hB0
  obtain ⟨qx,_⟩:=HX1.out W1 hK0
  have c0:=cellP qx 0 _ rfl;have c1:=cellP qx 1 _ rfl;have c2:=cellP qx 2 _ rfl;have c3:=cellP qx 3 _ rfl;have c4:=cellP qx 4 _ rfl
  have hT:=HT0.out W1 hK0
  clear qx
  go_upto_region 6 with (go_at_call 75; refine hT.mono ?_; rintro e y0 ⟨rfl, hb0⟩
                         have hBy : y0.heap[w1.heap.size]? = some (.cells #[.int .i64 0,.int .i64 0,.int .i64 0,.int .i64 0,.int .i64 0,.int .i64 0,.int .i64 0,.slice none 0 0,.slice none 0 0] 47 (0,0)):=(hb0.block _ (Nat.lt_of_lt_of_le hlB hK0.size)).trans HBB0.out
                         have g0:=cellP hBy 0 _ rfl
                         have gz:=fzP hBy 0
                         have HBy:=(show Hid _ from hBy)
                         clear hBy)
  obtain ⟨X1,hX⟩ : ∃ X,X = y0.setCell ⟨w1.heap.size,0,none⟩ (.int .i64 v0):=⟨_,rfl⟩
  have hKy : Keep (OneP w1.heap.size) W1 y0:=hK0.then (Keep.of_below hb0)
  have hK1 : Keep (OneP w1.heap.size) W1 X1:=by rw [hX];exact Keep.setCell (S:=OneP w1.heap.size) (p:=⟨w1.heap.size,0,none⟩) hKy (fun _ => (rfl : w1.heap.size = w1.heap.size)) _
  have HBB1 : Hid (X1.heap[w1.heap.size]? = some (.cells #[.int .i64 v0,.int .i64 0,.int .i64 0,.int .i64 0,.int .i64 0,.int .i64 0,.int .i64 0,.slice none 0 0,.slice none 0 0] 47 (0,0))):=by
   show _ = _
   rw [hX,heap_setCell_same _ w1.heap.size 0 _ _ _ HBy.out]
   rfl
  rw [← hX]
  clear hX hT g0 gz HBy c0 c1 c2 c3 c4 hKy
  obtain ⟨qx,_⟩:=HX1.out X1 hK1
  have c0:=cellP qx 0 _ rfl;have c1:=cellP qx 1 _ rfl;have c2:=cellP qx 2 _ rfl;have c3:=cellP qx 3 _ rfl;have c4:=cellP qx 4 _ rfl
  have hT:=HT1.out X1 hK1
  clear qx
  go_upto_region 7 with (go_at_call 75; refine hT.mono ?_; rintro e y1 ⟨rfl, hb1⟩
                         have hBy : y1.heap[w1.heap.size]? = some (.cells #[.int .i64 v0,.int .i64 0,.int .i64 0,.int .i64 0,.int .i64 0,.int .i64 0,.int .i64 0,.slice none 0 0,.slice none 0 0] 47 (0,0)):=(hb1.block _ (Nat.lt_of_lt_of_le hlB hK1.size)).trans HBB1.out
                         have g0:=cellP hBy 1 _ rfl
                         have gz:=fzP hBy 1
                         have HBy:=(show Hid _ from hBy)
                         clear hBy)
  obtain ⟨X2,hX⟩ : ∃ X,X = y1.setCell ⟨w1.heap.size,1,none⟩ (.int .i64 v1):=⟨_,rfl⟩
  have hKy : Keep (OneP w1.heap.size) W1 y1:=hK1.then (Keep.of_below hb1)
  have hK2 : Keep (OneP w1.heap.size) W1 X2:=by rw [hX];exact Keep.setCell (S:=OneP w1.heap.size) (p:=⟨w1.heap.size,1,none⟩) hKy (fun _ => (rfl : w1.heap.size = w1.heap.size)) _
  have HBB2 : Hid (X2.heap[w1.heap.size]? = some (.cells #[.int .i64 v0,.int .i64 v1,.int .i64 0,.int .i64 0,.int .i64 0,.int .i64 0,.int .i64 0,.slice none 0 0,.slice none 0 0] 47 (0,0))):=by
   show _ = _
   rw [hX,heap_setCell_same _ w1.heap.size 1 _ _ _ HBy.out]
   rfl
  rw [← hX]
  clear hX hT g0 gz HBy c0 c1 c2 c3 c4 hKy
  obtain ⟨qx,_⟩:=HX1.out X2 hK2
  have c0:=cellP qx 0 _ rfl;have c1:=cellP qx 1 _ rfl;have c2:=cellP qx 2 _ rfl;have c3:=cellP qx 3 _ rfl;have c4:=cellP qx 4 _ rfl
  have hT:=HT2.out X2 hK2
  clear qx
  go_upto_region 8 with (go_at_call 75; refine hT.mono ?_; rintro e y2 ⟨rfl, hb2⟩
                         have hBy : y2.heap[w1.heap.size]? = some (.cells #[.int .i64 v0,.int .i64 v1,.int .i64 0,.int .i64 0,.int .i64 0,.int .i64 0,.int .i64 0,.slice none 0 0,.slice none 0 0] 47 (0,0)):=(hb2.block _ (Nat.lt_of_lt_of_le hlB hK2.size)).trans HBB2.out
                         have g0:=cellP hBy 2 _ rfl
                         have gz:=fzP hBy 2
                         have HBy:=(show Hid _ from hBy)
                         clear hBy)
  obtain ⟨X3,hX⟩ : ∃ X,X = y2.setCell ⟨w1.heap.size,2,none⟩ (.int .i64 v2):=⟨_,rfl⟩
  have hKy : Keep (OneP w1.heap.size) W1 y2:=hK2.then (Keep.of_below hb2)
  have hK3 : Keep (OneP w1.heap.size) W1 X3:=by rw [hX];exact Keep.setCell (S:=OneP w1.heap.size) (p:=⟨w1.heap.size,2,none⟩) hKy (fun _ => (rfl : w1.heap.size = w1.heap.size)) _
  have HBB3 : Hid (X3.heap[w1.heap.size]? = some (.cells #[.int .i64 v0,.int .i64 v1,.int .i64 v2,.int .i64 0,.int .i64 0,.int .i64 0,.int .i64 0,.slice none 0 0,.slice none 0 0] 47 (0,0))):=by
   show _ = _
   rw [hX,heap_setCell_same _ w1.heap.size 2 _ _ _ HBy.out]
   rfl
  rw [← hX]
  clear hX hT g0 gz HBy c0 c1 c2 c3 c4 hKy
  obtain ⟨qx,_⟩:=HX1.out X3 hK3
  have c0:=cellP qx 0 _ rfl;have c1:=cellP qx 1 _ rfl;have c2:=cellP qx 2 _ rfl;have c3:=cellP qx 3 _ rfl;have c4:=cellP qx 4 _ rfl
  have hT:=HT3.out X3 hK3
  clear qx
  go_upto_region 9 with (go_at_call 75; refine hT.mono ?_; rintro e y3 ⟨rfl, hb3⟩
                         have hBy : y3.heap[w1.heap.size]? = some (.cells #[.int .i64 v0,.int .i64 v1,.int .i64 v2,.int .i64 0,.int .i64 0,.int .i64 0,.int .i64 0,.slice none 0 0,.slice none 0 0] 47 (0,0)):=(hb3.block _ (Nat.lt_of_lt_of_le hlB hK3.size)).trans HBB3.out
                         have g0:=cellP hBy 3 _ rfl
                         have gz:=fzP hBy 3
                         have HBy:=(show Hid _ from hBy)
                         clear hBy)
  obtain ⟨X4,hX⟩ : ∃ X,X = y3.setCell ⟨w1.heap.size,3,none⟩ (.int .i64 v3):=⟨_,rfl⟩
  have hKy : Keep (OneP w1.heap.size) W1 y3:=hK3.then (Keep.of_below hb3)
  have hK4 : Keep (OneP w1.heap.size) W1 X4:=by rw [hX];exact Keep.setCell (S:=OneP w1.heap.size) (p:=⟨w1.heap.size,3,none⟩) hKy (fun _ => (rfl : w1.heap.size = w1.heap.size)) _
  have HBB4 : Hid (X4.heap[w1.heap.size]? = some (.cells #[.int .i64 v0,.int .i64 v1,.int .i64 v2,.int .i64 v3,.int .i64 0,.int .i64 0,.int .i64 0,.slice none 0 0,.slice none 0 0] 47 (0,0))):=by
   show _ = _
   rw [hX,heap_setCell_same _ w1.heap.size 3 _ _ _ HBy.out]
   rfl
  rw [← hX]
  clear hX hT g0 gz HBy c0 c1 c2 c3 c4 hKy
  obtain ⟨qx,_⟩:=HX1.out X4 hK4
  have c0:=cellP qx 0 _ rfl;have c1:=cellP qx 1 _ rfl;have c2:=cellP qx 2 _ rfl;have c3:=cellP qx 3 _ rfl;have c4:=cellP qx 4 _ rfl
  have hT:=HT4.out X4 hK4
  clear qx
  go_upto_region 10 with (go_at_call 75; refine hT.mono ?_; rintro e y4 ⟨rfl, hb4⟩
                          have hBy : y4.heap[w1.heap.size]? = some (.cells #[.int .i64 v0,.int .i64 v1,.int .i64 v2,.int .i64 v3,.int .i64 0,.int .i64 0,.int .i64 0,.slice none 0 0,.slice none 0 0] 47 (0,0)):=(hb4.block _ (Nat.lt_of_lt_of_le hlB hK4.size)).trans HBB4.out
                          have g0:=cellP hBy 4 _ rfl
                          have gz:=fzP hBy 4
                          have HBy:=(show Hid _ from hBy)
                          clear hBy)
  obtain ⟨X5,hX⟩ : ∃ X,X = y4.setCell ⟨w1.heap.size,4,none⟩ (.int .i64 v4):=⟨_,rfl⟩
  have hKy : Keep (OneP w1.heap.size) W1 y4:=hK4.then (Keep.of_below hb4)
  have hK5 : Keep (OneP w1.heap.size) W1 X5:=by rw [hX];exact Keep.setCell (S:=OneP w1.heap.size) (p:=⟨w1.heap.size,4,none⟩) hKy (fun _ => (rfl : w1.heap.size = w1.heap.size)) _
  have HBB5 : Hid (X5.heap[w1.heap.size]? = some (.cells #[.int .i64 v0,.int .i64 v1,.int .i64 v2,.int .i64 v3,.int .i64 v4,.int .i64 0,.int .i64 0,.slice none 0 0,.slice none 0 0] 47 (0,0))):=by
   show _ = _
   rw [hX,heap_setCell_same _ w1.heap.size 4 _ _ _ HBy.out]
   rfl
  rw [← hX]
  clear hX hT g0 gz HBy c0 c1 c2 c3 c4 hKy
  obtain ⟨qx,_⟩:=HX1.out X5 hK5
  have c0:=cellP qx 0 _ rfl;have c1:=cellP qx 1 _ rfl;have c2:=cellP qx 2 _ rfl;have c3:=cellP qx 3 _ rfl;have c4:=cellP qx 4 _ rfl
  have hT:=HT5.out X5 hK5
  clear qx
  go_upto_region 11 with (go_at_call 75; refine hT.mono ?_; rintro e y5 ⟨rfl, hb5⟩
                          have hBy : y5.heap[w1.heap.size]? = some (.cells #[.int .i64 v0,.int .i64 v1,.int .i64 v2,.int .i64 v3,.int .i64 v4,.int .i64 0,.int .i64 0,.slice none 0 0,.slice none 0 0] 47 (0,0)):=(hb5.block _ (Nat.lt_of_lt_of_le hlB hK5.size)).trans HBB5.out
                          have g0:=cellP hBy 5 _ rfl
                          have gz:=fzP hBy 5
                          have HBy:=(show Hid _ from hBy)
                          clear hBy)
  obtain ⟨X6,hX⟩ : ∃ X,X = y5.setCell ⟨w1.heap.size,5,none⟩ (.int .i64 v5):=⟨_,rfl⟩
  have hKy : Keep (OneP w1.heap.size) W1 y5:=hK5.then (Keep.of_below hb5)
  have hK6 : Keep (OneP w1.heap.size) W1 X6:=by rw [hX];exact Keep.setCell (S:=OneP w1.heap.size) (p:=⟨w1.heap.size,5,none⟩) hKy (fun _ => (rfl : w1.heap.size = w1.heap.size)) _
  have HBB6 : Hid (X6.heap[w1.heap.size]? = some (.cells #[.int .i64 v0,.int .i64 v1,.int .i64 v2,.int .i64 v3,.int .i64 v4,.int .i64 v5,.int .i64 0,.slice none 0 0,.slice none 0 0] 47 (0,0))):=by
   show _ = _
   rw [hX,heap_setCell_same _ w1.heap.size 5 _ _ _ HBy.out]
   rfl
  rw [← hX]
  clear hX hT g0 gz HBy c0 c1 c2 c3 c4 hKy
  obtain ⟨qx,_⟩:=HX1.out X6 hK6
  have c0:=cellP qx 0 _ rfl;have c1:=cellP qx 1 _ rfl;have c2:=cellP qx 2 _ rfl;have c3:=cellP qx 3 _ rfl;have c4:=cellP qx 4 _ rfl
  have hT:=HT6.out X6 hK6
  clear qx
  go_upto_region 12 with (go_at_call 75; refine hT.mono ?_; rintro e y6 ⟨rfl, hb6⟩
                          have hBy : y6.heap[w1.heap.size]? = some (.cells #[.int .i64 v0,.int .i64 v1,.int .i64 v2,.int .i64 v3,.int .i64 v4,.int .i64 v5,.int .i64 0,.slice none 0 0,.slice none 0 0] 47 (0,0)):=(hb6.block _ (Nat.lt_of_lt_of_le hlB hK6.size)).trans HBB6.out
                          have g0:=cellP hBy 6 _ rfl
                          have gz:=fzP hBy 6
                          have HBy:=(show Hid _ from hBy)
                          clear hBy)
  obtain ⟨X7,hX⟩ : ∃ X,X = y6.setCell ⟨w1.heap.size,6,none⟩ (.int .i64 v6):=⟨_,rfl⟩
  have hKy : Keep (OneP w1.heap.size) W1 y6:=hK6.then (Keep.of_below hb6)
  have hK7 : Keep (OneP w1.heap.size) W1 X7:=by rw [hX];exact Keep.setCell (S:=OneP w1.heap.size) (p:=⟨w1.heap.size,6,none⟩) hKy (fun _ => (rfl : w1.heap.size = w1.heap.size)) _
  have HBB7 : Hid (X7.heap[w1.heap.size]? = some (.cells #[.int .i64 v0,.int .i64 v1,.int .i64 v2,.int .i64 v3,.int .i64 v4,.int .i64 v5,.int .i64 v6,.slice none 0 0,.slice none 0 0] 47 (0,0))):=by
   show _ = _
   rw [hX,heap_setCell_same _ w1.heap.size 6 _ _ _ HBy.out]
   rfl
  rw [← hX]
  clear hX hT g0 gz HBy c0 c1 c2 c3 c4 hKy
  obtain ⟨qx,_⟩:=HX1.out X7 hK7
  have c0:=cellP qx 0 _ rfl;have c1:=cellP qx 1 _ rfl;have c2:=cellP qx 2 _ rfl;have c3:=cellP qx 3 _ rfl;have c4:=cellP qx 4 _ rfl
  have hT:=HT7.out X7 hK7
  clear qx
  go_upto_region 13 with (go_at_call 76; refine hT.mono ?_; rintro e y7 ⟨⟨p7, d7, rfl, hr7⟩, hb7⟩
                          have hBy : y7.heap[w1.heap.size]? = some (.cells #[.int .i64 v0,.int .i64 v1,.int .i64 v2,.int .i64 v3,.int .i64 v4,.int .i64 v5,.int .i64 v6,.slice none 0 0,.slice none 0 0] 47 (0,0)):=(hb7.block _ (Nat.lt_of_lt_of_le hlB hK7.size)).trans HBB7.out
                          have g0:=cellP hBy 7 _ rfl
                          have gz:=fzP hBy 7
                          have HBy:=(show Hid _ from hBy)
                          clear hBy)
  obtain ⟨X8,hX⟩ : ∃ X,X = y7.setCell ⟨w1.heap.size,7,none⟩ (.slice p7 v7.length d7):=⟨_,rfl⟩
  have hKy : Keep (OneP w1.heap.size) W1 y7:=hK7.then (Keep.of_below hb7)
  have hK8 : Keep (OneP w1.heap.size) W1 X8:=by rw [hX];exact Keep.setCell (S:=OneP w1.heap.size) (p:=⟨w1.heap.size,7,none⟩) hKy (fun _ => (rfl : w1.heap.size = w1.heap.size)) _
  have HBB8 : Hid (X8.heap[w1.heap.size]? = some (.cells #[.int .i64 v0,.int .i64 v1,.int .i64 v2,.int .i64 v3,.int .i64 v4,.int .i64 v5,.int .i64 v6,.slice p7 v7.length d7,.slice none 0 0] 47 (0,0))):=by
   show _ = _
   rw [hX,heap_setCell_same _ w1.heap.size 7 _ _ _ HBy.out]
   rfl
  have HR7 : Hid (∀ X,Keep (OneP w1.heap.size) X8 X → RdN (fun b => w1.heap.size ≤ b ∧ b < X.heap.size) X p7 d7 v7):=fun X hX' => hr7.carry fun b hb => by
   have s1:=hK7.size;have s2:=hX'.size;have e0 : X8.heap.size = y7.heap.size:=by rw [hX];simp
   have hne : b ≠ w1.heap.size:=by have:=hb.1;omega
   refine ⟨⟨by have:=hb.1;omega,by have:=hb.2;omega⟩,(hX'.block b (by have:=hb.2;omega) (by unfold OneP;exact hne)).trans ?_⟩
   rw [hX]
   exact (Keep.setCell (S:=OneP w1.heap.size) (p:=⟨w1.heap.size,7,none⟩) (Keep.refl _ y7) (fun _ => (rfl : w1.heap.size = w1.heap.size)) _).block b hb.2 (by unfold OneP;exact hne)
  rw [← hX]
  clear hX hT g0 gz HBy c0 c1 c2 c3 c4 hKy hr7
  obtain ⟨qx,_⟩:=HX1.out X8 hK8
  have c0:=cellP qx 0 _ rfl;have c1:=cellP qx 1 _ rfl;have c2:=cellP qx 2 _ rfl;have c3:=cellP qx 3 _ rfl;have c4:=cellP qx 4 _ rfl
  have hT:=HT8.out X8 hK8
  clear qx
  go_upto_region 14 with (go_at_call 76; refine hT.mono ?_; rintro e y8 ⟨⟨p8, d8, rfl, hr8⟩, hb8⟩
                          have hBy : y8.heap[w1.heap.size]? = some (.cells #[.int .i64 v0,.int .i64 v1,.int .i64 v2,.int .i64 v3,.int .i64 v4,.int .i64 v5,.int .i64 v6,.slice p7 v7.length d7,.slice none 0 0] 47 (0,0)):=(hb8.block _ (Nat.lt_of_lt_of_le hlB hK8.size)).trans HBB8.out
                          have g0:=cellP hBy 8 _ rfl
                          have gz:=fzP hBy 8
                          have HBy:=(show Hid _ from hBy)
                          clear hBy)
  obtain ⟨X9,hX⟩ : ∃ X,X = y8.setCell ⟨w1.heap.size,8,none⟩ (.slice p8 v8.length d8):=⟨_,rfl⟩
  have hKy : Keep (OneP w1.heap.size) W1 y8:=hK8.then (Keep.of_below hb8)
  have hK9 : Keep (OneP w1.heap.size) W1 X9:=by rw [hX];exact Keep.setCell (S:=OneP w1.heap.size) (p:=⟨w1.heap.size,8,none⟩) hKy (fun _ => (rfl : w1.heap.size = w1.heap.size)) _
  have HBB9 : Hid (X9.heap[w1.heap.size]? = some (.cells #[.int .i64 v0,.int .i64 v1,.int .i64 v2,.int .i64 v3,.int .i64 v4,.int .i64 v5,.int .i64 v6,.slice p7 v7.length d7,.slice p8 v8.length d8] 47 (0,0))):=by
   show _ = _
   rw [hX,heap_setCell_same _ w1.heap.size 8 _ _ _ HBy.out]
   rfl
  have HR8 : Hid (∀ X,Keep (OneP w1.heap.size) X9 X → RdN (fun b => w1.heap.size ≤ b ∧ b < X.heap.size) X p8 d8 v8 ∧ RdN (fun b => w1.heap.size ≤ b ∧ b < X.heap.size) X p7 d7 v7):=fun X hX' => ⟨hr8.carry fun b hb => (by
   have s1:=hK8.size;have s2:=hX'.size;have e0 : X9.heap.size = y8.heap.size:=by rw [hX];simp
   have hne : b ≠ w1.heap.size:=by have:=hb.1;omega
   refine ⟨⟨by have:=hb.1;omega,by have:=hb.2;omega⟩,(hX'.block b (by have:=hb.2;omega) (by unfold OneP;exact hne)).trans ?_⟩
   rw [hX]
   exact (Keep.setCell (S:=OneP w1.heap.size) (p:=⟨w1.heap.size,8,none⟩) (Keep.refl _ y8) (fun _ => (rfl : w1.heap.size = w1.heap.size)) _).block b hb.2 (by unfold OneP;exact hne)),HR7.out X ((Keep.of_below hb8).then (by
    have : Keep (OneP w1.heap.size) y8 X9:=by rw [hX];exact Keep.setCell (S:=OneP w1.heap.size) (p:=⟨w1.heap.size,8,none⟩) (Keep.refl _ y8) (fun _ => (rfl : w1.heap.size = w1.heap.size)) _
    exact this.then hX'))⟩
  rw [← hX]
  clear hX hT g0 gz HBy c0 c1 c2 c3 c4 hKy hr8
  obtain ⟨_,hZ9⟩:=HX1.out X9 hK9
  have r0:=cellP hZ9 0 _ rfl;have r1:=cellP hZ9 1 _ rfl;have r2:=cellP hZ9 2 _ rfl;have r3:=cellP hZ9 3 _ rfl;have r4:=cellP hZ9 4 _ rfl;have r5:=cellP hZ9 5 _ rfl;have r6:=cellP hZ9 6 _ rfl;have r7:=cellP hZ9 7 _ rfl;have r8:=cellP hZ9 8 _ rfl
  have z0:=fzP hZ9 0;have z1:=fzP hZ9 1;have z2:=fzP hZ9 2;have z3:=fzP hZ9 3;have z4:=fzP hZ9 4;have z5:=fzP hZ9 5;have z6:=fzP hZ9 6;have z7:=fzP hZ9 7;have z8:=fzP hZ9 8
  have HZ:=(show Hid _ from hZ9)
  have hBB:=HBB9.out
  have f0:=cellP hBB 0 _ rfl;have f1:=cellP hBB 1 _ rfl;have f2:=cellP hBB 2 _ rfl;have f3:=cellP hBB 3 _ rfl;have f4:=cellP hBB 4 _ rfl;have f5:=cellP hBB 5 _ rfl;have f6:=cellP hBB 6 _ rfl;have f7:=cellP hBB 7 _ rfl;have f8:=cellP hBB 8 _ rfl
  clear hZ9 hBB HT0 HT1 HT2 HT3 HT4 HT5 HT6 HT7 HT8
  cases b0 with
  | true =>
   have HT:=(show Hid _ from HPB.out (by simp))
   go_wp2
   have hZ9:=HZ.out
   have h9:=setL_all (b:=w.heap.size + 1) [.int .i64 0,.int .i64 0,.int .i64 0,.int .i64 0,.int .i64 0,.int .i64 0,.int .i64 0,.slice none 0 0,.slice none 0 0] hZ9 rfl
   have HK:=setL_keep (w.heap.size + 1) [.int .i64 0,.int .i64 0,.int .i64 0,.int .i64 0,.int .i64 0,.int .i64 0,.int .i64 0,.slice none 0 0,.slice none 0 0] X9 0
   simp only [setL,Nat.zero_add,Nat.reduceAdd] at h9 HK
   refine bodyPost_ret (resultsP_cell_tmp rfl _ _ _ rfl (loadL9 h9)) rfl ?_
   have hbE:=HBX.out X9 hK9
   exact ParP.off HT.out (hbE.trans (HK.below hbE.size fun q hq e => by unfold OneP at e;omega))
  | false =>
   cases b1 with
   | true =>
    have HT:=(show Hid _ from HPB.out (by simp))
    go_wp2
    have hZ9:=HZ.out
    have h9:=setL_all (b:=w.heap.size + 1) [.int .i64 0,.int .i64 0,.int .i64 0,.int .i64 0,.int .i64 0,.int .i64 0,.int .i64 0,.slice none 0 0,.slice none 0 0] hZ9 rfl
    have HK:=setL_keep (w.heap.size + 1) [.int .i64 0,.int .i64 0,.int .i64 0,.int .i64 0,.int .i64 0,.int .i64 0,.int .i64 0,.slice none 0 0,.slice none 0 0] X9 0
    simp only [setL,Nat.zero_add,Nat.reduceAdd] at h9 HK
    refine bodyPost_ret (resultsP_cell_tmp rfl _ _ _ rfl (loadL9 h9)) rfl ?_
    have hbE:=HBX.out X9 hK9
    exact ParP.off HT.out (hbE.trans (HK.below hbE.size fun q hq e => by unfold OneP at e;omega))
   | false =>
    cases b2 with
    | true =>
     have HT:=(show Hid _ from HPB.out (by simp))
     go_wp2
     have hZ9:=HZ.out
     have h9:=setL_all (b:=w.heap.size + 1) [.int .i64 0,.int .i64 0,.int .i64 0,.int .i64 0,.int .i64 0,.int .i64 0,.int .i64 0,.slice none 0 0,.slice none 0 0] hZ9 rfl
     have HK:=setL_keep (w.heap.size + 1) [.int .i64 0,.int .i64 0,.int .i64 0,.int .i64 0,.int .i64 0,.int .i64 0,.int .i64 0,.slice none 0 0,.slice none 0 0] X9 0
     simp only [setL,Nat.zero_add,Nat.reduceAdd] at h9 HK
     refine bodyPost_ret (resultsP_cell_tmp rfl _ _ _ rfl (loadL9 h9)) rfl ?_
     have hbE:=HBX.out X9 hK9
     exact ParP.off HT.out (hbE.trans (HK.below hbE.size fun q hq e => by unfold OneP at e;omega))
    | false =>
     cases b3 with
     | true =>
      have HT:=(show Hid _ from HPB.out (by simp))
      go_wp2
      have hZ9:=HZ.out
      have h9:=setL_all (b:=w.heap.size + 1) [.int .i64 0,.int .i64 0,.int .i64 0,.int .i64 0,.int .i64 0,.int .i64 0,.int .i64 0,.slice none 0 0,.slice none 0 0] hZ9 rfl
      have HK:=setL_keep (w.heap.size + 1) [.int .i64 0,.int .i64 0,.int .i64 0,.int .i64 0,.int .i64 0,.int .i64 0,.int .i64 0,.slice none 0 0,.slice none 0 0] X9 0
      simp only [setL,Nat.zero_add,Nat.reduceAdd] at h9 HK
      refine bodyPost_ret (resultsP_cell_tmp rfl _ _ _ rfl (loadL9 h9)) rfl ?_
      have hbE:=HBX.out X9 hK9
      exact ParP.off HT.out (hbE.trans (HK.below hbE.size fun q hq e => by unfold OneP at e;omega))
     | false =>
      cases b4 with
      | true =>
       have HT:=(show Hid _ from HPB.out (by simp))
       go_wp2
       have hZ9:=HZ.out
       have h9:=setL_all (b:=w.heap.size + 1) [.int .i64 0,.int .i64 0,.int .i64 0,.int .i64 0,.int .i64 0,.int .i64 0,.int .i64 0,.slice none 0 0,.slice none 0 0] hZ9 rfl
       have HK:=setL_keep (w.heap.size + 1) [.int .i64 0,.int .i64 0,.int .i64 0,.int .i64 0,.int .i64 0,.int .i64 0,.int .i64 0,.slice none 0 0,.slice none 0 0] X9 0
       simp only [setL,Nat.zero_add,Nat.reduceAdd] at h9 HK
       refine bodyPost_ret (resultsP_cell_tmp rfl _ _ _ rfl (loadL9 h9)) rfl ?_
       have hbE:=HBX.out X9 hK9
       exact ParP.off HT.out (hbE.trans (HK.below hbE.size fun q hq e => by unfold OneP at e;omega))
      | false =>
       cases b5 with
       | true =>
        have HT:=(show Hid _ from HPB.out (by simp))
        go_wp2
        have hZ9:=HZ.out
        have h9:=setL_all (b:=w.heap.size + 1) [.int .i64 0,.int .i64 0,.int .i64 0,.int .i64 0,.int .i64 0,.int .i64 0,.int .i64 0,.slice none 0 0,.slice none 0 0] hZ9 rfl
        have HK:=setL_keep (w.heap.size + 1) [.int .i64 0,.int .i64 0,.int .i64 0,.int .i64 0,.int .i64 0,.int .i64 0,.int .i64 0,.slice none 0 0,.slice none 0 0] X9 0
        simp only [setL,Nat.zero_add,Nat.reduceAdd] at h9 HK
        refine bodyPost_ret (resultsP_cell_tmp rfl _ _ _ rfl (loadL9 h9)) rfl ?_
        have hbE:=HBX.out X9 hK9
        exact ParP.off HT.out (hbE.trans (HK.below hbE.size fun q hq e => by unfold OneP at e;omega))
       | false =>
        cases b6 with
        | true =>
         have HT:=(show Hid _ from HPB.out (by simp))
         go_wp2
         have hZ9:=HZ.out
         have h9:=setL_all (b:=w.heap.size + 1) [.int .i64 0,.int .i64 0,.int .i64 0,.int .i64 0,.int .i64 0,.int .i64 0,.int .i64 0,.slice none 0 0,.slice none 0 0] hZ9 rfl
         have HK:=setL_keep (w.heap.size + 1) [.int .i64 0,.int .i64 0,.int .i64 0,.int .i64 0,.int .i64 0,.int .i64 0,.int .i64 0,.slice none 0 0,.slice none 0 0] X9 0
         simp only [setL,Nat.zero_add,Nat.reduceAdd] at h9 HK
         refine bodyPost_ret (resultsP_cell_tmp rfl _ _ _ rfl (loadL9 h9)) rfl ?_
         have hbE:=HBX.out X9 hK9
         exact ParP.off HT.out (hbE.trans (HK.below hbE.size fun q hq e => by unfold OneP at e;omega))
        | false =>
         cases b7 with
         | true =>
          have HT:=(show Hid _ from HPB.out (by simp))
          go_wp2
          have hZ9:=HZ.out
          have h9:=setL_all (b:=w.heap.size + 1) [.int .i64 0,.int .i64 0,.int .i64 0,.int .i64 0,.int .i64 0,.int .i64 0,.int .i64 0,.slice none 0 0,.slice none 0 0] hZ9 rfl
          have HK:=setL_keep (w.heap.size + 1) [.int .i64 0,.int .i64 0,.int .i64 0,.int .i64 0,.int .i64 0,.int .i64 0,.int .i64 0,.slice none 0 0,.slice none 0 0] X9 0
          simp only [setL,Nat.zero_add,Nat.reduceAdd] at h9 HK
          refine bodyPost_ret (resultsP_cell_tmp rfl _ _ _ rfl (loadL9 h9)) rfl ?_
          have hbE:=HBX.out X9 hK9
          exact ParP.off HT.out (hbE.trans (HK.below hbE.size fun q hq e => by unfold OneP at e;omega))
         | false =>
          cases b8 with
          | true =>
           have HT:=(show Hid _ from HPB.out (by simp))
           go_wp2
           have hZ9:=HZ.out
           have h9:=setL_all (b:=w.heap.size + 1) [.int .i64 0,.int .i64 0,.int .i64 0,.int .i64 0,.int .i64 0,.int .i64 0,.int .i64 0,.slice none 0 0,.slice none 0 0] hZ9 rfl
           have HK:=setL_keep (w.heap.size + 1) [.int .i64 0,.int .i64 0,.int .i64 0,.int .i64 0,.int .i64 0,.int .i64 0,.int .i64 0,.slice none 0 0,.slice none 0 0] X9 0
           simp only [setL,Nat.zero_add,Nat.reduceAdd] at h9 HK
           refine bodyPost_ret (resultsP_cell_tmp rfl _ _ _ rfl (loadL9 h9)) rfl ?_
           have hbE:=HBX.out X9 hK9
           exact ParP.off HT.out (hbE.trans (HK.below hbE.size fun q hq e => by unfold OneP at e;omega))
          | false =>
           have HT:=(show Hid _ from HPO.out (by simp))
           go_wp2
           have hZ9:=HZ.out
           have h9:=setL_all (b:=w.heap.size + 1) [.int .i64 v0,.int .i64 v1,.int .i64 v2,.int .i64 v3,.int .i64 v4,.int .i64 v5,.int .i64 v6,.slice p7 v7.length d7,.slice p8 v8.length d8] hZ9 rfl
           have HK:=setL_keep (w.heap.size + 1) [.int .i64 v0,.int .i64 v1,.int .i64 v2,.int .i64 v3,.int .i64 v4,.int .i64 v5,.int .i64 v6,.slice p7 v7.length d7,.slice p8 v8.length d8] X9 0
           simp only [setL,Nat.zero_add,Nat.reduceAdd] at h9 HK
           refine bodyPost_ret (resultsP_cell_tmp rfl _ _ _ rfl (loadL9 h9)) rfl ?_
           have hbE:=HBX.out X9 hK9
           obtain ⟨r8,r7⟩:=HR8.out X9 (Keep.refl _ _)
           unfold ParP
           rw [HT.out]
           refine ⟨⟨⟨p7,d7,p8,d8⟩,rfl,?_,?_⟩,hbE.trans (HK.below hbE.size fun q hq e => by unfold OneP at e;omega)⟩
           · exact r7.carry fun b hb => ⟨⟨by have:=hb.1;omega,Nat.lt_of_lt_of_le hb.2 HK.size⟩,HK.block b hb.2 (by unfold OneP;have:=hb.1;omega)⟩
           · exact r8.carry fun b hb => ⟨⟨by have:=hb.1;omega,Nat.lt_of_lt_of_le hb.2 HK.size⟩,HK.block b hb.2 (by unfold OneP;have:=hb.1;omega)⟩
end Go.Proofs.YtldegjjaknelgaaGreatDoor
namespace Go.Proofs.YtldegjjaknelgaaGreatDoor
open Go.RowKit Go.Maps
theorem findN_any {O : Nat → Prop} {w : World} {p : Option Addr} {c : Nat} {l : Nms} (h : RdN O w p c l) (hz : SzN l) (s : ByteArray) :
    Calls Tryz.prog 48 #[.slice p l.length c,.string s] w fun e w' => e = .returned (.tuple #[.int .i64 ((fnd l s).getD 0),.bool (fnd l s).isSome]) ∧ w = w':=by
 obtain ⟨n,hn⟩ : ∃ n,l.length = n:=⟨_,rfl⟩
 have HN : Hid (l.length = n):=hn
 have hz1:=hz.1
 have hc:=h.1.1
 rw [hn] at hz1 hc ⊢
 clear hn
 go_enter Tryz.func48,Tryz.ntmps48
 go_wp2
 go_loopw [6] (fun i wr => (∃ k : Nat,i = .int .i64 k ∧ k ≤ n ∧ fnd (l.take k) s = none) ∧ wr = w) (fun i _ => n - (intOf i).toNat)
 case atStart => exact ⟨⟨0,rfl,Nat.zero_le _,rfl⟩,rfl⟩
 case round =>
  obtain ⟨⟨k,rfl,hk,hf⟩,hwr⟩:=hrel
  rw [hwr]
  clear hwr
  by_cases hkn : k < n
  · have hkl : k < l.length:=by rw [HN.out];exact hkn
    obtain ⟨b,o,rfl,hb,h1,h2⟩:=h.at hkl
    cases he : ((l.getD k zN).1.toList == s.toList) with
    | true =>
     have HF : Hid (fnd l s = some (l.getD k zN).2):=fnd_hit hf hkl he
     generalize l.getD k zN = x at h1 h2 he HF
     obtain ⟨xn,xl⟩:=x
     simp only at h1 h2 he
     clear hf
     go_wp2
     go_ret2
     exact ⟨by rw [HF.out];rfl,rfl⟩
    | false =>
     have HF : Hid (fnd (l.take (k + 1)) s = none):=fnd_miss hf hkl he
     generalize l.getD k zN = x at h1 h2 he
     obtain ⟨xn,xl⟩:=x
     simp only at h1 h2 he
     clear hf
     go_wp2
     go_roundw
     case rel => exact ⟨⟨k + 1,by simp,by omega,HF.out⟩,trivial⟩
     case measure => simp [intOf];omega
  · obtain rfl : k = n:=by omega
    have HF : Hid (fnd l s = none):=by show _ = _;rw [← List.take_length (l:=l),HN.out];exact hf
    clear hf
    go_wp2
    go_ret2
    exact ⟨by rw [HF.out];rfl,rfl⟩
theorem ruser_lv {O : Nat → Prop} {w : World} {l : Lv} {p : Pl} (h : IsL O w l p) (hO : ∀ k, O k → k < w.heap.size) (hz : SzL l) (s : ByteArray) :
    Calls Tryz.prog 22 #[valL l p,.string s] w fun e w' => e = .returned (.int .i64 (usr l s)) ∧ Below w.heap.size w w':=by
 have hb : Below w.heap.size w (w.alloc (.cells (cellsL l p).toArray 47)):=(Below.refl _ _).alloc (Nat.le_refl _) _
 have hf:=findN_any (h.us.below hO hb) hz.us s
 have HB : Hid (Below w.heap.size w (w.alloc (.cells (cellsL l p).toArray 47))):=hb
 unfold usr
 generalize fnd l.byUser s = o at hf
 obtain ⟨ban,kick,invite,redact,state,events,users,us,ty⟩:=l
 obtain ⟨pu,cu,pt,ct⟩:=p
 simp only [valL,cellsL] at hf hb ⊢
 clear h hz hb
 cases o with
 | none =>
  go_enter Tryz.func22,Tryz.ntmps22
  go_wp2_with (go_at_call 48;refine hf.mono ?_;rintro e w1 ⟨rfl,rfl⟩)
  go_ret
  exact ⟨rfl,HB.out⟩
 | some y =>
  go_enter Tryz.func22,Tryz.ntmps22
  go_wp2_with (go_at_call 48;refine hf.mono ?_;rintro e w1 ⟨rfl,rfl⟩)
  go_ret
  exact ⟨rfl,HB.out⟩
theorem rstart_lv {w : World} (s : ByteArray) :
    Calls Tryz.prog 47 #[.string s] w fun e w' => (∃ p,e = .returned (valL (startL s) p) ∧ IsL (fun b => w.heap.size ≤ b ∧ b < w'.heap.size) w' (startL s) p) ∧ Below w.heap.size w w':=by
 go_enter Tryz.func47,Tryz.ntmps47
 go_wp2
 obtain ⟨W,hW⟩ : ∃ W,W = ((w.alloc (.cells #[.int .i64 50,.int .i64 50,.int .i64 0,.int .i64 50,.int .i64 0,.int .i64 0,.int .i64 0,.slice (some ⟨w.heap.size + 1,0,none⟩) 1 1,.slice none 0 0] 47)).alloc (.cells #[.string s,.int .i64 100] 109)):=⟨_,rfl⟩
 have hB : Below w.heap.size w W:=by rw [hW];exact ((Below.refl _ _).alloc (Nat.le_refl _) _).alloc (by simp) _
 have k01:=allocP2 (w:=w) (.cells #[.int .i64 50,.int .i64 50,.int .i64 0,.int .i64 50,.int .i64 0,.int .i64 0,.int .i64 0,.slice (some ⟨w.heap.size + 1,0,none⟩) 1 1,.slice none 0 0] 47) (.cells #[.string s,.int .i64 100] 109)
 rw [← hW] at k01 ⊢
 refine bodyPost_ret (resultsP_cell rfl _ _ _ rfl (loadL9 k01.1)) rfl ?_
 have hlt:=objP_lt k01.2
 exact ⟨⟨⟨some ⟨w.heap.size + 1,0,none⟩,1,none,0⟩,rfl,rdN_flat (l:=[(s,100)]) ⟨by simp,hlt⟩ k01.2,RdN.nil _ _ _ _ fun _ => rfl⟩,hB⟩
end Go.Proofs.YtldegjjaknelgaaGreatDoor

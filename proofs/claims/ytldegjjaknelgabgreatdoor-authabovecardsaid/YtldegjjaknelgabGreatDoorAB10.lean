/-
  Nobody bans or throws out anybody whose level is no less than their own, and what needs a level is done by nobody below it: the law.
  Nobody bans or throws out anybody whose level is no less than their own, and what needs a level is done by nobody below it: the law, walked.
-/
import Derived.Test.YtldegjjaknelgabGreatDoorAB09
import Derived.Test.YtldegjjaknelgabGreatDoorTie
import Derived.Test.YtldegjjaknelgabGreatDoorCards
import Derived.LaidMore
import Derived.OpenShut
import Derived.Stop.Joined
import Derived.Lib.LaidTab
import Derived.Lib.LaidU8T
import Derived.Lay
set_option maxRecDepth 100000
set_option maxHeartbeats 64000000
namespace Go.Proofs.YtldegjjaknelgabGreatDoor
open Go.RowKit
theorem lev_same {e : Ev} {l : List Kn} {H : Hr} (h : openT e l = some H) : rlevT l = (H.l,true):=by
 unfold openT at h
 split at h
 · cases h
 · rename_i c hc
   split at h
   · split at h
     · cases h
     · rename_i v hv
       cases h
       unfold levT at hv
       unfold rlevT
       split at hv
       · rename_i k hk
         rw [hk]
         simp only [parse_same] at hv
         split at hv
         · rename_i h0
           cases hv
           simp only [h0,decide_true]
         · cases hv
       · rename_i hk
         rw [hk]
         cases hv
         simp only [hc,Option.getD_some]
   · cases h
theorem above_law {e : Ev} {l : List Kn} (hj : judgeT e l = 0) (hc : eqT e.typ tCreate = false) : ∃ H, openT e l = some H ∧ rlevT l = (H.l, true) ∧
    (eqT e.typ tMember = false → kindL H.l e.typ e.st ≤ usr H.l e.sender) ∧
    (eqT e.typ tMember = true → (eqT (textT e.content nMemb) vBan = true → usr H.l e.key < usr H.l e.sender) ∧ (eqT (textT e.content nMemb) vLeave = true → eqT e.key e.sender = false → usr H.l e.key < usr H.l e.sender) ∧ (eqT (textT e.content nMemb) vInvite = true → H.l.invite ≤ usr H.l e.sender)):=by
 obtain ⟨H,ho,ha,he,hl⟩:=ask_open hj hc
 refine ⟨H,ho,lev_same ho,fun hm => ?_,fun hm => ?_⟩
 · unfold Hr.ask at ha
   rw [he,hm,if_neg (by decide)] at ha
   unfold Hr.sends Hr.s at ha
   rw [he] at ha
   simp only [Bool.and_eq_true,decide_eq_true_eq] at ha
   exact ha.2.1
 · unfold Hr.ask at ha
   rw [he,hm,if_pos rfl] at ha
   unfold Hr.member at ha
   rw [he] at ha
   simp only [Bool.and_eq_true] at ha
   obtain ⟨_,ha⟩:=ha
   generalize textT e.content nMemb = m at ha ⊢
   have dj : ∀ {a b : ByteArray},eqT m a = true → (a.toList == b.toList) = false → eqT m b = false:=fun {a b} h1 h2 => by
    unfold eqT at h1 ⊢
    rw [eq_of_beq h1];exact h2
   refine ⟨fun h => ?_,fun h ho => ?_,fun h => ?_⟩
   · rw [dj h (b:=vJoin) (by rw [lit_vBan,lit_vJoin];rfl),dj h (b:=vInvite) (by rw [lit_vBan,lit_vInvite];rfl),dj h (b:=vLeave) (by rw [lit_vBan,lit_vLeave];rfl),h] at ha
     simp only [Bool.false_eq_true,if_false,if_true] at ha
     unfold Hr.bans Hr.t Hr.s at ha
     rw [he] at ha
     simp only [Bool.and_eq_true,decide_eq_true_eq] at ha
     exact ha.2.2
   · rw [dj h (b:=vJoin) (by rw [lit_vLeave,lit_vJoin];rfl),dj h (b:=vInvite) (by rw [lit_vLeave,lit_vInvite];rfl),h] at ha
     simp only [Bool.false_eq_true,if_false,if_true] at ha
     unfold Hr.leaves Hr.own Hr.t Hr.s at ha
     rw [he,ho,if_neg (by decide)] at ha
     simp only [Bool.and_eq_true,decide_eq_true_eq] at ha
     exact ha.2.2.2
   · rw [dj h (b:=vJoin) (by rw [lit_vInvite,lit_vJoin];rfl),h] at ha
     simp only [Bool.false_eq_true,if_false,if_true] at ha
     unfold Hr.invites Hr.s at ha
     rw [he] at ha
     simp only [Bool.and_eq_true,decide_eq_true_eq] at ha
     exact ha.2.2.2
theorem above_any {O : Nat → Prop} {w : World} {e : Ev} {p : Pt} {ps : Option Addr} {cs : Nat} {l : List Kn} (h : IsE O w e p) (hst : RdE O w ps cs l) (hO : ∀ b, O b → b < w.heap.size) (hz : BigE e) (hk : ∀ k ∈ l, BigE k.2) (hT : Tabs w) :
    Calls Tryz.prog 3 #[valE e p,.slice ps l.length cs] w fun x w' => x = .returned (.bool true) ∧ Below w.heap.size w w':=by
 obtain ⟨W0,hW0⟩ : ∃ W0,W0 = w.alloc (.cells (cellsE e p).toArray 28):=⟨_,rfl⟩
 have hb0 : Below w.heap.size w W0:=by rw [hW0];exact (Below.refl _ _).alloc (Nat.le_refl _) _
 have hX0 : W0.heap[w.heap.size]? = some (.cells (cellsE e p).toArray 28 (0,0)):=by rw [hW0];exact newP _
 have hV:=isV_new h hO hb0 hX0
 have HV : Hid (∀ X,Below W0.heap.size W0 X → IsV X w.heap.size e p):=fun X hX => hV.below hX
 have HST : Hid (∀ X,Below W0.heap.size W0 X → RdE (· < X.heap.size) X ps cs l):=fun X hX => hst.carry fun k hk => ⟨Nat.lt_of_lt_of_le (hO k hk) (belowP hb0 hX).size,(belowP hb0 hX).block k (hO k hk)⟩
 have HLD : Hid (∀ X,Below W0.heap.size W0 X → (Instr.loadAt 28 (.pointer (some ⟨w.heap.size,0,none⟩))).run Tryz.prog X = .ok (.agg (cellsE e p).toArray) X):=fun X hX => run_loadAt_mid X w.heap.size 0 28 (cellsE e p) _ (HV.out X hX).rangeE Tryz.underlying28 rfl infoE
 have hFew:=eFew_any e p W0 hV.ev (fun _ h => h) hz
 have HK : Hid (∀ X,Below W0.heap.size W0 X → Calls Tryz.prog 6 #[.slice ps l.length cs] X fun x w' => FewKP X w' l x):=fun X hX => few11_any (HST.out X hX) (fun _ h => h) hk
 have HJ : Hid (∀ X,Below W0.heap.size W0 X → FewE e → FewK l → Calls Tryz.prog 7 #[.agg (cellsE e p).toArray,.slice ps l.length cs] X fun x w' => x = .returned (.int .i64 (judgeT e l)) ∧ Below X.heap.size X w'):=fun X hX h1 h2 => judge_any (HV.out X hX).ev (HST.out X hX) (fun _ h => h) h1.sz h2.sz (hT.below (belowP hb0 hX))
 have HAW : Hid (∀ X,Below W0.heap.size W0 X → Calls Tryz.prog 8 #[] X fun x w' => x = .returned (.bool true) ∧ Below X.heap.size X w'):=fun X hX => awake11_any X (hT.below (belowP hb0 hX))
 have HLAW : Hid (judgeT e l = 0 → eqT e.typ tCreate = false → ∃ H,openT e l = some H ∧ rlevT l = (H.l,true) ∧ (eqT e.typ tMember = false → kindL H.l e.typ e.st ≤ usr H.l e.sender) ∧ (eqT e.typ tMember = true → (eqT (textT e.content nMemb) vBan = true → usr H.l e.key < usr H.l e.sender) ∧ (eqT (textT e.content nMemb) vLeave = true → eqT e.key e.sender = false → usr H.l e.key < usr H.l e.sender) ∧ (eqT (textT e.content nMemb) vInvite = true → H.l.invite ≤ usr H.l e.sender))):=above_law
 have hB0 : Below W0.heap.size W0 W0:=Below.refl _ _
 clear h hst hV hX0 hz hk hT
 unfold valE at hFew ⊢
 unfold eqT at HLAW
 rw [lit_tCreate] at HLAW
 generalize judgeT e l = jt at HJ HLAW
 cases hc : (e.typ.toList == [109,46,114,111,111,109,46,99,114,101,97,116,101]) with
 | true =>
  clear HLAW HJ
  go_enter Tryz.func3,Tryz.ntmps3
  go_upto_region 1 with fail
  rw [← hW0]
  clear hW0
  go_wp2_with (first
   | (refine wpList_load_midg (by kernel_rfl) 28 _ rfl w.heap.size 0 rfl (cellsE e p) (HLD.out _ hB0) ?_)
   | (go_at_call 5;refine hFew.mono ?_;rintro x w1 ⟨⟨b1,rfl,hf1⟩,hB1⟩;cases b1;have hN1:=hB1;clear hB1)
   | (go_at_call 6;refine (HK.out _ hB1).mono ?_;rintro x w2 ⟨⟨b2,rfl,hf2⟩,hb2⟩;have hB2:=belowP hB1 hb2;clear hb2;have et:=(HV.out _ hB2).typ;cases b2;have hN2:=hB2;clear hB2)
   | (go_at_call 8;refine (HAW.out _ hB2).mono ?_;rintro x w9 ⟨rfl,hb9⟩;have hB9:=belowP hB2 hb9)
   | (go_at_call 8;refine (HAW.out _ hN2).mono ?_;rintro x w9 ⟨rfl,hb9⟩;have hB9:=belowP hN2 hb9)
   | (go_at_call 8;refine (HAW.out _ hN1).mono ?_;rintro x w9 ⟨rfl,hb9⟩;have hB9:=belowP hN1 hb9))
  all_goals (go_ret;exact ⟨rfl,belowP hb0 hB9⟩)
 | false =>
  by_cases hj : jt = 0
  · subst hj
    obtain ⟨H,ho,hlev,hA,hM⟩:=HLAW.out rfl hc
    clear HLAW
    have HO : Hid (openT e l = some H):=ho
    have HA : Hid ((e.typ.toList == tMember.toList) = false → kindL H.l e.typ e.st ≤ usr H.l e.sender):=hA
    have HM : Hid _:=hM
    clear ho hA hM
    have HSZ : Hid (FewE e → FewK l → SzL H.l):=fun h1 h2 => (open_sz h1.sz h2.sz HO.out).l
    clear HO
    have HLV : Hid (∀ X,Below W0.heap.size W0 X → FewK l → Calls Tryz.prog 9 #[.slice ps l.length cs] X fun x w' => (∃ q,x = .returned (.tuple #[.agg (cellsL H.l q).toArray,.bool true]) ∧ IsL (fun b => X.heap.size ≤ b ∧ b < w'.heap.size) w' H.l q) ∧ Below X.heap.size X w'):=fun X hX h2 => by
     have hh:=rlevels_any (HST.out X hX) (fun _ h => h) h2.sz
     rw [hlev] at hh
     exact hh
    clear hlev
    generalize H.l = v at HA HM HSZ HLV
    rw [lit_tMember] at HA HM
    rw [lit_vBan,lit_vLeave,lit_vInvite] at HM
    go_enter Tryz.func3,Tryz.ntmps3
    go_upto_region 1 with fail
    rw [← hW0]
    clear hW0
    go_upto_region 4 with (first
     | (refine wpList_load_midg (by kernel_rfl) 28 _ rfl w.heap.size 0 rfl (cellsE e p) (HLD.out _ hB2) ?_)
     | (refine wpList_load_midg (by kernel_rfl) 28 _ rfl w.heap.size 0 rfl (cellsE e p) (HLD.out _ hB0) ?_)
     | (go_at_call 5;refine hFew.mono ?_;rintro x w1 ⟨⟨b1,rfl,hf1⟩,hB1⟩;cases b1;have hN1:=hB1;clear hB1)
     | (go_at_call 6;refine (HK.out _ hB1).mono ?_;rintro x w2 ⟨⟨b2,rfl,hf2⟩,hb2⟩;have hB2:=belowP hB1 hb2;clear hb2;have et:=(HV.out _ hB2).typ;cases b2;have hN2:=hB2;clear hB2)
     | (go_at_call 7;refine (HJ.out _ hB2 (hf1 (by trivial)) (hf2 (by trivial))).mono ?_;rintro x w3 ⟨rfl,hb3⟩;have hB3:=belowP hB2 hb3;clear hb3)
     | (go_at_call 9;refine (HLV.out _ hB3 (hf2 (by trivial))).mono ?_;rintro x w4 ⟨⟨q,rfl,hq⟩,hb4⟩;have hB4:=belowP hB3 hb4;clear hb4)
     | (refine wpList_store_row rfl 37 _ _ rfl w4.heap.size 37 _ (cellsL v q).toArray rfl rfl (newP _) infoL rfl (one_L v q) ?_)
     | (go_at_call 8;refine (HAW.out _ hN2).mono ?_;rintro x w9 ⟨rfl,hb9⟩;have hB9:=belowP hN2 hb9)
     | (go_at_call 8;refine (HAW.out _ hN1).mono ?_;rintro x w9 ⟨rfl,hb9⟩;have hB9:=belowP hN1 hb9))
    iterate 2
     · go_ret
       exact ⟨rfl,belowP hb0 hB9⟩
    · skip
      have hbA : Below w4.heap.size w4 ((w4.alloc (.cells #[.int .i64 0,.int .i64 0,.int .i64 0,.int .i64 0,.int .i64 0,.int .i64 0,.int .i64 0,.slice none 0 0,.slice none 0 0] 37)).setRow w4.heap.size (cellsL v q).toArray) :=
       ((Below.refl _ _).alloc (Nat.le_refl _) _).trans ((keep_setRow _ w4.heap.size _).below (by simp) fun q hq e => by unfold OneP at e;omega)
      have hX : ((w4.alloc (.cells #[.int .i64 0,.int .i64 0,.int .i64 0,.int .i64 0,.int .i64 0,.int .i64 0,.int .i64 0,.slice none 0 0,.slice none 0 0] 37)).setRow w4.heap.size (cellsL v q).toArray).heap[w4.heap.size]? = some (.cells (cellsL v q).toArray 37 (0,0)):=setRow_heap _ _ _ _ _ _ (newP _)
      change Code.wp _ _ _ _ ((w4.alloc (.cells #[.int .i64 0,.int .i64 0,.int .i64 0,.int .i64 0,.int .i64 0,.int .i64 0,.int .i64 0,.slice none 0 0,.slice none 0 0] 37)).setRow w4.heap.size (cellsL v q).toArray)
      generalize ((w4.alloc (.cells #[.int .i64 0,.int .i64 0,.int .i64 0,.int .i64 0,.int .i64 0,.int .i64 0,.int .i64 0,.slice none 0 0,.slice none 0 0] 37)).setRow w4.heap.size (cellsL v q).toArray) = W5 at hbA hX
      have hB5:=belowP hB4 hbA
      have hsz : SzL v:=HSZ.out (hf1 (by trivial)) (hf2 (by trivial))
      have HX : Hid (∀ X,Below W5.heap.size W5 X → X.heap[w4.heap.size]? = some (.cells (cellsL v q).toArray 37 (0,0))):=fun X hb => (hb.block _ (objP_lt hX)).trans hX
      have HI : Hid (∀ X,Below W5.heap.size W5 X → IsL (· < X.heap.size) X v q):=fun X hb => hq.carry fun b hb2 => ⟨Nat.lt_of_lt_of_le hb2.2 (belowP hbA hb).size,(belowP hbA hb).block b hb2.2⟩
      have HLL : Hid (∀ X,Below W5.heap.size W5 X → (Instr.loadAt 37 (.pointer (some ⟨w4.heap.size,0,none⟩))).run Tryz.prog X = .ok (.agg (cellsL v q).toArray) X):=fun X hb => run_loadAt_mid X w4.heap.size 0 37 (cellsL v q) _ (range_of (HX.out X hb)) Tryz.underlying37 rfl infoL
      have HEI : Hid (∀ X,Below W5.heap.size W5 X → X.cell? ⟨w4.heap.size,2,none⟩ = some (.int .i64 v.invite)):=fun X hb => cellP (HX.out X hb) 2 _ rfl
      have HUS : Hid (∀ X,Below W5.heap.size W5 X → Calls Tryz.prog 10 #[.agg (cellsL v q).toArray,.string e.sender] X fun x w' => x = .returned (.int .i64 (usr v e.sender)) ∧ Below X.heap.size X w'):=fun X hb => ruser_lv (HI.out X hb) (fun _ h => h) hsz e.sender
      have HUK : Hid (∀ X,Below W5.heap.size W5 X → Calls Tryz.prog 10 #[.agg (cellsL v q).toArray,.string e.key] X fun x w' => x = .returned (.int .i64 (usr v e.key)) ∧ Below X.heap.size X w'):=fun X hb => ruser_lv (HI.out X hb) (fun _ h => h) hsz e.key
      have HTY : Hid (∀ X,Below W5.heap.size W5 X → Calls Tryz.prog 11 #[.agg (cellsL v q).toArray,.string e.typ,.bool e.st] X fun x w' => x = .returned (.int .i64 (kindL v e.typ e.st)) ∧ Below X.heap.size X w'):=fun X hb => rtype_lv (HI.out X hb) (fun _ h => h) hsz e.typ e.st
      have HV5 : Hid (∀ X,Below W5.heap.size W5 X → IsV X w.heap.size e p):=fun X hb => HV.out X (belowP hB5 hb)
      have HLE : Hid (∀ X,Below W5.heap.size W5 X → (Instr.loadAt 28 (.pointer (some ⟨w.heap.size,0,none⟩))).run Tryz.prog X = .ok (.agg (cellsE e p).toArray) X):=fun X hb => HLD.out X (belowP hB5 hb)
      have HAV : Hid (∀ X,Below W5.heap.size W5 X → Calls Tryz.prog 8 #[] X fun x w' => x = .returned (.bool true) ∧ Below X.heap.size X w'):=fun X hb => HAW.out X (belowP hB5 hb)
      have HTx : Hid (∀ X,Below W5.heap.size W5 X → Calls Tryz.prog 12 #[.agg (cellsE e p).toArray,.string nMemb] X fun x w' => x = .returned (.string (textT e.content nMemb)) ∧ Below X.heap.size X w'):=fun X hb => rtext_any (HV5.out X hb).ev (fun _ h => h) (sz_less 13 20 _ (by decide) (hf1 (by trivial)).cont) nMemb
      have hC0 : Below W5.heap.size W5 W5:=Below.refl _ _
      clear et hX hq HI hsz HSZ HLV HJ HK HST
      have es:=(HV5.out _ hC0).sender
      generalize usr v e.sender = us at HA HM HUS
      generalize usr v e.key = uk at HM HUK
      generalize kindL v e.typ e.st = kd at HA HTY
      generalize textT e.content nMemb = m at HM HTx
      generalize v.invite = vi at HM HEI
      cases hm : (e.typ.toList == [109,46,114,111,111,109,46,109,101,109,98,101,114]) with
      | false =>
       have g1 : kd ≤ us:=HA.out hm
       have g2 : decide (kd ≤ us) = true:=decide_eq_true g1
       have g3 : (e.typ.toList != [109,46,114,111,111,109,46,109,101,109,98,101,114]) = true:=by rw [bne,hm];rfl
       clear HA HM
       go_wp2_with (first
        | (go_at_call 10;refine (HUS.out _ hC0).mono ?_;rintro x w6 ⟨rfl,hC6⟩;have et:=(HV5.out _ hC6).typ;have est:=(HV5.out _ hC6).isSt)
        | (go_at_call 11;refine (HTY.out _ hC6).mono ?_;rintro x w7 ⟨rfl,hb7⟩;have hC7:=belowP hC6 hb7;clear hb7)
        | (refine wpList_load_midg (by kernel_rfl) 37 _ rfl w4.heap.size 0 rfl (cellsL v q) (HLL.out _ hC6) ?_)
        | (refine wpList_load_midg (by kernel_rfl) 37 _ rfl w4.heap.size 0 rfl (cellsL v q) (HLL.out _ hC0) ?_)
        | (go_at_call 8;refine (HAV.out _ hC7).mono ?_;rintro x w9 ⟨rfl,hb9⟩;have hB9:=belowP hB5 (belowP hC7 hb9)))
       all_goals (go_ret;exact ⟨rfl,belowP hb0 hB9⟩)
      | true =>
       obtain ⟨m1,m2,m3⟩:=HM.out hm
       have g3 : (e.typ.toList != [109,46,114,111,111,109,46,109,101,109,98,101,114]) = false:=by rw [bne,hm];rfl
       clear HA HM HTY
       cases hb : (m.toList == [98,97,110]) with
       | true =>
        have g1:=m1 hb
        have g2 : decide (uk < us) = true:=decide_eq_true g1
        clear m1 m2 m3
        go_wp2_with (first
         | (go_at_call 10;refine (HUK.out _ hC7).mono ?_;rintro x w8 ⟨rfl,hb8⟩;have hC8:=belowP hC7 hb8;clear hb8)
         | (go_at_call 12;refine (HTx.out _ hC6).mono ?_;rintro x w7 ⟨rfl,hb7⟩;have hC7:=belowP hC6 hb7;clear hb7;have ek:=(HV5.out _ hC7).key;have es:=(HV5.out _ hC7).sender;have ei:=HEI.out _ hC7)
         | (go_at_call 10;refine (HUS.out _ hC0).mono ?_;rintro x w6 ⟨rfl,hC6⟩;have et:=(HV5.out _ hC6).typ;have est:=(HV5.out _ hC6).isSt)
         | (refine wpList_load_midg (by kernel_rfl) 37 _ rfl w4.heap.size 0 rfl (cellsL v q) (HLL.out _ hC7) ?_)
         | (refine wpList_load_midg (by kernel_rfl) 28 _ rfl w.heap.size 0 rfl (cellsE e p) (HLE.out _ hC6) ?_)
         | (refine wpList_load_midg (by kernel_rfl) 37 _ rfl w4.heap.size 0 rfl (cellsL v q) (HLL.out _ hC0) ?_)
         | (go_at_call 8;refine (HAV.out _ hC8).mono ?_;rintro x w9 ⟨rfl,hb9⟩;have hB9:=belowP hB5 (belowP hC8 hb9)))
        all_goals (go_ret;exact ⟨rfl,belowP hb0 hB9⟩)
       | false =>
        cases hl : (m.toList == [108,101,97,118,101]) with
        | true =>
         have n1 : (m.toList == [105,110,118,105,116,101]) = false:=by rw [eq_of_beq hl];rfl
         have n2 : (m.toList != [105,110,118,105,116,101]) = true:=by rw [bne,n1];rfl
         cases hw : (e.key.toList == e.sender.toList) with
         | true =>
          have n3 : (e.key.toList != e.sender.toList) = false:=by rw [bne,hw];rfl
          clear m1 m2 m3
          go_wp2_with (first
           | (go_at_call 12;refine (HTx.out _ hC6).mono ?_;rintro x w7 ⟨rfl,hb7⟩;have hC7:=belowP hC6 hb7;clear hb7;have ek:=(HV5.out _ hC7).key;have es:=(HV5.out _ hC7).sender;have ei:=HEI.out _ hC7)
           | (go_at_call 10;refine (HUS.out _ hC0).mono ?_;rintro x w6 ⟨rfl,hC6⟩;have et:=(HV5.out _ hC6).typ;have est:=(HV5.out _ hC6).isSt)
           | (refine wpList_load_midg (by kernel_rfl) 28 _ rfl w.heap.size 0 rfl (cellsE e p) (HLE.out _ hC6) ?_)
           | (refine wpList_load_midg (by kernel_rfl) 37 _ rfl w4.heap.size 0 rfl (cellsL v q) (HLL.out _ hC0) ?_)
           | (go_at_call 8;refine (HAV.out _ hC7).mono ?_;rintro x w9 ⟨rfl,hb9⟩;have hB9:=belowP hB5 (belowP hC7 hb9)))
          all_goals (go_ret;exact ⟨rfl,belowP hb0 hB9⟩)
         | false =>
          have n3 : (e.key.toList != e.sender.toList) = true:=by rw [bne,hw];rfl
          have g1:=m2 hl hw
          have g2 : decide (uk < us) = true:=decide_eq_true g1
          clear m1 m2 m3
          go_wp2_with (first
           | (go_at_call 10;refine (HUK.out _ hC7).mono ?_;rintro x w8 ⟨rfl,hb8⟩;have hC8:=belowP hC7 hb8;clear hb8)
           | (go_at_call 12;refine (HTx.out _ hC6).mono ?_;rintro x w7 ⟨rfl,hb7⟩;have hC7:=belowP hC6 hb7;clear hb7;have ek:=(HV5.out _ hC7).key;have es:=(HV5.out _ hC7).sender;have ei:=HEI.out _ hC7)
           | (go_at_call 10;refine (HUS.out _ hC0).mono ?_;rintro x w6 ⟨rfl,hC6⟩;have et:=(HV5.out _ hC6).typ;have est:=(HV5.out _ hC6).isSt)
           | (refine wpList_load_midg (by kernel_rfl) 37 _ rfl w4.heap.size 0 rfl (cellsL v q) (HLL.out _ hC7) ?_)
           | (refine wpList_load_midg (by kernel_rfl) 28 _ rfl w.heap.size 0 rfl (cellsE e p) (HLE.out _ hC6) ?_)
           | (refine wpList_load_midg (by kernel_rfl) 37 _ rfl w4.heap.size 0 rfl (cellsL v q) (HLL.out _ hC0) ?_)
           | (go_at_call 8;refine (HAV.out _ hC8).mono ?_;rintro x w9 ⟨rfl,hb9⟩;have hB9:=belowP hB5 (belowP hC8 hb9)))
          all_goals (go_ret;exact ⟨rfl,belowP hb0 hB9⟩)
        | false =>
         cases hi : (m.toList == [105,110,118,105,116,101]) with
         | true =>
          have n2 : (m.toList != [105,110,118,105,116,101]) = false:=by rw [bne,hi];rfl
          have g1:=m3 hi
          have g2 : decide (vi ≤ us) = true:=decide_eq_true g1
          clear m1 m2 m3
          go_wp2_with (first
           | (go_at_call 12;refine (HTx.out _ hC6).mono ?_;rintro x w7 ⟨rfl,hb7⟩;have hC7:=belowP hC6 hb7;clear hb7;have ek:=(HV5.out _ hC7).key;have es:=(HV5.out _ hC7).sender;have ei:=HEI.out _ hC7)
           | (go_at_call 10;refine (HUS.out _ hC0).mono ?_;rintro x w6 ⟨rfl,hC6⟩;have et:=(HV5.out _ hC6).typ;have est:=(HV5.out _ hC6).isSt)
           | (refine wpList_load_midg (by kernel_rfl) 28 _ rfl w.heap.size 0 rfl (cellsE e p) (HLE.out _ hC6) ?_)
           | (refine wpList_load_midg (by kernel_rfl) 37 _ rfl w4.heap.size 0 rfl (cellsL v q) (HLL.out _ hC0) ?_)
           | (go_at_call 8;refine (HAV.out _ hC7).mono ?_;rintro x w9 ⟨rfl,hb9⟩;have hB9:=belowP hB5 (belowP hC7 hb9)))
          all_goals (go_ret;exact ⟨rfl,belowP hb0 hB9⟩)
         | false =>
          have n2 : (m.toList != [105,110,118,105,116,101]) = true:=by rw [bne,hi];rfl
          clear m1 m2 m3
          go_wp2_with (first
           | (go_at_call 12;refine (HTx.out _ hC6).mono ?_;rintro x w7 ⟨rfl,hb7⟩;have hC7:=belowP hC6 hb7;clear hb7;have ek:=(HV5.out _ hC7).key;have es:=(HV5.out _ hC7).sender;have ei:=HEI.out _ hC7)
           | (go_at_call 10;refine (HUS.out _ hC0).mono ?_;rintro x w6 ⟨rfl,hC6⟩;have et:=(HV5.out _ hC6).typ;have est:=(HV5.out _ hC6).isSt)
           | (refine wpList_load_midg (by kernel_rfl) 28 _ rfl w.heap.size 0 rfl (cellsE e p) (HLE.out _ hC6) ?_)
           | (refine wpList_load_midg (by kernel_rfl) 37 _ rfl w4.heap.size 0 rfl (cellsL v q) (HLL.out _ hC0) ?_)
           | (go_at_call 8;refine (HAV.out _ hC7).mono ?_;rintro x w9 ⟨rfl,hb9⟩;have hB9:=belowP hB5 (belowP hC7 hb9)))
          all_goals (go_ret;exact ⟨rfl,belowP hb0 hB9⟩)
  · have hj1 : (jt == 0) = false:=by simpa using hj
    have hj2 : (jt != 0) = true:=by simpa using hj
    clear HLAW
    go_enter Tryz.func3,Tryz.ntmps3
    go_upto_region 1 with fail
    rw [← hW0]
    clear hW0
    go_wp2_with (first
     | (refine wpList_load_midg (by kernel_rfl) 28 _ rfl w.heap.size 0 rfl (cellsE e p) (HLD.out _ hB2) ?_)
     | (refine wpList_load_midg (by kernel_rfl) 28 _ rfl w.heap.size 0 rfl (cellsE e p) (HLD.out _ hB0) ?_)
     | (go_at_call 5;refine hFew.mono ?_;rintro x w1 ⟨⟨b1,rfl,hf1⟩,hB1⟩;cases b1;have hN1:=hB1;clear hB1)
     | (go_at_call 6;refine (HK.out _ hB1).mono ?_;rintro x w2 ⟨⟨b2,rfl,hf2⟩,hb2⟩;have hB2:=belowP hB1 hb2;clear hb2;have et:=(HV.out _ hB2).typ;cases b2;have hN2:=hB2;clear hB2)
     | (go_at_call 7;refine (HJ.out _ hB2 (hf1 (by trivial)) (hf2 (by trivial))).mono ?_;rintro x w3 ⟨rfl,hb3⟩;have hB3:=belowP hB2 hb3;clear hb3)
     | (go_at_call 8;refine (HAW.out _ hB3).mono ?_;rintro x w9 ⟨rfl,hb9⟩;have hB9:=belowP hB3 hb9)
     | (go_at_call 8;refine (HAW.out _ hB2).mono ?_;rintro x w9 ⟨rfl,hb9⟩;have hB9:=belowP hB2 hb9)
     | (go_at_call 8;refine (HAW.out _ hN2).mono ?_;rintro x w9 ⟨rfl,hb9⟩;have hB9:=belowP hN2 hb9)
     | (go_at_call 8;refine (HAW.out _ hN1).mono ?_;rintro x w9 ⟨rfl,hb9⟩;have hB9:=belowP hN1 hb9))
    all_goals (go_ret;exact ⟨rfl,belowP hb0 hB9⟩)
end Go.Proofs.YtldegjjaknelgabGreatDoor

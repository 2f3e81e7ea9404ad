/- A part. -/
import Derived.Test.YtldegjjaknelgaaGreatDoorAJ22
import Derived.Test.YtldegjjaknelgaaGreatDoorChecked
import Derived.ProofKit
import Derived.SizedLaws
import Derived.SliceStrings
set_option maxRecDepth 100000
set_option maxHeartbeats 64000000
namespace Go.Proofs.YtldegjjaknelgaaGreatDoor
open Go.RowKit
theorem zcM{e:Ev}{l:List Kn}{H:Hr}(h:openT e l=some H):H.e=e/\H.st=l:=by
 unfold openT at h
 split at h
 ·cases h
 ·split at h
  ·split at h
   ·cases h
   ·cases h
    exact⟨rfl,rfl⟩
  ·cases h
theorem Te:(⟨#[64]⟩:ByteArray).toList= [64]:=by rw[Lib.toList_data]
theorem DT(s:ByteArray)(w:World):Calls Tryz.prog 92 #[.string s,.string ⟨#[64]⟩] w fun x w'=>x=.returned (.bool (OL s))/\Below w.heap.size w w':=by
 have HT:Hid (OL s=(decide (1<=s.size)&&fT (s.extract 0 1) ⟨#[64]⟩)):=rfl;have e64:(⟨#[64]⟩:ByteArray).size=1:=rfl
 cases h1:decide (1<=s.size)with
 | false=>
  have h2:¬1<=s.size:=by simpa using h1
  have h3:¬(1:Int)<=s.size:=by omega
  go_enter Tryz.func92,Tryz.ntmps92;go_wp2;go_ret;exact⟨by rw[HT.out,h1];rfl,Below.refl _ _⟩
 | true=>
  have h2:1<=s.size:=by simpa using h1
  have h3:(1:Int)<=s.size:=by omega
  go_enter Tryz.func92,Tryz.ntmps92;go_wp2;go_ret;exact⟨by rw[HT.out,h1];unfold fT;rw[Te];rfl,Below.refl _ _⟩
theorem wR(s:ByteArray)(w:World):Calls Tryz.prog 58 #[.string s,.string ⟨#[64]⟩] w fun x w'=>x=.returned (.bool (OL s))/\Below w.heap.size w w':=by
 have hP:=DT s w;generalize OL s=b at hP ⊢;go_enter Tryz.func58,Tryz.ntmps58;go_wp2_with(go_at_call 92;refine hP.mono ?_;rintro x w1 ⟨rfl,aL⟩);go_ret;exact⟨rfl,aL⟩
theorem V4{O:Nat->Prop}{w:World}{e:Ev}{p:Pt}{ps:Option Addr}{cs:Nat}{l:List Kn}(h:ji O w e p)(lG:pM O w ps cs l)(hO:∀b,O b->b<w.heap.size)(hz:yC e)(hk:FE l):
    Calls Tryz.prog 27 #[eF e p,.slice ps l.length cs] w fun x w'=>x=gF (askT e l)/\Below w.heap.size w w':=by
 obtain⟨W0,cO⟩:∃W0,W0=w.alloc (.cells (aA e p).toArray 28):=⟨_,rfl⟩;have cK:Below w.heap.size w W0:=by rw[cO];exact(Below.refl _ _).alloc (Nat.le_refl _) _
 have kU:W0.heap[w.heap.size]?=some (.cells (aA e p).toArray 28 (0,0)):=by rw[cO];exact bz _
 have hV:=iI h hO cK kU;have HV:Hid (∀X,Below W0.heap.size W0 X->lW X w.heap.size e p):=fun X hX=>hV.below hX;have HA:Hid (askT e l=if fT e.aR aV then iZ e else match openT e l with| none=>false| some h=>h.ask):=rfl;have hCr:=Gz hV.ev (fun _ h=>h) hz;have hOp:=open_any hV.ev (lG.carry fun k hk=>⟨Nat.lt_of_lt_of_le (hO k hk) cK.size,cK.block k (hO k hk)⟩) (fun _ h=>h) hk;have xB:Hid (∀H,openT e l=some H->Qa H/\H.e=e):=fun H hH=>⟨M8 hz hk hH,(zcM hH).1⟩;have CB:=(show Hid _ from hV.iD);have et:=hV.aR;clear h lG hV kU hk hz;unfold eF at hCr hOp ⊢;unfold fT at HA;rw[kJ]at HA
 cases hc:(e.aR.toList== [109,46,114,111,111,109,46,99,114,101,97,116,101])with
 | true=>
  have HT:Hid (askT e l=iZ e):=by show _=_;rw[HA.out,if_pos hc]
  clear HA hOp xB;generalize iZ e=bc at hCr HT;go_enter Tryz.func27,Tryz.ntmps27
  go_upto_region 1 with fail
  rw[<-cO];clear cO;go_wp2_with(first
   | (refine wpList_load_mid rfl 28 _ rfl w.heap.size 0 rfl _ _ CB.out Tryz.underlying28 rfl dX ?_)
   | (go_at_call 51;refine hCr.mono ?_;rintro x w1 ⟨rfl,aL⟩)
   | (go_at_call 50;refine(dR _ _).mono ?_;rintro e wn ⟨rfl,rfl⟩))
  exact⟨rfl,by rw[HT.out],ag cK aL⟩
 | false=>
  have HT:Hid (askT e l=match openT e l with| none=>false| some h=>h.ask):=by show _=_;rw[HA.out,if_neg (by rw[hc];decide)]
  clear HA hCr;generalize openT e l=oh at hOp HT xB
  cases oh with
  | none=>
   have V5:Calls Tryz.prog 52 #[.agg (aA e p).toArray,.slice ps l.length cs] W0 fun x w'=>x=gF false/\Below W0.heap.size W0 w':=hOp;clear hOp;go_enter Tryz.func27,Tryz.ntmps27
   go_upto_region 1 with fail
   rw[<-cO];clear cO;go_wp2_with(first
    | (refine wpList_load_mid rfl 28 _ rfl w.heap.size 0 rfl _ _ CB.out Tryz.underlying28 rfl dX ?_)
    | (go_at_call 52;refine V5.mono ?_;rintro x w1 ⟨rfl,aL⟩))
   exact⟨rfl,by rw[HT.out],ag cK aL⟩
  | some H=>
   have V5:Calls Tryz.prog 52 #[.agg (aA e p).toArray,.slice ps l.length cs] W0 fun x w'=>(∃hb P,x=.returned (.pointer (some ⟨hb,0,none⟩))/\jw w' hb H P)/\Below W0.heap.size W0 w':=hOp;obtain⟨fK,he⟩:=xB.out H rfl;clear hOp xB;subst he
   replace HT:Hid (askT H.e l=if fT H.e.aR bg then H.fO else H.xH):=HT.out
   unfold fT at HT;rw[qm]at HT;go_enter Tryz.func27,Tryz.ntmps27
   go_upto_region 1 with fail
   rw[<-cO];clear cO
   go_upto_region 4 with(first
    | (refine wpList_load_mid rfl 28 _ rfl w.heap.size 0 rfl _ _ CB.out Tryz.underlying28 rfl dX ?_)
    | (go_at_call 52;refine V5.mono ?_;rintro x w1 ⟨⟨hb,P,rfl,hI⟩,aL⟩))
   have qz:Hid (∀X,Below w1.heap.size w1 X->jw X hb H P):=fun X hX=>hI.below hX;have HV1:Hid (∀X,Below w1.heap.size w1 X->lW X w.heap.size H.e p):=fun X hX=>HV.out X (ag aL hX);have Xl:Hid (∀X,Below w1.heap.size w1 X->Below w.heap.size w X):=fun X hX=>ag cK (ag aL hX);have V3:=sS hI fK;have hMb:=KH hI fK;clear CB et hI HV aL cK V5;have et:=(HV1.out w1 (Below.refl _ _)).aR
   cases hm:(H.e.aR.toList== [109,46,114,111,111,109,46,109,101,109,98,101,114])with
   | true=>
    have fD:Hid (askT H.e l=H.fO):=by show _=_;rw[HT.out,if_pos hm]
    clear HT V3;generalize H.fO=bm at hMb fD;go_wp2_with(go_at_call 53;refine hMb.mono ?_;rintro x w2 ⟨rfl,aY⟩);exact⟨rfl,by rw[fD.out],Xl.out _ aY⟩
   | false=>
    have fD:Hid (askT H.e l=(H.iN&&(decide (pg H.l H.e.aR H.e.st<=H.s)&&(!((H.e.st&&OL H.e.key)&& !H.own)&&(if(H.e.st&&fT H.e.aR bF)&&fT H.e.key ⟨#[]⟩then H.changes else true))))):=by show _=_;rw[HT.out,if_neg (by rw[hm];decide)];rfl
    unfold fT at fD;rw[zT,oU]at fD;clear HT hMb
    go_upto_region 6 with fail
    generalize H.iN=bj at V3 fD
    cases bj with
    | false=>
     go_wp2_with(first| (go_at_call 55;refine V3.mono ?_;rintro x w2 ⟨rfl,aY⟩)| (go_at_call 54;refine(bL _ _).mono ?_;rintro e wn ⟨he,rfl⟩;replace he:e=_:=he;subst he));exact⟨rfl,by rw[fD.out];rfl,Xl.out _ aY⟩
    | true=>
     go_upto_region 7 with(first| (go_at_call 55;refine V3.mono ?_;rintro x W ⟨rfl,aY⟩)| (go_at_call 54;refine(bL _ _).mono ?_;rintro e wn ⟨he,rfl⟩;replace he:e=_:=he;subst he))
     have HX:Hid (∀X,Below W.heap.size W X->jw X hb H P):=fun X hX=>qz.out X (ag aY hX);have HVX:Hid (∀X,Below W.heap.size W X->lW X w.heap.size H.e p):=fun X hX=>HV1.out X (ag aY hX);have bX:Hid (∀X,Below W.heap.size W X->Below w.heap.size w X):=fun X hX=>Xl.out X (ag aY hX);have HS:Hid (∀X,Below W.heap.size W X->Calls Tryz.prog 56 #[.pointer (some ⟨hb,0,none⟩)] X fun e w'=>e=.returned (.int .i64 H.s)/\Below X.heap.size X w'):=fun X hX=>vY (HX.out X hX) fK;have HTy:Hid (∀X,Below W.heap.size W X->Calls Tryz.prog 57 #[fA H.l P.l,.string H.e.aR,.bool H.e.st] X fun e w'=>e=.returned (.int .i64 (pg H.l H.e.aR H.e.st))/\Below X.heap.size X w'):=fun X hX=>U_ (HX.out X hX).lv (fun _ h=>h) fK.l H.e.aR H.e.st;have HOw:Hid (∀X,Below W.heap.size W X->Calls Tryz.prog 59 #[.pointer (some ⟨hb,0,none⟩)] X fun e w'=>e=.returned (.bool H.own)/\Below X.heap.size X w'):=fun X hX=>Dm (HX.out X hX);have HCh:Hid (∀X,Below W.heap.size W X->Calls Tryz.prog 60 #[.pointer (some ⟨hb,0,none⟩)] X fun e w'=>e=gF H.changes/\Below X.heap.size X w'):=fun X hX=>PI (HX.out X hX) fK;clear qz HV1 Xl V3 aY et hm hc;refine aI (by kernel_rfl) (fun w'=>Below W.heap.size W w') ?_;change wpIn _ _ _ _ _ _ _ _ (World.drew _);have hD:Below W.heap.size W W.drew:=(Below.refl _ _).drew;generalize H.s=S at HS fD;generalize pg H.l H.e.aR H.e.st=K0 at HTy fD
     cases h7:decide (S<K0)with
     | true=>
      refine aa (i:=0) (d:=some 23) rfl ?_;refine aa (i:=2) (d:=some 25) rfl ?_;refine aa (i:=3) (d:=some 26) rfl ?_;refine aa (i:=4) (d:=some 27) rfl ?_;refine ae (i:=5) (d:=(some 28)) (v:=(fA H.l P.l)) (a':= ?aqb5) rfl rfl (by kernel_rfl) (by kernel_rfl) (by kernel_rfl) (fun _ _ _ h=>h) (Or.inl ⟨by rfl, ?yqb5⟩) ?fqb5 ?_
      case yqb5=>exact fun wq hq=>di rfl rfl ((HX.out wq hq).RH)
      case fqb5=>(go_frame;rfl)
      refine aa (i:=6) (d:=some 29) rfl ?_;refine aC (i:=7) (d:=some 30) rfl (by(intro wq hq;have zf:=(HVX.out wq hq).aR;go_simp;first| done| with_reducible rfl)) ?_;refine aa (i:=8) (d:=some 31) rfl ?_;refine aC (i:=9) (d:=some 32) rfl (by(intro wq hq;have zf:=(HVX.out wq hq).l9;go_simp;first| done| with_reducible rfl)) ?_;refine ax (i:=1) hD rfl ?_;intro K hK;go_simp;go_wp2_with(go_at_call 56;refine(HS.out _ hD).mono ?_;rintro e w4 ⟨rfl,gI⟩);have iG:Below W.heap.size W w4:=ag hD gI;refine ax (i:=10) iG rfl ?_;intro K hK;go_simp;go_wp2_with(go_at_call 57;refine(HTy.out _ iG).mono ?_;rintro e w5 ⟨rfl,kF⟩);have nZ:Below W.heap.size W w5:=ag iG kF;refine aa (i:=11) (d:=some 34) rfl ?_;refine ax (i:=12) nZ rfl ?_;intro K hK;go_simp;go_wp2_with(go_at_call 54;refine(bL _ _).mono ?_;rintro e w6 ⟨he,YG⟩;replace he:e=_:=he;subst he;have pO:Below w5.heap.size w5 w6:=YG ▸ Below.refl _ _);exact⟨rfl,by rw[fD.out,show decide (K0<=S)=false from by simp at h7;simpa using h7];rfl,bX.out _ (YG ▸ ag iG kF)⟩
     | false=>
      refine aa (i:=0) (d:=some 23) rfl ?_;refine aa (i:=2) (d:=some 25) rfl ?_;refine aa (i:=3) (d:=some 26) rfl ?_;refine aa (i:=4) (d:=some 27) rfl ?_;refine ae (i:=5) (d:=(some 28)) (v:=(fA H.l P.l)) (a':= ?aqa5) rfl rfl (by kernel_rfl) (by kernel_rfl) (by kernel_rfl) (fun _ _ _ h=>h) (Or.inl ⟨by rfl, ?yqa5⟩) ?fqa5 ?_
      case yqa5=>exact fun wq hq=>di rfl rfl ((HX.out wq hq).RH)
      case fqa5=>(go_frame;rfl)
      refine aa (i:=6) (d:=some 29) rfl ?_;refine aC (i:=7) (d:=some 30) rfl (by(intro wq hq;have zf:=(HVX.out wq hq).aR;go_simp;first| done| with_reducible rfl)) ?_;refine aa (i:=8) (d:=some 31) rfl ?_;refine aC (i:=9) (d:=some 32) rfl (by(intro wq hq;have zf:=(HVX.out wq hq).l9;go_simp;first| done| with_reducible rfl)) ?_;refine ax (i:=1) hD rfl ?_;intro K hK;go_simp;go_wp2_with(go_at_call 56;refine(HS.out _ hD).mono ?_;rintro e w4 ⟨rfl,gI⟩);have iG:Below W.heap.size W w4:=ag hD gI;refine ax (i:=10) iG rfl ?_;intro K hK;go_simp;go_wp2_with(go_at_call 57;refine(HTy.out _ iG).mono ?_;rintro e w5 ⟨rfl,kF⟩);have nZ:Below W.heap.size W w5:=ag iG kF;refine aa (i:=11) (d:=some 34) rfl ?_;refine ax (i:=12) nZ rfl ?_;intro K hK;go_simp;go_wp2_with(go_at_call 54;refine(bL _ _).mono ?_;rintro e w6 ⟨he,YG⟩;replace he:e=_:=he;subst he;have pO:Below w5.heap.size w5 w6:=YG ▸ Below.refl _ _);have mO:Below W.heap.size W w6:=ag nZ pO;refine aH mO (by kernel_rfl) ?_ _;have hC:=mO;have Bv:Hid (askT H.e l=(!((H.e.st&&OL H.e.key)&& !H.own)&&(if(H.e.st&&(H.e.aR.toList== [109,46,114,111,111,109,46,112,111,119,101,114,95,108,101,118,101,108,115]))&&(H.e.key.toList== [])then H.changes else true))):=by show _=_;rw[fD.out,show decide (K0<=S)=true from by simp at h7;simpa using h7];rfl
      clear fD HS HTy
      go_upto_region 8 with fail
      clear hD iG nZ YG gI kF pO;clear h7;have Fb:=fun X hX=>HOw.out X (ag hC hX);have hVC:=HVX.out _ hC;have ck:=hVC.key;have XJ:=hVC.l9;clear hVC
      cases h8:H.e.st with
      | false=>
       rw[h8]at Bv XJ;go_wp2_with(first| (go_at_call 54;refine(bL _ _).mono ?_;rintro e wn ⟨he,rfl⟩;replace he:e=_:=he;subst he)| (go_at_call 50;refine(dR _ _).mono ?_;rintro e wn ⟨rfl,rfl⟩));exact⟨rfl,by rw[Bv.out];rfl,bX.out _ hC⟩
      | true=>
       rw[h8]at Bv XJ;generalize ha:OL H.e.key=ba at Bv
       cases ba with
       | false=>
        go_upto_region 9 with(first| (go_at_call 58;refine(wR _ _).mono ?_;rintro x w7 ⟨NI,vI⟩;rw[ha]at NI;subst NI)| (go_at_call 54;refine(bL _ _).mono ?_;rintro e wn ⟨he,rfl⟩;replace he:e=_:=he;subst he))
        have pG:=ag hC vI
        replace Bv:Hid (askT H.e l=(if(H.e.aR.toList== [109,46,114,111,111,109,46,112,111,119,101,114,95,108,101,118,101,108,115])&&(H.e.key.toList== [])then H.changes else true)):=by show _=_;rw[Bv.out];rfl
        clear ck XJ Fb;have hCh:=HCh.out w7 pG;have V6:=HVX.out w7 pG;have ct:=V6.aR;have ck:=V6.key;have XJ:=V6.l9;clear V6;rw[h8]at XJ
        cases h9:(H.e.aR.toList== [109,46,114,111,111,109,46,112,111,119,101,114,95,108,101,118,101,108,115])with
        | false=>
         go_wp2_with(go_at_call 50;refine(dR _ _).mono ?_;rintro e wn ⟨rfl,rfl⟩);exact⟨rfl,by rw[Bv.out,h9];rfl,bX.out _ pG⟩
        | true=>
         cases h10:(H.e.key.toList== [])with
         | false=>
          go_wp2_with(go_at_call 50;refine(dR _ _).mono ?_;rintro e wn ⟨rfl,rfl⟩);exact⟨rfl,by rw[Bv.out,h9,h10];rfl,bX.out _ pG⟩
         | true=>
          go_wp2_with(go_at_call 60;refine hCh.mono ?_;rintro x w9 ⟨rfl,yE⟩);exact⟨rfl,by rw[Bv.out,h9,h10];rfl,bX.out _ (ag pG yE)⟩
       | true=>
        generalize H.own=bo at Fb Bv HOw
        cases bo with
        | false=>
         go_wp2_with(first| (go_at_call 58;refine(wR _ _).mono ?_;rintro x w7 ⟨NI,vI⟩;rw[ha]at NI;subst NI)| (go_at_call 59;refine(Fb _ vI).mono ?_;rintro x w8 ⟨rfl,uC⟩)| (go_at_call 54;refine(bL _ _).mono ?_;rintro e wn ⟨he,rfl⟩;replace he:e=_:=he;subst he));exact⟨rfl,by rw[Bv.out];rfl,bX.out _ (ag (ag hC vI) uC)⟩
        | true=>
         go_upto_region 9 with(first| (go_at_call 58;refine(wR _ _).mono ?_;rintro x w6 ⟨NI,vI⟩;rw[ha]at NI;subst NI)| (go_at_call 59;refine(Fb _ vI).mono ?_;rintro x w7 ⟨rfl,uC⟩)| (go_at_call 54;refine(bL _ _).mono ?_;rintro e wn ⟨he,rfl⟩;replace he:e=_:=he;subst he))
         have pG:=ag (ag hC vI) uC
         replace Bv:Hid (askT H.e l=(if(H.e.aR.toList== [109,46,114,111,111,109,46,112,111,119,101,114,95,108,101,118,101,108,115])&&(H.e.key.toList== [])then H.changes else true)):=by show _=_;rw[Bv.out];rfl
         clear ck XJ Fb;have hCh:=HCh.out w7 pG;have V6:=HVX.out w7 pG;have ct:=V6.aR;have ck:=V6.key;have XJ:=V6.l9;clear V6;rw[h8]at XJ
         cases h9:(H.e.aR.toList== [109,46,114,111,111,109,46,112,111,119,101,114,95,108,101,118,101,108,115])with
         | false=>
          go_wp2_with(go_at_call 50;refine(dR _ _).mono ?_;rintro e wn ⟨rfl,rfl⟩);exact⟨rfl,by rw[Bv.out,h9];rfl,bX.out _ pG⟩
         | true=>
          cases h10:(H.e.key.toList== [])with
          | false=>
           go_wp2_with(go_at_call 50;refine(dR _ _).mono ?_;rintro e wn ⟨rfl,rfl⟩);exact⟨rfl,by rw[Bv.out,h9,h10];rfl,bX.out _ pG⟩
          | true=>
           go_wp2_with(go_at_call 60;refine hCh.mono ?_;rintro x w9 ⟨rfl,yE⟩);exact⟨rfl,by rw[Bv.out,h9,h10];rfl,bX.out _ (ag pG yE)⟩
theorem og{O:Nat->Prop}{w:World}{e:Ev}{p:Pt}{ps:Option Addr}{cs:Nat}{l:List Kn}(h:ji O w e p)(lG:pM O w ps cs l)(hO:∀b,O b->b<w.heap.size)(hz:yC e)(hk:FE l)(hT:wJ w):
    Calls Tryz.prog 11 #[eF e p,.slice ps l.length cs] w fun x w'=>x=.returned (.int .i64 (je e l))/\Below w.heap.size w w':=by
 refine(Td (b:=askT e l) h hO hz hT fun X hX=>V4 (h.carry fun k hk=>⟨hk,hX.block k (hO k hk)⟩) (lG.carry fun k hk=>⟨hk,hX.block k (hO k hk)⟩) (fun k hk=>Nat.lt_of_lt_of_le (hO k hk) hX.size) hz hk).mono fun x w' hh=>⟨?_,hh.2⟩;rw[hh.1];unfold je
 rfl
open Go.ChangeShapes Go.WideShapes Go.ChangeAt Go.RowKit
theorem LF:Tryz.prog.cellsOf 25=5:=by kernel_rfl
theorem nt:Tryz.prog.cellsOf 9=1:=by kernel_rfl
theorem V7:Tryz.prog.cellsOf 3=1:=by kernel_rfl
theorem DU:Tryz.prog.cellsOf 2=1:=by kernel_rfl
theorem DV:Tryz.prog.cellsOf 22=1:=by kernel_rfl
theorem V8:Tryz.prog.cellsOf 23=1:=by kernel_rfl
theorem kz{w:World}{a:Addr}{v:Value}(h:w.cell? a=some v):a.block<w.heap.size:=by
 rcases Nat.lt_or_ge a.block w.heap.size with h'| h'
 ·exact h'
 ·simp[World.cell?,Array.getElem?_eq_none h']at h
theorem wS{w:World}{b o:Nat}{sp:Option Nat}{v:Value}(h:w.cell? ⟨b,o,sp⟩=some v):sp=none:=by
 cases sp with
 | none=>rfl
 | some x=>
  unfold World.cell? at h
  split at h<;>simp at h
theorem M9{O:Nat->Prop}{w:World}{b o:Nat}(hO:O b):∀(l:List J) (n:Nat),(∀i,i<l.length->∃cs,(∀m v,cs[m]?=some v->w.cell? ⟨b,o+(n+i)*5+m,none⟩=some v)/\isJ O w (l.getD i J.zero) cs)->isJs O w (some ⟨b,o,none⟩) n l
 | [],_,_=>by unfold isJs;trivial
 | j::r,n,h=>by
  unfold isJs;obtain⟨cs,h1,h2⟩:=h 0 (by simp);refine⟨⟨b,o,cs,rfl,hO,fun m v hv=> ?_,h2⟩,M9 hO r (n+1) fun i hi=> ?_⟩
  ·have:=h1 m v hv;simpa using this
  ·obtain⟨cs,h1,h2⟩:=h (i+1) (by simp;omega);refine⟨cs,fun m v hv=> ?_,h2⟩;have:=h1 m v hv
   rwa [show n+(i+1)=n+1+i by omega]at this
theorem rq{α:Type}{z:α}{P:Nat->α->Prop}:∀n,(∀i,i<n->∃x,P i x)->∃l:List α,l.length=n/\∀i,i<n->P i (l.getD i z)
 | 0,_=>⟨[],rfl,fun i hi=>absurd hi (by omega)⟩
 | n+1,h=>by
  obtain⟨l,hl,hp⟩:=rq (z:=z) n fun i hi=>h i (by omega);obtain⟨x,hx⟩:=h n (by omega);refine⟨l++ [x],by simp[hl],fun i hi=> ?_⟩
  by_cases Ha:i<n
  ·have:(l++ [x]).getD i z=l.getD i z:=by
     rw[List.getD_eq_getElem?_getD,List.getD_eq_getElem?_getD,List.getElem?_append_left (by omega)]
   rw[this];exact hp i Ha
  ·obtain rfl:i=n:=by omega
   have:(l++ [x]).getD i z=x:=by
    rw[List.getD_eq_getElem?_getD,List.getElem?_append_right (by omega),hl];simp
   rw[this];exact hx
theorem XK{H:Type}{enc:TypeId×Value->H}{W:World}:∀(eB:Nat) (cs:List Value) (x:DataW H×List MemPlace),DataW.trod enc Tryz.prog W 0 (fun _=>true) true eB 25 cs=some x->∃j,isJ (fun b=>b<W.heap.size) W j cs
 | 0,cs,x,h=>by
  obtain⟨_,n,hf,_⟩:=DataW.trod_struct Tryz.underlying25 h;omega
 | eB+1,cs,x,h=>by
  obtain⟨xs,n,hf,_,hl,fw,yH⟩:=DataW.trod_struct Tryz.underlying25 h;obtain rfl:eB=n:=by omega
  rw[LF]at hl
  match cs,hl with
  | [c0,c1,c2,c3,c4],_=>
   match xs,fw with
   | [y0,y1,y2,y3,y4],_=>
    have g0:DataW.trod enc Tryz.prog W 0 (fun _=>true) true eB 3 (([c0,c1,c2,c3,c4].drop 0).take (Tryz.prog.cellsOf 3))=some y0:=yH 0 _ rfl;rw[V7]at g0;have f0:DataW.trod enc Tryz.prog W 0 (fun _=>true) true eB 3 [c0]=some y0:=g0;have g1:DataW.trod enc Tryz.prog W 0 (fun _=>true) true eB 2 (([c0,c1,c2,c3,c4].drop 1).take (Tryz.prog.cellsOf 2))=some y1:=yH 1 _ rfl;rw[DU]at g1;have f1:DataW.trod enc Tryz.prog W 0 (fun _=>true) true eB 2 [c1]=some y1:=g1;have g2:DataW.trod enc Tryz.prog W 0 (fun _=>true) true eB 9 (([c0,c1,c2,c3,c4].drop 2).take (Tryz.prog.cellsOf 9))=some y2:=yH 2 _ rfl;rw[nt]at g2;have f2:DataW.trod enc Tryz.prog W 0 (fun _=>true) true eB 9 [c2]=some y2:=g2;have g3:DataW.trod enc Tryz.prog W 0 (fun _=>true) true eB 22 (([c0,c1,c2,c3,c4].drop 3).take (Tryz.prog.cellsOf 22))=some y3:=yH 3 _ rfl;rw[DV]at g3;have f3:DataW.trod enc Tryz.prog W 0 (fun _=>true) true eB 22 [c3]=some y3:=g3;have g4:DataW.trod enc Tryz.prog W 0 (fun _=>true) true eB 23 (([c0,c1,c2,c3,c4].drop 4).take (Tryz.prog.cellsOf 23))=some y4:=yH 4 _ rfl;rw[V8]at g4;have f4:DataW.trod enc Tryz.prog W 0 (fun _=>true) true eB 23 [c4]=some y4:=g4;obtain⟨k,e0,_,_⟩:=DataW.trod_int Tryz.underlying3 f0;obtain⟨i,e1,_,_⟩:=DataW.trod_int Tryz.underlying2 f1;obtain⟨t,e2,_,_⟩:=DataW.trod_string Tryz.underlying9 f2;simp only[List.cons.injEq,and_true]at e0 e1 e2;subst e0 e1 e2;have zfK:∃pk nk ck ks,c3=.slice pk nk ck/\nk=ks.length/\jP (fun b=>b<W.heap.size) W pk ck ks:=by
     rcases open_strings Tryz.underlying22 Tryz.underlying9 nt f3 with⟨e3,_⟩| ⟨a,len,cap,ss,e3,_,Em,_,Q3,_,gu,_⟩
     ·simp only[List.cons.injEq,and_true]at e3;exact⟨none,0,0, [],e3,rfl,jP.nil _ _⟩
     ·simp only[List.cons.injEq,and_true]at e3;simp only[if_true]at Q3;refine⟨some a,len,cap,ss.take len,e3,by simp;omega,by simp;omega,fun j hj=>⟨a,rfl, ?_, ?_⟩⟩
      ·have Ie:j<len:=by simp at hj;omega
       have:=kz (gu j (by omega))
       rwa [bK]at this
      ·have Ie:j<len:=by simp at hj;omega
       rw[gu j (by omega)]
       congr 2
       rw[List.getD_eq_getElem?_getD,List.getD_eq_getElem?_getD,List.getElem?_take,if_pos Ie,List.getElem?_eq_getElem (by omega)]
       rfl
    have zfL:∃pl nl cl l,c4=.slice pl nl cl/\nl=l.length/\l.length<=cl/\isJs (fun b=>b<W.heap.size) W pl 0 l:=by
     rcases DataW.trod_slice Tryz.underlying23 f4 with⟨e4,_⟩| ⟨a,len,cap,elems,rest,n',U8,e4,_,_,Em,_,hel,x9,_,_⟩
     ·simp only[List.cons.injEq,and_true]at e4;exact⟨none,0,0, [],e4,rfl,Nat.le_refl _,by unfold isJs;trivial⟩
     ·simp only[List.cons.injEq,and_true]at e4;rw[LF]at x9
      cases len with
      | zero=>exact⟨some a,0,cap, [],e4,rfl,Nat.zero_le _,by unfold isJs;trivial⟩
      | succ len=>
       obtain⟨b,o,sp⟩:=a;have DW:∀i,i<len+1->∃cs,W.cells? 0 ((⟨b,o,sp⟩:Addr).add (i*5)) 5=some cs/\∃y,DataW.trod enc Tryz.prog W 0 (fun _=>true) true n' 25 cs=some y:=fun i hi=>by
        have h1:=x9 i hi;rw[List.getElem?_eq_getElem (by omega),Option.bind_eq_some_iff]at h1;obtain⟨cs,h2,h3⟩:=h1;exact⟨cs,h2,_,h3⟩
       have Nu:sp=none:=by
        obtain⟨cs,h2,_⟩:=DW 0 (by omega);have h3:=(World.cells?_some h2).2.2 0 (by omega);have h4:(((⟨b,o,sp⟩:Addr).add (0*5)).add 0)=⟨b,o,sp⟩:=by
         unfold Addr.add;simp
        rw[h4]at h3;have zfM:=(World.cells?_some h2).2.1;rw[List.getElem?_eq_getElem (by omega)]at h3;exact wS h3
       subst Nu;have wO:∀m,(⟨b,o,none⟩:Addr).add m=⟨b,o+m,none⟩:=fun m=>by unfold Addr.add;split<;>simp_all
       have GG:∀m m',((⟨b,o+m,none⟩:Addr)).add m'=⟨b,o+m+m',none⟩:=fun m m'=>by unfold Addr.add;split<;>simp_all
       have hb:b<W.heap.size:=by
        obtain⟨cs,h2,_⟩:=DW 0 (by omega);have:=World.cells?_block h2 (by decide)
        rwa [wO]at this
       obtain⟨l,He,Hf⟩:=rq (z:=J.zero) (P:=fun i j=>∃cs,(∀m v,cs[m]?=some v->W.cell? ⟨b,o+(0+i)*5+m,none⟩=some v)/\isJ (fun b=>b<W.heap.size) W j cs) (len+1) fun i hi=>by
        obtain⟨cs,h2,y,h3⟩:=DW i hi;obtain⟨j,hj⟩:=XK n' cs y h3;refine⟨j,cs,fun m v hv=> ?_,hj⟩;have h5:=(World.cells?_some h2).2.2;have zfM:=(World.cells?_some h2).2.1;have hm:m<5:=by
         have:=(List.getElem?_eq_some_iff.1 hv).1;omega
        have h6:=h5 m hm;rw[wO,GG,hv]at h6;rw[show o+(0+i)*5+m=o+i*5+m by omega];exact h6
       exact⟨some ⟨b,o,none⟩,len+1,cap,l,e4,He.symm,by omega,M9 (O:=fun b=>b<W.heap.size) hb l 0 fun i hi=>Hf i (by omega)⟩
    obtain⟨pk,nk,ck,ks,rfl,rfl,hk⟩:=zfK;obtain⟨pl,nl,cl,l,rfl,rfl,Em,vO⟩:=zfL;exact⟨.mk k i t ks l,by unfold isJ;exact⟨pk,ck,pl,cl,rfl,hk,Em,vO⟩⟩
open Go.RowKit
theorem LG{w w':World}{kind key ah kk s:ByteArray}{pk pl:Option Addr}{ck cl:Nat}{e:Ev}(he:e=stE kind key ah (tC kk s))(h:isJ (· <w.heap.size) w (tC kk s) [.int .i64 5,.int .i64 0,.string aT,.slice pk 1 ck,.slice pl 1 cl])(hb:Below w.heap.size w w'):ji (· <w'.heap.size) w' e ⟨pk,ck,pl,cl,none,0,none,0,none,0⟩:=by
 subst he;exact⟨h.carry fun k hk=>⟨Nat.lt_of_lt_of_le hk hb.size,hb.block k hk⟩,jP.nil _ _,jP.nil _ _,Hm.nil _ _ _ _⟩
theorem DX{w:World}{e:Ev}{p:Pt}(z:Array Value)(h:ji (· <w.heap.size) w e p):Below w.heap.size w ((w.alloc (.cells z 28)).setRow w.heap.size (aA e p).toArray)/\lW ((w.alloc (.cells z 28)).setRow w.heap.size (aA e p).toArray) w.heap.size e p:=by
 have hb:Below w.heap.size w ((w.alloc (.cells z 28)).setRow w.heap.size (aA e p).toArray):=((Below.refl _ _).alloc (Nat.le_refl _) _).trans ((aX _ w.heap.size _).below (by simp) fun q hq e=>by unfold aJ at e;omega);exact⟨hb,iI h (fun _ h=>h) hb (setRow_heap _ _ _ _ _ _ (bz _))⟩
theorem tH(kind key ah kk s:ByteArray)(pk:Option Addr)(ck:Nat)(pl:Option Addr)(cl:Nat)(w:World):Calls Tryz.prog 29 #[.string kind,.string key,.string ah,.agg #[.int .i64 5,.int .i64 0,.string aT,.slice pk 1 ck,.slice pl 1 cl]] w fun x w'=>
    (∃L:List Value,x=.returned (.agg L.toArray)/\Hid (L=aA (stE kind key ah (tC kk s)) ⟨pk,ck,pl,cl,none,0,none,0,none,0⟩))/\Below w.heap.size w w':=
 (Gt kind key ah kk s pk ck pl cl w).mono fun _ _ h=>⟨⟨_,h.1,rfl⟩,h.2⟩
theorem yI{r t s k:ByteArray}{st:Bool}{c:J}{pr:List ByteArray}(h1:r.size<=100)(h2:t.size<=100)(h3:s.size<=100)(h4:k.size<=100)(h5:szJ 12 c=true)(h6:pr.length<=1)(h7:∀x∈pr,x.size<=100):yC ⟨r,t,s,st,k,c,pr, [],0,0,aT, []⟩:=
 ⟨by show r.size<=_;omega,by show t.size<=_;omega,by show s.size<=_;omega,by show k.size<=_;omega,Nat.zero_le _,h5,by show pr.length<=_;omega,fun x hx=>Nat.le_trans (h7 x hx) (by decide),Nat.zero_le _,(fun x hx=>by cases hx),Nat.zero_le _,(fun x hx=>by cases hx)⟩
theorem zjK:yC vK:=yI (by decide) (by decide) (by decide) (by decide) (by kernel_rfl) (by decide) (fun x hx=>by cases hx)
theorem zfN:yC Br:=yI (by decide) (by decide) (by decide) (by decide) (by kernel_rfl) (by decide) (fun x hx=>by simp at hx;subst hx;decide)
theorem zjL:yC PD:=yI (by decide) (by decide) (by decide) (by decide) (by kernel_rfl) (by decide) (fun x hx=>by cases hx)
theorem zjM:yC Uu:=yI (by decide) (by decide) (by decide) (by decide) (by kernel_rfl) (by decide) (fun x hx=>by cases hx)
theorem LH{l:List Kn}(h:l.length<=2)(hc:l.all (fun k=>szJ 13 k.2.content&&decide (k.2.ah.size<=1000000000))=true):FE l:=by
 simp only[List.all_eq_true,Bool.and_eq_true,decide_eq_true_eq]at hc;exact⟨by omega,fun k hk=>(hc k hk).1,fun k hk=>(hc k hk).2⟩
theorem zfO:FE []:=LH (by decide) rfl
theorem zfP:FE [(vJ,vK)]:=LH (by decide) (by kernel_rfl)
theorem XL:FE [(vJ,vK),(VU,Br)]:=LH (by decide) (by kernel_rfl)
theorem Tf{W:World}{jb:Nat}{pk pl:Option Addr}{ck cl:Nat}(hX:W.heap[jb]?=some (.cells (aA SA ⟨pk,ck,pl,cl,none,0,none,0,none,0⟩).toArray 28 (0,0)))(hJ:isJ (· <jb) W (tC dG jT) [.int .i64 5,.int .i64 0,.string aT,.slice pk 1 ck,.slice pl 1 cl]):
    ay (aJ jb) W ((W.alloc (.cells #[.string vJ] 9)).setCell ⟨jb,10,none⟩ (.slice (some ⟨W.heap.size,0,none⟩) 1 1))/\lW ((W.alloc (.cells #[.string vJ] 9)).setCell ⟨jb,10,none⟩ (.slice (some ⟨W.heap.size,0,none⟩) 1 1)) jb Br ⟨pk,ck,pl,cl,some ⟨W.heap.size,0,none⟩,1,none,0,none,0⟩:=by
 have bQ:=aP hX;have Ur:ay (aJ jb) W (W.alloc (.cells #[.string vJ] 9)):=ay.bq ((Below.refl _ _).alloc (Nat.le_refl _) _);have hk:ay (aJ jb) W ((W.alloc (.cells #[.string vJ] 9)).setCell ⟨jb,10,none⟩ (.slice (some ⟨W.heap.size,0,none⟩) 1 1)):=ay.setCell (S:=aJ jb) (p:=⟨jb,10,none⟩) Ur (fun _=>(rfl:jb=jb)) _;have hX1:(W.alloc (.cells #[.string vJ] 9)).heap[jb]?=some (.cells (aA SA ⟨pk,ck,pl,cl,none,0,none,0,none,0⟩).toArray 28 (0,0)):=by rw[Below.heap_alloc _ _ _ bQ];exact hX
 have hN:(W.alloc (.cells #[.string vJ] 9)).heap[W.heap.size]?=some (.cells #[.string vJ] 9 (0,0)):=bz _;have Y8:((W.alloc (.cells #[.string vJ] 9)).setCell ⟨jb,10,none⟩ (.slice (some ⟨W.heap.size,0,none⟩) 1 1)).heap[W.heap.size]?=some (.cells #[.string vJ] 9 (0,0)):=by
  rw[<-hN];exact(ay.setCell (S:=aJ jb) (p:=⟨jb,10,none⟩) (ay.refl _ _) (fun _=>(rfl:jb=jb)) _).block W.heap.size (by simp) (by unfold aJ;omega)
 refine⟨hk,⟨?_,⟨hJ.carry fun k U6=>⟨?_,hk.block k (Nat.lt_trans U6 bQ) (by unfold aJ;omega)⟩,⟨Nat.le_refl _,fun j hj=> ?_⟩,jP.nil _ _,Hm.nil _ _ _ _⟩⟩⟩
 ·rw[heap_setCell_same _ jb 10 _ _ _ hX1];rfl
 ·exact Nat.lt_of_lt_of_le (Nat.lt_trans U6 bQ) hk.size
 ·obtain rfl:j=0:=by simp at hj;omega
  refine⟨⟨W.heap.size,0,none⟩,rfl,aP Y8, ?_⟩;exact ai Y8 0 _ rfl
theorem zcN{X:World}{b:Nat}{k:Kn}{q:Pt}(hX:X.heap[b]?=some (.cells (az k q).toArray 41 (0,0)))(hE:ji (· <X.heap.size) X k.2 q):pM (· <X.heap.size) X (some ⟨b,0,none⟩) 1 [k]:=
 ⟨Nat.le_refl _,fun j hj=>by
  obtain rfl:j=0:=by simp at hj;omega
  exact⟨b,0,q,rfl,aP hX,fun n v hv=>by rw[show 0+0*17+n=n by omega];exact ai hX n v (by simpa using hv),hE⟩⟩
theorem zcO{X:World}{b c:Nat}{k l:Kn}{q r:Pt}(hc:2<=c)(h1:∀n v,(az k q)[n]?=some v->X.cell? ⟨b,n,none⟩=some v)(h2:∀n v,(az l r)[n]?=some v->X.cell? ⟨b,17+n,none⟩=some v)(hE:ji (· <X.heap.size) X k.2 q)(hF:ji (· <X.heap.size) X l.2 r):pM (· <X.heap.size) X (some ⟨b,0,none⟩) c [k,l]:=
 ⟨hc,fun j hj=>by
  have hb:b<X.heap.size:=kz (h1 0 _ rfl);have Ue:j<2:=hj
  match j,Ue with
  | 0,_=>exact⟨b,0,q,rfl,hb,fun n v hv=>by rw[show 0+0*17+n=n by omega];exact h1 n v hv,hE⟩
  | 1,_=>exact⟨b,0,r,rfl,hb,fun n v hv=>by rw[show 0+1*17+n=17+n by omega];exact h2 n v hv,hF⟩⟩
theorem GH(w:World)(hT:wJ w):Calls Tryz.prog 13 #[] w fun x w'=>x=.returned (.bool true)/\Below w.heap.size w w':=by
 go_enter Tryz.func13,Tryz.ntmps13
 go_upto_region 3 with(first
  | (go_at_call 30;refine(tF _ _ _).mono ?_;rintro x w1 ⟨⟨GI,GJ,GK,GL,rfl,hjc⟩,V9⟩)
  | (go_at_call 29;refine(tH _ _ _ fI uA GI GJ GK GL _).mono ?_;rintro x w2 ⟨⟨Lc,rfl,XM⟩,LJ⟩)
  | (refine wpList_store_row rfl 28 _ _ rfl w2.heap.size 28 _ Lc.toArray rfl rfl (bz _) (by rw[XM.out];exact dX) (by rw[XM.out];rfl) (by rw[XM.out];exact Cg _ _) ?_))
 have LK:=DX (e:=vK) (p:=⟨GI,GJ,GK,GL,none,0,none,0,none,0⟩) (aA Ev.zero Pt.zero).toArray (LG rfl hjc LJ);rw[show aA vK ⟨GI,GJ,GK,GL,none,0,none,0,none,0⟩=Lc from XM.out.symm]at LK;change Code.wp _ _ _ _ ((w2.alloc (.cells (aA Ev.zero Pt.zero).toArray 28)).setRow w2.heap.size Lc.toArray);generalize (w2.alloc (.cells (aA Ev.zero Pt.zero).toArray 28)).setRow w2.heap.size Lc.toArray=WC at LK;have hBc:Below w.heap.size w WC:=ag (Below.refl _ _) (ag (ag V9 LJ) LK.1);have HVc:Hid (∀X,Below WC.heap.size WC X->lW X w2.heap.size vK ⟨GI,GJ,GK,GL,none,0,none,0,none,0⟩):=fun X hX=>LK.2.below hX;have HJc:Hid (isJ (· <w2.heap.size) WC (tC fI uA) [.int .i64 5,.int .i64 0,.string aT,.slice GI 1 GJ,.slice GK 1 GL]):=hjc.carry fun k hk=>⟨Nat.lt_of_lt_of_le hk LJ.size,(ag LJ LK.1).block k hk⟩;have hnc:Below w.heap.size w WC:=ag (ag V9 LJ) LK.1;have hzc:w.heap.size<=w2.heap.size:=Nat.le_trans V9.size LJ.size;clear LK hjc V9 LJ
 go_upto_region 4 with(first
  | (go_at_call 30;refine(tF _ _ _).mono ?_;rintro x w3 ⟨⟨M_,Na,Nb,Nc,rfl,hjj⟩,V_⟩)
  | (go_at_call 29;refine(tH _ _ _ dG jT M_ Na Nb Nc _).mono ?_;rintro x w4 ⟨⟨Lj,rfl,HLj⟩,LP⟩)
  | (refine wpList_store_row rfl 28 _ _ rfl w4.heap.size 28 _ Lj.toArray rfl rfl (bz _) (by rw[HLj.out];exact dX) (by rw[HLj.out];rfl) (by rw[HLj.out];exact Cg _ _) ?_))
 have LQ:=DX (e:=SA) (p:=⟨M_,Na,Nb,Nc,none,0,none,0,none,0⟩) (aA Ev.zero Pt.zero).toArray (LG rfl hjj LP);rw[show aA SA ⟨M_,Na,Nb,Nc,none,0,none,0,none,0⟩=Lj from HLj.out.symm]at LQ;change Code.wp _ _ _ _ ((w4.alloc (.cells (aA Ev.zero Pt.zero).toArray 28)).setRow w4.heap.size Lj.toArray);generalize (w4.alloc (.cells (aA Ev.zero Pt.zero).toArray 28)).setRow w4.heap.size Lj.toArray=WJ at LQ;have hBj:Below w.heap.size w WJ:=ag (hBc) (ag (ag V_ LP) LQ.1);have HVj:Hid (∀X,Below WJ.heap.size WJ X->lW X w4.heap.size SA ⟨M_,Na,Nb,Nc,none,0,none,0,none,0⟩):=fun X hX=>LQ.2.below hX;have HJj:Hid (isJ (· <w4.heap.size) WJ (tC dG jT) [.int .i64 5,.int .i64 0,.string aT,.slice M_ 1 Na,.slice Nb 1 Nc]):=hjj.carry fun k hk=>⟨Nat.lt_of_lt_of_le hk LP.size,(ag LP LQ.1).block k hk⟩;have hnj:Below WC.heap.size WC WJ:=ag (ag V_ LP) LQ.1;have hzj:WC.heap.size<=w4.heap.size:=Nat.le_trans V_.size LP.size;clear LQ hjj V_ LP;have Er:=(Below.heap_alloc WJ (.cells #[.string ⟨#[36,65,65,65,65,65,65,65,65,65,65,69]⟩] 9) _ (aP (HVj.out WJ (Below.refl _ _)).uw)).trans (HVj.out WJ (Below.refl _ _)).uw;have cj:(WJ.alloc (.cells #[.string ⟨#[36,65,65,65,65,65,65,65,65,65,65,69]⟩] 9)).cell? ⟨w4.heap.size,10,none⟩=some (.slice none 0 0):=ai Er 10 _ rfl;have zj:=gB Er 10;clear Er
 go_upto_region 5 with fail
 have UY:=Tf (HVj.out WJ (Below.refl _ _)).uw HJj.out;change Code.wp _ _ _ _ ((WJ.alloc (.cells #[.string vJ] 9)).setCell ⟨w4.heap.size,10,none⟩ (.slice (some ⟨WJ.heap.size,0,none⟩) 1 1));generalize (WJ.alloc (.cells #[.string vJ] 9)).setCell ⟨w4.heap.size,10,none⟩ (.slice (some ⟨WJ.heap.size,0,none⟩) 1 1)=W4 at UY;obtain⟨zm,xm⟩:=UY;have YD:Below WC.heap.size WC W4:=hnj.trans (zm.below hnj.size fun k hk e=>by unfold aJ at e;omega);have vE:Below w.heap.size w W4:=ag hBc YD;have HC4:Hid (∀X,Below W4.heap.size W4 X->lW X w2.heap.size vK ⟨GI,GJ,GK,GL,none,0,none,0,none,0⟩):=fun X hX=>HVc.out X (ag YD hX);have HJ4:Hid (∀X,Below W4.heap.size W4 X->lW X w4.heap.size Br ⟨M_,Na,Nb,Nc,some ⟨WJ.heap.size,0,none⟩,1,none,0,none,0⟩):=fun X hX=>xm.below hX;have Ze:Hid (W4.rangeAt w2.heap.size 0 Lc):=by
  have:=(HC4.out W4 (Below.refl _ _)).iD;rw[<-XM.out]at this;exact this
 clear HVc HVj HJc HJj zm xm YD hnj hnc hBc hBj hzc hzj cj zj
 go_upto_region 6 with(first
  | (refine wpList_load_mid rfl 28 _ rfl w2.heap.size 0 rfl Lc _ Ze.out Tryz.underlying28 rfl (by rw[XM.out];exact dX) ?_)
  | (refine qC rfl _ _ rfl vJ vK ⟨GI,GJ,GK,GL,none,0,none,0,none,0⟩ Lc XM.out rfl rfl fun Mc HMc=> ?_)
  | (refine uZ rfl _ rfl (vJ,vK) ⟨GI,GJ,GK,GL,none,0,none,0,none,0⟩ Mc HMc.out rfl ?_))
 obtain⟨W5,wh⟩:∃W5,W5=W4.alloc (.cells Mc.toArray 41):=⟨_,rfl⟩;have iJ:Below W4.heap.size W4 W5:=by rw[wh];exact(Below.refl _ _).alloc (Nat.le_refl _) _
 have hX5:W5.heap[W4.heap.size]?=some (.cells (az (vJ,vK) ⟨GI,GJ,GK,GL,none,0,none,0,none,0⟩).toArray 41 (0,0)):=by rw[wh,HMc.out];exact bz _
 have eD:Hid (∀X,Below W5.heap.size W5 X->X.heap[W4.heap.size]?=some (.cells (az (vJ,vK) ⟨GI,GJ,GK,GL,none,0,none,0,none,0⟩).toArray 41 (0,0))):=fun X hX=>(hX.block _ (aP hX5)).trans hX5;rw[<-wh];clear wh hX5 Ze
 go_upto_region 7 with(refine wpList_store_row rfl 28 _ _ rfl W5.heap.size 28 _ (aA PD Pt.zero).toArray rfl rfl (bz _) dX rfl (Cg _ _) ?_)
 have zfQ:=DX (w:=W5) (e:=PD) (p:=Pt.zero) (aA Ev.zero Pt.zero).toArray ⟨wP _ _ _ _ _,jP.nil _ _,jP.nil _ _,Hm.nil _ _ _ _⟩;change Code.wp _ _ _ _ ((W5.alloc (.cells (aA Ev.zero Pt.zero).toArray 28)).setRow W5.heap.size (aA PD Pt.zero).toArray);generalize (W5.alloc (.cells (aA Ev.zero Pt.zero).toArray 28)).setRow W5.heap.size (aA PD Pt.zero).toArray=W6 at zfQ;obtain⟨jy,hv6⟩:=zfQ;have Wd:Below W4.heap.size W4 W6:=ag iJ jy;have HJ6:Hid (∀X,Below W6.heap.size W6 X->lW X w4.heap.size Br ⟨M_,Na,Nb,Nc,some ⟨WJ.heap.size,0,none⟩,1,none,0,none,0⟩):=fun X hX=>HJ4.out X (ag Wd hX);have HM6:Hid (∀X,Below W6.heap.size W6 X->lW X W5.heap.size PD Pt.zero):=fun X hX=>hv6.below hX;have HC6:Hid (∀X,Below W6.heap.size W6 X->lW X w2.heap.size vK ⟨GI,GJ,GK,GL,none,0,none,0,none,0⟩):=fun X hX=>HC4.out X (ag Wd hX);have HK6:Hid (∀X,Below W6.heap.size W6 X->X.heap[W4.heap.size]?=some (.cells (az (vJ,vK) ⟨GI,GJ,GK,GL,none,0,none,0,none,0⟩).toArray 41 (0,0))):=fun X hX=>eD.out X (ag jy hX);have hB6:Below w.heap.size w W6:=ag vE Wd;obtain⟨Lp,hLp⟩:∃L,L=aA Br ⟨M_,Na,Nb,Nc,some ⟨WJ.heap.size,0,none⟩,1,none,0,none,0⟩:=⟨_,rfl⟩;have HLp:=(show Hid _ from hLp);clear hLp;have BK:Hid (W6.rangeAt w4.heap.size 0 Lp):=by
  have:=(HJ6.out W6 (Below.refl _ _)).iD;rw[<-HLp.out]at this;exact this
 have HKA:Hid (∀o:Obj,(W6.alloc o).heap[W4.heap.size]?=some (.cells (az (vJ,vK) ⟨GI,GJ,GK,GL,none,0,none,0,none,0⟩).toArray 41 (0,0))):=fun o=>HK6.out _ ((Below.refl _ _).alloc (Nat.le_refl _) _);clear HJ4 HC4 eD iJ jy hv6 Wd vE
 go_upto_region 8 with(first
  | (refine wpList_load_mid rfl 28 _ rfl w4.heap.size 0 rfl Lp _ BK.out Tryz.underlying28 rfl (by rw[HLp.out];exact dX) ?_)
  | (refine qC rfl _ _ rfl VU Br ⟨M_,Na,Nb,Nc,some ⟨WJ.heap.size,0,none⟩,1,none,0,none,0⟩ Lp HLp.out rfl rfl fun Mp HMp=> ?_)
  | (refine uZ rfl _ rfl (VU,Br) ⟨M_,Na,Nb,Nc,some ⟨WJ.heap.size,0,none⟩,1,none,0,none,0⟩ Mp HMp.out rfl ?_)
  | (refine Gw rfl _ _ rfl W4.heap.size W6.heap.size (vJ,vK) (VU,Br) ⟨GI,GJ,GK,GL,none,0,none,0,none,0⟩ ⟨M_,Na,Nb,Nc,some ⟨WJ.heap.size,0,none⟩,1,none,0,none,0⟩ rfl rfl (HKA.out _) (by rw[HMp.out];exact bz _) fun c7 W7 hc7 vI hf7 XN=> ?_))
 have Tg:Below W6.heap.size W6 W7:=ag ((Below.refl _ _).alloc (Nat.le_refl _) _) vI;have hBk:Below w.heap.size w W7:=ag hB6 Tg;rw[World.size_alloc]at hf7 XN;have HR7:Hid (∀X,Below W7.heap.size W7 X->pM (· <X.heap.size) X (some ⟨W6.heap.size+1,0,none⟩) c7 [(vJ,vK),(VU,Br)]):=fun X hX=>
  zcO hc7 (fun n v hv=>(hX.cell (p:=⟨_,n,none⟩) (kz (hf7 n v hv))).trans (hf7 n v hv)) (fun n v hv=>(hX.cell (p:=⟨_,17+n,none⟩) (kz (XN n v hv))).trans (XN n v hv)) (HC6.out X (ag Tg hX)).ev (HJ6.out X (ag Tg hX)).ev
 go_upto_region 9 with(first
  | (go_at_call 30;refine(tF _ _ _).mono ?_;rintro x w8 ⟨⟨XO,XP,XQ,XR,rfl,hjb⟩,We⟩)
  | (go_at_call 29;refine(tH _ _ _ dG yg XO XP XQ XR _).mono ?_;rintro x w9 ⟨⟨Lb,rfl,HLb⟩,LU⟩)
  | (refine wpList_store_row rfl 28 _ _ rfl w9.heap.size 28 _ Lb.toArray rfl rfl (bz _) (by rw[HLb.out];exact dX) (by rw[HLb.out];rfl) (by rw[HLb.out];exact Cg _ _) ?_))
 have LV:=DX (e:=Uu) (p:=⟨XO,XP,XQ,XR,none,0,none,0,none,0⟩) (aA Ev.zero Pt.zero).toArray (LG rfl hjb LU);rw[show aA Uu ⟨XO,XP,XQ,XR,none,0,none,0,none,0⟩=Lb from HLb.out.symm]at LV;change Code.wp _ _ _ _ ((w9.alloc (.cells (aA Ev.zero Pt.zero).toArray 28)).setRow w9.heap.size Lb.toArray);generalize (w9.alloc (.cells (aA Ev.zero Pt.zero).toArray 28)).setRow w9.heap.size Lb.toArray=WB at LV;have hBb:Below w.heap.size w WB:=ag (hBk) (ag (ag We LU) LV.1);have HVb:Hid (∀X,Below WB.heap.size WB X->lW X w9.heap.size Uu ⟨XO,XP,XQ,XR,none,0,none,0,none,0⟩):=fun X hX=>LV.2.below hX;have HJb:Hid (isJ (· <w9.heap.size) WB (tC dG yg) [.int .i64 5,.int .i64 0,.string aT,.slice XO 1 XP,.slice XQ 1 XR]):=hjb.carry fun k hk=>⟨Nat.lt_of_lt_of_le hk LU.size,(ag LU LV.1).block k hk⟩;have CO:Below W7.heap.size W7 WB:=ag (ag We LU) LV.1;have xC:W7.heap.size<=w9.heap.size:=Nat.le_trans We.size LU.size;clear LV hjb We LU;have Wh:Below W6.heap.size W6 WB:=ag Tg CO;have VT:Hid (WB.rangeAt w4.heap.size 0 Lp):=by
  have:=(HJ6.out WB Wh).iD;rw[<-HLp.out]at this;exact this
 have hWt:Calls Tryz.prog 14 #[.agg Lp.toArray] WB fun x w'=>(∃q c,x=.returned (.slice q 4 c))/\Below WB.heap.size WB w':=by
  rw[HLp.out];refine(KC (HJ6.out WB Wh).ev (fun _ h=>h) zfN).mono fun x w' hh=>⟨?_,hh.2⟩;obtain⟨⟨q,c,hx,_⟩,_⟩:=hh;rw[zaD]at hx;exact⟨q,c,hx⟩
 clear BK HKA vI hf7 XN
 go_upto_region 10 with(first
  | (refine wpList_load_mid rfl 28 _ rfl w4.heap.size 0 rfl Lp _ VT.out Tryz.underlying28 rfl (by rw[HLp.out];exact dX) ?_)
  | (go_at_call 14;refine hWt.mono ?_;rintro x W9 ⟨⟨qw,cw,rfl⟩,yE⟩))
 have Wi:Below W6.heap.size W6 W9:=ag Wh yE;have h79:Below W7.heap.size W7 W9:=ag CO yE;have vF:Below w.heap.size w W9:=ag hBb yE;have HT:Hid (∀X,Below W9.heap.size W9 X->wJ X):=fun X hX=>hT.below (ag vF hX);have HBB:Hid (∀X,Below W9.heap.size W9 X->Below w.heap.size w X):=fun X hX=>ag vF hX;have HE1:Hid (∀X,Below W9.heap.size W9 X->(Instr.loadAt 28 (.pointer (some ⟨w2.heap.size,0,none⟩))).run Tryz.prog X=.ok (.agg (aA vK ⟨GI,GJ,GK,GL,none,0,none,0,none,0⟩).toArray) X):=fun X hX=>run_loadAt_mid X w2.heap.size 0 28 (aA vK ⟨GI,GJ,GK,GL,none,0,none,0,none,0⟩) _ (HC6.out X (ag Wi hX)).iD Tryz.underlying28 rfl dX;have HE2:Hid (∀X,Below W9.heap.size W9 X->(Instr.loadAt 28 (.pointer (some ⟨w4.heap.size,0,none⟩))).run Tryz.prog X=.ok (.agg (aA Br ⟨M_,Na,Nb,Nc,some ⟨WJ.heap.size,0,none⟩,1,none,0,none,0⟩).toArray) X):=fun X hX=>run_loadAt_mid X w4.heap.size 0 28 (aA Br ⟨M_,Na,Nb,Nc,some ⟨WJ.heap.size,0,none⟩,1,none,0,none,0⟩) _ (HJ6.out X (ag Wi hX)).iD Tryz.underlying28 rfl dX;have HE3:Hid (∀X,Below W9.heap.size W9 X->(Instr.loadAt 28 (.pointer (some ⟨W5.heap.size,0,none⟩))).run Tryz.prog X=.ok (.agg (aA PD Pt.zero).toArray) X):=fun X hX=>run_loadAt_mid X W5.heap.size 0 28 (aA PD Pt.zero) _ (HM6.out X (ag Wi hX)).iD Tryz.underlying28 rfl dX;have HE4:Hid (∀X,Below W9.heap.size W9 X->(Instr.loadAt 28 (.pointer (some ⟨w9.heap.size,0,none⟩))).run Tryz.prog X=.ok (.agg (aA Uu ⟨XO,XP,XQ,XR,none,0,none,0,none,0⟩).toArray) X):=fun X hX=>run_loadAt_mid X w9.heap.size 0 28 (aA Uu ⟨XO,XP,XQ,XR,none,0,none,0,none,0⟩) _ (HVb.out X (ag yE hX)).iD Tryz.underlying28 rfl dX;have HQ1:Hid (∀X,Below W9.heap.size W9 X->Calls Tryz.prog 11 #[.agg (aA vK ⟨GI,GJ,GK,GL,none,0,none,0,none,0⟩).toArray,.slice none 0 0] X fun x w'=>x=.returned (.int .i64 0)/\Below X.heap.size X w'):=fun X hX=>by
  have:=og (l:= []) (ps:=none) (cs:=0) (HC6.out X (ag Wi hX)).ev (pM.nil _ _ _ _) (fun _ h=>h) zjK zfO (HT.out X hX);rw[VV]at this;exact this
 have HQ2:Hid (∀X,Below W9.heap.size W9 X->Calls Tryz.prog 11 #[.agg (aA Br ⟨M_,Na,Nb,Nc,some ⟨WJ.heap.size,0,none⟩,1,none,0,none,0⟩).toArray,.slice (some ⟨W4.heap.size,0,none⟩) 1 1] X fun x w'=>x=.returned (.int .i64 0)/\Below X.heap.size X w'):=fun X hX=>by
  have:=og (HJ6.out X (ag Wi hX)).ev (zcN (HK6.out X (ag Wi hX)) (HC6.out X (ag Wi hX)).ev) (fun _ h=>h) zfN zfP (HT.out X hX);rw[VW]at this;exact this
 have HQ3:Hid (∀X,Below W9.heap.size W9 X->Calls Tryz.prog 11 #[.agg (aA PD Pt.zero).toArray,.slice (some ⟨W6.heap.size+1,0,none⟩) 2 c7] X fun x w'=>x=.returned (.int .i64 110)/\Below X.heap.size X w'):=fun X hX=>by
  have:=og (HM6.out X (ag Wi hX)).ev (HR7.out X (ag h79 hX)) (fun _ h=>h) zjL XL (HT.out X hX);rw[VX]at this;exact this
 have HQ4:Hid (∀X,Below W9.heap.size W9 X->Calls Tryz.prog 11 #[.agg (aA Uu ⟨XO,XP,XQ,XR,none,0,none,0,none,0⟩).toArray,.slice (some ⟨W6.heap.size+1,0,none⟩) 2 c7] X fun x w'=>x=.returned (.int .i64 110)/\Below X.heap.size X w'):=fun X hX=>by
  have:=og (HVb.out X (ag yE hX)).ev (HR7.out X (ag h79 hX)) (fun _ h=>h) zjM XL (HT.out X hX);rw[VY]at this;exact this
 have OG:Below W9.heap.size W9 W9:=Below.refl _ _;clear HC6 HJ6 HM6 HVb HR7 HK6 Wi h79 vF HT VT hWt hT hBk hB6 Tg CO Wh hBb yE HJb xC;rw[<-XM.out]at HE1 HQ1;rw[<-HLp.out]at HE2 HQ2;rw[<-HLb.out]at HE4 HQ4;generalize aA PD Pt.zero=LM at HE3 HQ3;go_wp2_with(first
  | (refine aQ (by kernel_rfl) 28 _ rfl w9.heap.size 0 rfl Lb (HE4.out _ hA3) ?_)
  | (refine aQ (by kernel_rfl) 28 _ rfl W5.heap.size 0 rfl LM (HE3.out _ YX) ?_)
  | (refine aQ (by kernel_rfl) 28 _ rfl w4.heap.size 0 rfl Lp (HE2.out _ hA1) ?_)
  | (refine aQ (by kernel_rfl) 28 _ rfl w2.heap.size 0 rfl Lc (HE1.out _ OG) ?_)
  | (go_at_call 11;refine(HQ4.out _ hA3).mono ?_;rintro x wd ⟨rfl,pX⟩;have hA4:=ag hA3 pX)
  | (go_at_call 11;refine(HQ3.out _ YX).mono ?_;rintro x wc ⟨rfl,hbc⟩;have hA3:=ag YX hbc)
  | (go_at_call 11;refine(HQ2.out _ hA1).mono ?_;rintro x wb ⟨rfl,xh⟩;have YX:=ag hA1 xh)
  | (go_at_call 11;refine(HQ1.out _ OG).mono ?_;rintro x wa ⟨rfl,hba⟩;have hA1:=ag OG hba))
 go_ret;exact⟨rfl,HBB.out _ hA4⟩
def DY(d:Nat):Prop:=∀(w:World) (O:Nat->Prop) (j:J) (k i deep n:Int) (t:ByteArray) (pk pl:Option Addr) (nk ck nl cl:Nat),(∀x,O x->x<w.heap.size)->deep=(d:Int)->d<=100->0<=n->n<=100000→
 isJ O w j [.int .i64 k,.int .i64 i,.string t,.slice pk nk ck,.slice pl nl cl]→
 Calls Tryz.prog 23 #[.agg #[.int .i64 k,.int .i64 i,.string t,.slice pk nk ck,.slice pl nl cl],.int .i64 n,.int .i64 deep] w fun x w'=>(∃r:Int,x=.returned (.int .i64 r)/\r<=n/\-1<=r/\(0<=r->szJ d j=true))/\Below w.heap.size w w'
theorem LW:DY 0:=by
 intro w O j k i deep n t pk pl nk ck nl cl hO rO _ h0 hn _;subst rO;have bM:Below w.heap.size w (w.alloc (.cells #[.int .i64 k,.int .i64 i,.string t,.slice pk nk ck,.slice pl nl cl] 25)):=(Below.refl _ _).alloc (Nat.le_refl _) _
 by_cases h1:n<1
 ·go_enter Tryz.func23,Tryz.ntmps23;go_wp2;go_ret;exact⟨⟨-1,rfl,by omega,by omega,fun h=>absurd h (by decide)⟩,bM⟩
 ·go_enter Tryz.func23,Tryz.ntmps23;go_wp2;go_ret;exact⟨⟨-1,rfl,by omega,by omega,fun h=>absurd h (by decide)⟩,bM⟩
theorem LX{d:Nat}(V:DY d):DY (d+1):=by
 intro w O j k i deep n t pk pl nk ck nl cl hO rO hd h0 hn hj;obtain⟨kx,ix,tx,ks,l⟩:=j;unfold isJ at hj;obtain⟨YH,U0,YI,A_,e,hk,hl,hs⟩:=hj;simp only[List.cons.injEq,Value.int.injEq,Value.string.injEq,Value.slice.injEq,true_and,and_true]at e;obtain⟨rfl,rfl,rfl,⟨rfl,rfl,rfl⟩,rfl,rfl,rfl⟩:=e;have hd1:1<=deep:=by omega
 have JJ:deep<=101:=by omega
 have HD:Hid (deep - 1=(d:Int)):=by show _=_;omega
 have HDL:Hid (d<=100):=by show _<=_;omega
 clear rO hd;obtain⟨nk,kX⟩:∃n,ks.length=n:=⟨_,rfl⟩;obtain⟨nl,o_⟩:∃n,l.length=n:=⟨_,rfl⟩;have kG:Hid (ks.length=nk):=kX;have yX:Hid (l.length=nl):=o_;have CU:=hk.1;rw[kX]at CU ⊢;rw[o_]at hl ⊢;clear kX o_;have bM:Below w.heap.size w (w.alloc (.cells #[.int .i64 k,.int .i64 i,.string t,.slice pk nk ck,.slice pl nl cl] 25)):=(Below.refl _ _).alloc (Nat.le_refl _) _;have neg:∀(w':World) (x:Ending),x=.returned (.int .i64 (-1))->Below w.heap.size w w'->(∃r:Int,x=.returned (.int .i64 r)/\r<=n/\-1<=r/\(0<=r->szJ (d+1) (.mk k i t ks l)=true))/\Below w.heap.size w w':=fun w' x hx hb=>⟨⟨-1,hx,by omega,by omega,fun h=>absurd h (by decide)⟩,hb⟩;have Ti:Hid (∀(w':World) (x:Ending),x=.returned (.int .i64 (-1))->Below w.heap.size w w'->(∃r:Int,x=.returned (.int .i64 r)/\r<=n/\-1<=r/\(0<=r->szJ (d+1) (.mk k i t ks l)=true))/\Below w.heap.size w w'):=neg;clear neg
 by_cases h1:n<1
 ·go_enter Tryz.func23,Tryz.ntmps23;go_wp2;go_ret;exact Ti.out _ _ rfl bM
 by_cases h2:(2000:Int)<t.size
 ·go_enter Tryz.func23,Tryz.ntmps23;go_wp2;go_ret;exact Ti.out _ _ rfl bM
 by_cases h3:(100:Int)<nk
 ·go_enter Tryz.func23,Tryz.ntmps23;go_wp2;go_ret;exact Ti.out _ _ rfl bM
 by_cases h4:(300:Int)<nl
 ·go_enter Tryz.func23,Tryz.ntmps23;go_wp2;go_ret;exact Ti.out _ _ rfl bM
 obtain⟨wB,vD⟩:∃wB,wB=w.alloc (.cells #[.int .i64 k,.int .i64 i,.string t,.slice pk nk ck,.slice pl nl cl] 25):=⟨_,rfl⟩;have hA:wB.heap[w.heap.size]?=some (.cells #[.int .i64 k,.int .i64 i,.string t,.slice pk nk ck,.slice pl nl cl] 25 (0,0)):=by rw[vD];exact heap_alloc_new _ _
 have hsB:w.heap.size<wB.heap.size:=(Array.getElem?_eq_some_iff.1 hA).1;rw[<-vD]at bM;have Xw:Hid (∀W:World,Below wB.heap.size wB W->∀n v, [Value.int .i64 k,.int .i64 i,.string t,.slice pk nk ck,.slice pl nl cl][n]?=some v->W.cell? ⟨w.heap.size,n,none⟩=some v):=fun W hW n v hv=>
  (World.cell?_of_block (a:=⟨w.heap.size,n,none⟩) (hW.block w.heap.size hsB)).trans (bB (cur:= [.int .i64 k,.int .i64 i,.string t,.slice pk nk ck,.slice pl nl cl]) hA n v hv)
 go_enter Tryz.func23,Tryz.ntmps23;go_wp2;rw[<-vD];clear vD hA
 go_loopw [7] (fun v wr=>∃m:Nat,v=.int .i64 m/\m<=nk/\Hid (∀x,x<m->(ks.getD x aT).size<=300)/\wr=wB) (fun v _=>nk - (intOf v).toNat)
 case atStart=>exact⟨0,rfl,Nat.zero_le _,fun m hm=>absurd hm (by omega),rfl⟩
 case round=>
  obtain⟨m,rfl,hm,HE,rfl⟩:=hrel;have a3:=Xw.out wr (Below.refl _ _) 3 _ rfl
  by_cases P5:m<nk
  ·have pK:(m:Int)<(nk:Int):=by omega
   obtain⟨ka,YE,qR,Sg⟩:=hk.2 m (by rw[kG.out];exact P5);subst YE;have hKA:wr.cell? (ka.add m)=some (.string (ks.getD m aT)):=(World.cell?_of_block (by rw[bK];exact bM.block _ (hO _ qR))).trans Sg;obtain⟨u,hu⟩:∃u,ks.getD m aT=u:=⟨_,rfl⟩;have HU:Hid (ks.getD m aT=u):=hu;rw[hu]at hKA;clear hu Sg
   by_cases QP:(300:Int)<u.size
   ·go_wp2;go_ret;exact Ti.out _ _ rfl bM
   ·go_wp2;go_roundw
    case rel=>exact⟨m+1,by go_num,P5,fun x hx=>(Nat.lt_succ_iff_lt_or_eq.1 hx).elim (HE.out x) fun e=>by rw[e,HU.out];omega,trivial⟩
    case measure=>simp[intOf];omega
  ·obtain rfl:m=nk:=by omega
   have Vg:Hid (ks.all (fun k=>decide (k.size<=1000000000))=true):=by
    show _=_
    rw[List.all_eq_true];intro x hx;obtain⟨y,hy,rfl⟩:=List.getElem_of_mem hx;have:=HE.out y (by rw[<-kG.out];exact hy);rw[Fg hy]at this;exact decide_eq_true (by omega)
   go_wp2
   go_loopw [1,8] (fun u v w2=>∃(m:Nat) (r:Int),v=.int .i64 m/\u=.int .i64 r/\m<=nl/\r<=n - 1/\-1<=r/\Hid (0<=r->(l.take m).all (szJ d)=true)/\Below wr.heap.size wr w2) (fun _ v _=>nl - (intOf v).toNat)
   case atStart=>exact⟨0,n - 1,rfl,rfl,Nat.zero_le _,by omega,by omega,fun _=>rfl,Below.refl _ _⟩
   case round=>
    obtain⟨m',r,rfl,rfl,hm',hrn,qi,HT,aY⟩:=hrel;have a4:=Xw.out wr aY 4 _ rfl
    by_cases AX:m'<nl
    ·have pK:(m':Int)<(nl:Int):=by omega
     by_cases hr:0<=r
     ·have o8:m'<l.length:=by rw[yX.out];exact AX
      have Uk:Hid (m'<l.length):=o8;obtain⟨lb,lo,cs,tO,XC,bC,iL⟩:=isJs.at l 0 m' hs o8;subst tO;obtain⟨x0,x1,x2,p3,n3,c3,p4,n4,c4,rfl⟩:=dw iL;have tK:=(aY.block lb (by have:=hO _ XC;omega)).trans (bM.block lb (hO _ XC));have cc:∀m v, [Value.int .i64 x0,.int .i64 x1,.string x2,.slice p3 n3 c3,.slice p4 n4 c4][m]?=some v->wr.cell? ⟨lb,lo+m'*5+m,none⟩=some v:=fun m v h=>by
       have:=bC m v h;rw[Nat.zero_add]at this;exact(World.cell?_of_block (a:=⟨lb,lo+m'*5+m,none⟩) tK).trans this
      have y0:wr.cell? ⟨lb,lo+m'*5,none⟩=some (.int .i64 x0):=cc 0 _ rfl;have y1:=cc 1 _ rfl;have y2:=cc 2 _ rfl;have y3:=cc 3 _ rfl;have y4:=cc 4 _ rfl;have ko:=gy bM (by omega) aY;have hV:=V wr O (l.getD m' J.zero) x0 x1 (deep - 1) r x2 p3 p4 n3 c3 n4 c4 (fun b hb=>Nat.lt_of_lt_of_le (hO b hb) ko.size) HD.out HDL.out hr (by omega) (iL.carry fun b hb=>⟨hb,ko.block b (hO b hb)⟩);clear cc bC o8 iL tK;go_wp2_with(go_at_call 23;refine hV.mono ?_;rintro x w4 ⟨⟨r4,rfl,zO,hr5,hr6⟩,dF⟩);go_roundw
      case rel=>exact⟨m'+1,r4,by go_num,rfl,AX,by omega,hr5,fun h=>by rw[zq Uk.out,HT.out hr,hr6 h];rfl,gy aY aY.size dF⟩
      case measure=>simp[intOf];omega
     ·go_wp2;go_ret;refine⟨⟨r,rfl,by omega,qi,fun h=>absurd h (by omega)⟩,gy bM (by omega) aY⟩
    ·obtain rfl:m'=nl:=by omega
     go_wp2;go_ret;refine⟨⟨r,rfl,by omega,qi,fun h=> ?_⟩,gy bM (by omega) aY⟩;have ht:=HT.out h;rw[List.take_of_length_le (by rw[yX.out];omega)]at ht;unfold szJ;rw[Vg.out,ht,kG.out,yX.out,decide_eq_true (show t.size<=1000000000 by omega),decide_eq_true (show m<=100000 by omega),decide_eq_true (show m'<=100000 by omega)]
     rfl
theorem Tj:∀d,DY d
 | 0=>LW
 | d+1=>LX (Tj d)
open Go.RowKit Go.Maps
structure Au(e:Ev):Prop where
 room:e.room.size<=140737488355328
 aR:e.aR.size<=140737488355328
 ah:e.ah.size<=140737488355328
 key:e.key.size<=140737488355328
 hash:e.hash.size<=140737488355328
 sigs:∀x∈e.sigs,x.1.size<=140737488355328/\x.2.size<=140737488355328
structure DZ(e:Ev):Prop where
 texts:e.room.size+e.aR.size+e.ah.size+e.key.size+e.hash.size<=2000
 prev:e.prev.length<=30
 MV:∀x∈e.prev,x.size<=100
 aD:e.aD.length<=30
 MW:∀x∈e.aD,x.size<=100
 sigs:e.sigs.length<=30
 FD:∀x∈e.sigs,x.1.size+x.2.size<=200
 cont:szJ 20 e.content=true
theorem DZ.sz{e:Ev}(h:DZ e):yC e:=by
 have t:=h.texts;exact⟨by omega,by omega,by omega,by omega,by omega,ky 12 20 _ (by decide) h.cont,Nat.le_trans h.prev (by decide),fun x hx=>Nat.le_trans (h.MV x hx) (by decide),Nat.le_trans h.aD (by decide),fun x hx=>Nat.le_trans (h.MW x hx) (by decide),Nat.le_trans h.sigs (by decide),fun x hx=>by have:=h.FD x hx;omega⟩
def zfR(w w':World)(e:Ev)(x:Ending):Prop:=(∃b:Bool,x=.returned (.bool b)/\(b=true->DZ e))/\Below w.heap.size w w'
theorem GM{l:List ByteArray}{B:Nat}(h:∀x,x<l.length->(l.getD x aT).size<=B):∀x∈l,x.size<=B:=fun x hx=>by
 obtain⟨y,hy,rfl⟩:=List.getElem_of_mem hx;have:=h y hy
 rwa [Fg hy]at this
theorem GN{O:Nat->Prop}(e:Ev)(p:Pt)(w:World)(hE:ji O w e p)(hO:∀k,O k->k<w.heap.size)(hl:Au e):
    Calls Tryz.prog 9 #[eF e p] w fun x w'=>zfR w w' e x:=by
 obtain⟨room,aR,ah,st,key,⟨k,i,t,ks,l⟩,prev,aD,depth,ts,hash,sigs⟩:=e;obtain⟨pk,ck,pl,cl,pp,cp,pa,ca,ps,cs⟩:=p;obtain⟨z0,z1,z2,z4,z14,z15⟩:=hl;obtain⟨hc,hp,ha,hs⟩:=hE;simp only at z0 z1 z2 z4 z14 z15 hc hp ha hs;unfold AP at hc;simp only[J.kind,J.int,J.text,J.keys,J.list]at hc;simp only[eF,aA,J.kind,J.int,J.text,J.keys,J.list];obtain⟨np,hnp⟩:∃n,prev.length=n:=⟨_,rfl⟩;obtain⟨na,Ep⟩:∃n,aD.length=n:=⟨_,rfl⟩;obtain⟨ns,hns⟩:∃n,sigs.length=n:=⟨_,rfl⟩;have HNP:Hid (prev.length=np):=hnp;have Jy:Hid (aD.length=na):=Ep;have HNS:Hid (sigs.length=ns):=hns;have hcp:=hp.1;have y_:=ha.1;have Io:=hs.1;rw[hnp]at hcp ⊢;rw[Ep]at y_ ⊢;rw[hns]at Io ⊢;clear hnp Ep hns;obtain⟨WB,mZ⟩:∃WB,WB=w.alloc (.cells #[.string room,.string aR,.string ah,.bool st,.string key,.int .i64 k,.int .i64 i,.string t,.slice pk ks.length ck,.slice pl l.length cl,.slice pp np cp,.slice pa na ca,.int .i64 depth,.int .i64 ts,.string hash,.slice ps ns cs] 28):=⟨_,rfl⟩;have dM:Below w.heap.size w WB:=by rw[mZ];exact(Below.refl _ _).alloc (Nat.le_refl _) _
 have pE:WB.heap[w.heap.size]?=some (.cells #[.string room,.string aR,.string ah,.bool st,.string key,.int .i64 k,.int .i64 i,.string t,.slice pk ks.length ck,.slice pl l.length cl,.slice pp np cp,.slice pa na ca,.int .i64 depth,.int .i64 ts,.string hash,.slice ps ns cs] 28 (0,0)):=by rw[mZ];exact heap_alloc_new _ _
 have JK:Hid (∀W',Below w.heap.size w W'->∀x:Ending,x=.returned (.bool false)->zfR w W' ⟨room,aR,ah,st,key,⟨k,i,t,ks,l⟩,prev,aD,depth,ts,hash,sigs⟩ x):=fun W' h x hx=>⟨⟨false,hx,fun h=>by cases h⟩,h⟩
 by_cases h1:(2000:Int)<(room.size:Int)+aR.size+ah.size+key.size+hash.size
 ·go_enter Tryz.func9,Tryz.ntmps9;go_wp2;go_ret;exact JK.out _ (mZ ▸ dM) _ rfl
 by_cases h2:(30:Int)<np
 ·go_enter Tryz.func9,Tryz.ntmps9;go_wp2;go_ret;exact JK.out _ (mZ ▸ dM) _ rfl
 by_cases h3:(30:Int)<na
 ·go_enter Tryz.func9,Tryz.ntmps9;go_wp2;go_ret;exact JK.out _ (mZ ▸ dM) _ rfl
 by_cases h4:(30:Int)<ns
 ·go_enter Tryz.func9,Tryz.ntmps9;go_wp2;go_ret;exact JK.out _ (mZ ▸ dM) _ rfl
 have H1:Hid (room.size+aR.size+ah.size+key.size+hash.size<=2000):=by show _<=_;omega
 have HP:Hid (∀j,j<np->∃a,pp=some a/\WB.cell? (a.add j)=some (.string (prev.getD j aT))):=fun j hj=>by
  obtain⟨a,e,qR,y_⟩:=hp.2 j (by rw[HNP.out];exact hj);exact⟨a,e,(World.cell?_of_block (by rw[bK];exact dM.block _ (hO _ qR))).trans y_⟩
 have HA:Hid (∀j,j<na->∃a,pa=some a/\WB.cell? (a.add j)=some (.string (aD.getD j aT))):=fun j hj=>by
  obtain⟨a,e,qR,y_⟩:=ha.2 j (by rw[Jy.out];exact hj);exact⟨a,e,(World.cell?_of_block (by rw[bK];exact dM.block _ (hO _ qR))).trans y_⟩
 have HSG:Hid (∀j,j<ns->∃b o,ps=some ⟨b,o,none⟩/\WB.cell? ⟨b,o+j*2,none⟩=some (.string (sigs.getD j (aT,aT)).1)/\WB.cell? ⟨b,o+j*2+1,none⟩=some (.string (sigs.getD j (aT,aT)).2)):=fun j hj=>by
  obtain⟨b,o,e,lY,h1,h2⟩:=hs.2 j (by rw[HNS.out];exact hj);exact⟨b,o,e,(World.cell?_of_block (a:=⟨b,o+j*2,none⟩) (dM.block _ (hO _ lY))).trans h1,(World.cell?_of_block (a:=⟨b,o+j*2+1,none⟩) (dM.block _ (hO _ lY))).trans h2⟩
 have HL:Hid (∀n,Calls Tryz.prog 23 #[.agg #[.int .i64 k,.int .i64 i,.string t,.slice pk ks.length ck,.slice pl l.length cl],.int .i64 300,.int .i64 20] (WB.drewN n) fun x w'=>(∃r:Int,x=.returned (.int .i64 r)/\r<=300/\-1<=r/\(0<=r->szJ 20 (.mk k i t ks l)=true))/\Below (WB.drewN n).heap.size (WB.drewN n) w'):=fun n=>
  Tj 20 (WB.drewN n) O (.mk k i t ks l) k i 20 300 t pk pl ks.length ck l.length cl (fun b hb=>Nat.lt_of_lt_of_le (hO b hb) (av dM (Id.below_drewN WB n)).size) rfl (by decide) (by decide) (by decide) (hc.carry fun b hb=>⟨hb,(av dM (Id.below_drewN WB n)).block b (hO b hb)⟩)
 have bX:Hid (Below w.heap.size w WB):=dM;have HZS:Hid (∀x∈sigs,x.1.size<=140737488355328/\x.2.size<=140737488355328):=z15;clear hc hp ha hs hO dM z15;have q0:=nW pE 0 _ rfl;have q1:=nW pE 1 _ rfl;have q2:=nW pE 2 _ rfl;have q4:=nW pE 4 _ rfl;have q14:=nW pE 14 _ rfl;have vH:=nW pE 10 _ rfl;have q11:=nW pE 11 _ rfl;have q15:=nW pE 15 _ rfl;have q5:=nW pE 5 _ rfl;have q6:=nW pE 6 _ rfl;have q7:=nW pE 7 _ rfl;have q8:=nW pE 8 _ rfl;have q9:=nW pE 9 _ rfl;go_enter Tryz.func9,Tryz.ntmps9;go_wp2;rw[<-mZ];clear mZ pE
 go_loopw [3] (fun v wr=>∃m:Nat,v=.int .i64 m/\m<=np/\Hid (∀x,x<m->(prev.getD x aT).size<=100)/\wr=WB) (fun v _=>np - (intOf v).toNat)
 case atStart=>exact⟨0,rfl,Nat.zero_le _,fun m hm=>absurd hm (by omega),rfl⟩
 case round=>
  obtain⟨m,rfl,hm,HX,rfl⟩:=hrel
  by_cases bQ:m<np
  ·have pK:(m:Int)<(np:Int):=by omega
   obtain⟨a,rfl,zcP⟩:=HP.out m bQ;obtain⟨u,hu⟩:∃u,prev.getD m aT=u:=⟨_,rfl⟩;have HU:Hid (prev.getD m aT=u):=hu;rw[hu]at zcP;clear hu
   by_cases QP:(100:Int)<u.size
   ·go_wp2;go_ret;exact JK.out _ bX.out _ rfl
   ·go_wp2;go_roundw
    case rel=>exact⟨m+1,by go_num,bQ,fun x hx=>(Nat.lt_succ_iff_lt_or_eq.1 hx).elim (HX.out x) fun e=>by rw[e,HU.out];omega,trivial⟩
    case measure=>simp[intOf];omega
  ·obtain rfl:m=np:=by omega
   have HXP:Hid (∀x∈prev,x.size<=100):=GM (by rw[HNP.out];exact HX.out);clear HX bQ hm;go_wp2
   go_loopw [4] (fun v wr2=>∃n:Nat,v=.int .i64 n/\n<=na/\Hid (∀x,x<n->(aD.getD x aT).size<=100)/\wr2=wr) (fun v _=>na - (intOf v).toNat)
   case atStart=>exact⟨0,rfl,Nat.zero_le _,fun m hm=>absurd hm (by omega),rfl⟩
   case round=>
    obtain⟨n,rfl,hn,HX,rfl⟩:=hrel
    by_cases bQ:n<na
    ·have pK:(n:Int)<(na:Int):=by omega
     obtain⟨a,rfl,zcP⟩:=HA.out n bQ;obtain⟨u,hu⟩:∃u,aD.getD n aT=u:=⟨_,rfl⟩;have HU:Hid (aD.getD n aT=u):=hu;rw[hu]at zcP;clear hu
     by_cases QP:(100:Int)<u.size
     ·go_wp2;go_ret;exact JK.out _ bX.out _ rfl
     ·go_wp2;go_roundw
      case rel=>exact⟨n+1,by go_num,bQ,fun x hx=>(Nat.lt_succ_iff_lt_or_eq.1 hx).elim (HX.out x) fun e=>by rw[e,HU.out];omega,trivial⟩
      case measure=>simp[intOf];omega
    ·obtain rfl:n=na:=by omega
     have HXA:Hid (∀x∈aD,x.size<=100):=GM (by rw[Jy.out];exact HX.out);clear HX bQ hn;go_wp2
     go_loopw [5] (fun v wr3=>∃(h d:Nat),v=.int .i64 h/\h<=ns/\Hid (∀x,x<h->(sigs.getD x (aT,aT)).1.size+(sigs.getD x (aT,aT)).2.size<=200)/\wr3=wr.drewN d) (fun v _=>ns - (intOf v).toNat)
     case atStart=>exact⟨0,0,rfl,Nat.zero_le _,fun m hm=>absurd hm (by omega),rfl⟩
     case round=>
      obtain⟨h,d,rfl,hh,HX,rfl⟩:=hrel
      by_cases bQ:h<ns
      ·have pK:(h:Int)<(ns:Int):=by omega
       obtain⟨b,o,rfl,x_,nI⟩:=HSG.out h bQ;have Dr:sigs.getD h (aT,aT)∈sigs:=by
        rw[List.getD_eq_getElem?_getD,List.getElem?_eq_getElem (by rw[HNS.out];exact bQ)];exact List.getElem_mem _
       have hz:=HZS.out _ Dr;obtain⟨uv,XB⟩:∃u,sigs.getD h (aT,aT)=u:=⟨_,rfl⟩;have HU:Hid (sigs.getD h (aT,aT)=uv):=XB;rw[XB]at x_ nI hz;clear XB Dr;obtain⟨u,v⟩:=uv;obtain⟨y1,y2⟩:=hz;simp only at x_ nI y1 y2
       by_cases QP:(200:Int)<(u.size:Int)+v.size
       ·go_wp2;refine wp_region_quiet_lit (by kernel_rfl) (by kernel_rfl) ?_
        repeat (any_goals (first| go_big_quiet_step (fail)| quiet_step (fail)))
        refine wpQuiet_nil ?_;intro _ hw;obtain⟨nq,hw⟩:=hw;subst hw;go_wp2;go_ret;exact JK.out _ (av bX.out (by simpa [World.drewN_drewN]using Id.below_drewN _ _)) _ rfl
       ·go_wp2;refine wp_region_quiet_lit (by kernel_rfl) (by kernel_rfl) ?_
        repeat (any_goals (first| go_big_quiet_step (fail)| quiet_step (fail)))
        refine wpQuiet_nil ?_;intro _ hw;obtain⟨nq,hw⟩:=hw;subst hw;go_wp2;go_roundw
        case rel=>exact⟨h+1,_,by go_num,bQ,fun x hx=>(Nat.lt_succ_iff_lt_or_eq.1 hx).elim (HX.out x) fun e=>by rw[e,HU.out];show u.size+v.size<=200;omega,rfl⟩
        case measure=>simp[intOf];omega
      ·obtain rfl:h=ns:=by omega
       have hL:=HL.out d;go_wp2_with(go_at_call 23;refine hL.mono ?_;rintro x w4 ⟨⟨r4,rfl,zO,hr5,hr6⟩,dF⟩);go_ret;refine⟨⟨_,rfl,fun hh=> ?_⟩,av bX.out (av (Id.below_drewN _ _) dF)⟩;refine⟨H1.out,by show prev.length<=30;rw[HNP.out];omega,HXP.out,by show aD.length<=30;rw[Jy.out];omega,HXA.out,by show sigs.length<=30;rw[HNS.out];omega,fun x hx=> ?_,hr6 (of_decide_eq_true hh)⟩;obtain⟨y,hy,rfl⟩:=List.getElem_of_mem hx;have:=HX.out y (by rw[<-HNS.out];exact hy);rw[List.getD_eq_getElem?_getD,List.getElem?_eq_getElem hy]at this;exact this
open Go.RowKit
structure PK(l:List Kn):Prop where
 len:l.length<=20
 names:∀k∈l,k.1.size<=100
 evs:∀k∈l,DZ k.2
theorem PK.sz{l:List Kn}(h:PK l):FE l:=⟨Nat.le_trans h.len (by decide),fun k hk=>ky 13 20 _ (by decide) (h.evs k hk).cont,fun k hk=>by have:=(h.evs k hk).texts;omega⟩
def Tk(w w':World)(l:List Kn)(x:Ending):Prop:=(∃b:Bool,x=.returned (.bool b)/\(b=true->PK l))/\Below w.heap.size w w'
theorem zfS{l:List Kn}{P:Kn->Prop}(h:∀x,x<l.length->P (l.getD x zK)):∀k∈l,P k:=fun k hk=>by
 obtain⟨y,hy,rfl⟩:=List.getElem_of_mem hk;have:=h y hy
 rwa [List.getD_eq_getElem?_getD,List.getElem?_eq_getElem hy]at this
theorem PM{O:Nat->Prop}{w:World}{p:Option Addr}{c:Nat}{l:List Kn}(h:pM O w p c l)(hO:∀b,O b->b<w.heap.size)(hB:∀k∈l,Au k.2):
    Calls Tryz.prog 10 #[.slice p l.length c] w fun e w'=>Tk w w' l e:=by
 obtain⟨n,hn⟩:∃n,l.length=n:=⟨_,rfl⟩;have HN:Hid (l.length=n):=hn;have JK:Hid (∀W',Below w.heap.size w W'->Tk w W' l (.returned (.bool false))):=fun W' h=>⟨⟨false,rfl,fun h=>by cases h⟩,h⟩;have hc:=h.1;rw[hn]at hc ⊢;clear hn
 by_cases h20:(20:Int)<n
 ·go_enter Tryz.func10,Tryz.ntmps10;go_wp2;go_ret;exact JK.out _ (Below.refl _ _)
 have HR:Hid (∀k,k<n->∃b o q,p=some ⟨b,o,none⟩/\b<w.heap.size/\(∀X,Below w.heap.size w X->X.cell? ⟨b,o+k*17,none⟩=some (.string (l.getD k zK).1)/\X.rangeAt b (o+k*17+1) (aA (l.getD k zK).2 q)/\ji (· <w.heap.size) X (l.getD k zK).2 q)):=fun k hk=>by
  obtain⟨b,o,q,hp,lY,bC,hE⟩:=h.2 k (by rw[HN.out];exact hk);refine⟨b,o,q,hp,hO b lY,fun X hX=>⟨(hX.cell (p:=⟨b,o+k*17,none⟩) (hO b lY)).trans (bC 0 _ rfl),fun j v hv=> ?_,hE.carry fun y hy=>⟨hO y hy,hX.block y (hO y hy)⟩⟩⟩;rw[show o+k*17+1+j=o+k*17+(j+1) by omega];exact(hX.cell (p:=⟨b,o+k*17+(j+1),none⟩) (hO b lY)).trans (bC (j+1) v hv)
 have HBG:Hid (∀k,k<n->Au (l.getD k zK).2):=fun k hk=>hB _ (Rz (by rw[HN.out];exact hk));clear h hB;go_enter Tryz.func10,Tryz.ntmps10;go_wp2
 go_loopw [3] (fun i wx=>∃k:Nat,i=.int .i64 k/\k<=n/\Hid (∀x,x<k->(l.getD x zK).1.size<=100/\DZ (l.getD x zK).2)/\Below w.heap.size w wx) (fun i _=>n - (intOf i).toNat)
 case atStart=>exact⟨0,rfl,Nat.zero_le _,fun m hm=>absurd hm (by omega),Below.refl _ _⟩
 case round=>
  obtain⟨k,rfl,hk,HF,dM⟩:=hrel
  by_cases bQ:k<n
  ·have TS:(k:Int)<(n:Int):=by omega
   obtain⟨b,o,q,rfl,Oh,hX⟩:=HR.out k bQ;obtain⟨PY,hrg,hE⟩:=hX wr dM;have CB:=(show Hid _ from hrg);have LY:=GN (l.getD k zK).2 q wr hE (fun y hy=>Nat.lt_of_lt_of_le hy dM.size) (HBG.out k bQ);obtain⟨x,hx⟩:∃x,l.getD k zK=x:=⟨_,rfl⟩;have HU:Hid (l.getD k zK=x):=hx;rw[hx]at PY LY CB;clear hx hrg hE hX;unfold eF at LY
   by_cases hs:(100:Int)<x.1.size
   ·go_wp2;go_ret;exact JK.out _ dM
   ·have Y7:x.1.size<=100:=by omega
    go_wp2_with(first
     | (refine aQ (by kernel_rfl) 28 _ rfl b (o+k*17+1) rfl (aA x.2 q) (run_loadAt_mid _ b (o+k*17+1) 28 (aA x.2 q) _ CB.out Tryz.underlying28 rfl dX) ?_)
     | (go_at_call 9;refine LY.mono ?_;rintro e w1 ⟨⟨bo,rfl,hbo⟩,aL⟩;cases bo))
    ·go_ret;exact JK.out _ (ag dM aL)
    ·go_roundw
     case rel=>exact⟨k+1,by go_num,bQ,fun y hy=>(Nat.lt_succ_iff_lt_or_eq.1 hy).elim (HF.out y) fun e=>by rw[e,HU.out];exact⟨Y7,hbo (by trivial)⟩,ag dM aL⟩
     case measure=>simp[intOf];omega
  ·obtain rfl:k=n:=by omega
   go_wp2;go_ret;refine⟨⟨true,rfl,fun _=>⟨by rw[HN.out];omega, ?_, ?_⟩⟩,dM⟩
   ·exact zfS (P:=fun k=>k.1.size<=100) (by rw[HN.out];exact fun x hx=>(HF.out x hx).1)
   ·exact zfS (P:=fun k=>DZ k.2) (by rw[HN.out];exact fun x hx=>(HF.out x hx).2)
end Go.Proofs.YtldegjjaknelgaaGreatDoor

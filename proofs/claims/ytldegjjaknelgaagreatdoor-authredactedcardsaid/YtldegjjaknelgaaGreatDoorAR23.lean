/- A part. -/
import Derived.Test.YtldegjjaknelgaaGreatDoorAR22
import Derived.Test.YtldegjjaknelgaaGreatDoorChecked
import Derived.ProofKit
import Derived.SizedLaws
import Derived.SliceStrings
set_option maxRecDepth 100000
set_option maxHeartbeats 64000000
namespace Go.Proofs.YtldegjjaknelgaaGreatDoor
open Go.RowKit
theorem QN{e:Ev}{l:List Kn}{H:Hr}(h:openT e l=some H):H.e=e/\H.st=l:=by
 unfold openT at h
 split at h
 ·cases h
 ·split at h
  ·split at h
   ·cases h
   ·cases h
    exact⟨rfl,rfl⟩
  ·cases h
theorem zaz:(⟨#[64]⟩:ByteArray).toList= [64]:=by rw[Lib.toList_data]
theorem Cv(s:ByteArray)(w:World):Calls Tryz.prog 92 #[.string s,.string ⟨#[64]⟩] w fun x w'=>x=.returned (.bool (UQ s))/\Below w.heap.size w w':=by
 have HT:Hid (UQ s=(decide (1<=s.size)&&eX (s.extract 0 1) ⟨#[64]⟩)):=rfl;have e64:(⟨#[64]⟩:ByteArray).size=1:=rfl
 cases h1:decide (1<=s.size)with
 | false=>
  have h2:¬1<=s.size:=by simpa using h1
  have h3:¬(1:Int)<=s.size:=by omega
  go_enter Tryz.func92,Tryz.ntmps92;go_wp2;go_ret;exact⟨by rw[HT.out,h1];rfl,Below.refl _ _⟩
 | true=>
  have h2:1<=s.size:=by simpa using h1
  have h3:(1:Int)<=s.size:=by omega
  go_enter Tryz.func92,Tryz.ntmps92;go_wp2;go_ret;exact⟨by rw[HT.out,h1];unfold eX;rw[zaz];rfl,Below.refl _ _⟩
theorem vB(s:ByteArray)(w:World):Calls Tryz.prog 58 #[.string s,.string ⟨#[64]⟩] w fun x w'=>x=.returned (.bool (UQ s))/\Below w.heap.size w w':=by
 have hP:=Cv s w;generalize UQ s=b at hP ⊢;go_enter Tryz.func58,Tryz.ntmps58;go_wp2_with(go_at_call 92;refine hP.mono ?_;rintro x w1 ⟨rfl,aP⟩);go_ret;exact⟨rfl,aP⟩
theorem TM{O:Nat->Prop}{w:World}{e:Ev}{p:Pt}{ps:Option Addr}{cs:Nat}{l:List Kn}(h:iL O w e p)(ny:rZ O w ps cs l)(hO:∀b,O b->b<w.heap.size)(hz:xe e)(hk:IJ l):
    Calls Tryz.prog 27 #[dZ e p,.slice ps l.length cs] w fun x w'=>x=fO (askT e l)/\Below w.heap.size w w':=by
 obtain⟨W0,fw⟩:∃W0,W0=w.alloc (.cells (aB e p).toArray 28):=⟨_,rfl⟩;have dS:Below w.heap.size w W0:=by rw[fw];exact(Below.refl _ _).alloc (Nat.le_refl _) _
 have r9:W0.heap[w.heap.size]?=some (.cells (aB e p).toArray 28 (0,0)):=by rw[fw];exact bR _
 have hV:=kC h hO dS r9;have HV:Hid (∀X,Below W0.heap.size W0 X->kZ X w.heap.size e p):=fun X hX=>hV.below hX;have HA:Hid (askT e l=if eX e.aK bC then lH e else match openT e l with| none=>false| some h=>h.ask):=rfl;have hCr:=FC hV.ev (fun _ h=>h) hz;have hOp:=open_any hV.ev (ny.carry fun k hk=>⟨Nat.lt_of_lt_of_le (hO k hk) dS.size,dS.block k (hO k hk)⟩) (fun _ h=>h) hk;have AJ:Hid (∀H,openT e l=some H->NV H/\H.e=e):=fun H hH=>⟨TJ hz hk hH,(QN hH).1⟩;have C7:=(show Hid _ from hV.iW);have et:=hV.aK;clear h ny hV r9 hk hz;unfold dZ at hCr hOp ⊢;unfold eX at HA;rw[iG]at HA
 cases hc:(e.aK.toList== [109,46,114,111,111,109,46,99,114,101,97,116,101])with
 | true=>
  have HT:Hid (askT e l=lH e):=by show _=_;rw[HA.out,if_pos hc]
  clear HA hOp AJ;generalize lH e=bc at hCr HT;go_enter Tryz.func27,Tryz.ntmps27
  go_upto_region 1 with fail
  rw[<-fw];clear fw;go_wp2_with(first
   | (refine wpList_load_mid rfl 28 _ rfl w.heap.size 0 rfl _ _ C7.out Tryz.underlying28 rfl eQ ?_)
   | (go_at_call 51;refine hCr.mono ?_;rintro x w1 ⟨rfl,aP⟩)
   | (go_at_call 50;refine(dE _ _).mono ?_;rintro e wn ⟨rfl,rfl⟩))
  exact⟨rfl,by rw[HT.out],ah dS aP⟩
 | false=>
  have HT:Hid (askT e l=match openT e l with| none=>false| some h=>h.ask):=by show _=_;rw[HA.out,if_neg (by rw[hc];decide)]
  clear HA hCr;generalize openT e l=oh at hOp HT AJ
  cases oh with
  | none=>
   have TN:Calls Tryz.prog 52 #[.agg (aB e p).toArray,.slice ps l.length cs] W0 fun x w'=>x=fO false/\Below W0.heap.size W0 w':=hOp;clear hOp;go_enter Tryz.func27,Tryz.ntmps27
   go_upto_region 1 with fail
   rw[<-fw];clear fw;go_wp2_with(first
    | (refine wpList_load_mid rfl 28 _ rfl w.heap.size 0 rfl _ _ C7.out Tryz.underlying28 rfl eQ ?_)
    | (go_at_call 52;refine TN.mono ?_;rintro x w1 ⟨rfl,aP⟩))
   exact⟨rfl,by rw[HT.out],ah dS aP⟩
  | some H=>
   have TN:Calls Tryz.prog 52 #[.agg (aB e p).toArray,.slice ps l.length cs] W0 fun x w'=>(∃hb P,x=.returned (.pointer (some ⟨hb,0,none⟩))/\iK w' hb H P)/\Below W0.heap.size W0 w':=hOp;obtain⟨fq,he⟩:=AJ.out H rfl;clear hOp AJ;subst he
   replace HT:Hid (askT H.e l=if eX H.e.aK aU then H.iU else H.PU):=HT.out
   unfold eX at HT;rw[iF]at HT;go_enter Tryz.func27,Tryz.ntmps27
   go_upto_region 1 with fail
   rw[<-fw];clear fw
   go_upto_region 4 with(first
    | (refine wpList_load_mid rfl 28 _ rfl w.heap.size 0 rfl _ _ C7.out Tryz.underlying28 rfl eQ ?_)
    | (go_at_call 52;refine TN.mono ?_;rintro x w1 ⟨⟨hb,P,rfl,hI⟩,aP⟩))
   have KC:Hid (∀X,Below w1.heap.size w1 X->iK X hb H P):=fun X hX=>hI.below hX;have HV1:Hid (∀X,Below w1.heap.size w1 X->kZ X w.heap.size H.e p):=fun X hX=>HV.out X (ah aP hX);have UL:Hid (∀X,Below w1.heap.size w1 X->Below w.heap.size w X):=fun X hX=>ah dS (ah aP hX);have TL:=rF hI fq;have hMb:=JC hI fq;clear C7 et hI HV aP dS TN;have et:=(HV1.out w1 (Below.refl _ _)).aK
   cases hm:(H.e.aK.toList== [109,46,114,111,111,109,46,109,101,109,98,101,114])with
   | true=>
    have tO:Hid (askT H.e l=H.iU):=by show _=_;rw[HT.out,if_pos hm]
    clear HT TL;generalize H.iU=bm at hMb tO;go_wp2_with(go_at_call 53;refine hMb.mono ?_;rintro x w2 ⟨rfl,aT⟩);exact⟨rfl,by rw[tO.out],UL.out _ aT⟩
   | false=>
    have tO:Hid (askT H.e l=(H.gD&&(decide (Ay H.l H.e.aK H.e.st<=H.s)&&(!((H.e.st&&UQ H.e.key)&& !H.own)&&(if(H.e.st&&eX H.e.aK bK)&&eX H.e.key ⟨#[]⟩then H.changes else true))))):=by show _=_;rw[HT.out,if_neg (by rw[hm];decide)];rfl
    unfold eX at tO;rw[kU,KL]at tO;clear HT hMb
    go_upto_region 6 with fail
    generalize H.gD=bj at TL tO
    cases bj with
    | false=>
     go_wp2_with(first| (go_at_call 55;refine TL.mono ?_;rintro x w2 ⟨rfl,aT⟩)| (go_at_call 54;refine(bB _ _).mono ?_;rintro e wn ⟨he,rfl⟩;replace he:e=_:=he;subst he));exact⟨rfl,by rw[tO.out];rfl,UL.out _ aT⟩
    | true=>
     go_upto_region 7 with(first| (go_at_call 55;refine TL.mono ?_;rintro x W ⟨rfl,aT⟩)| (go_at_call 54;refine(bB _ _).mono ?_;rintro e wn ⟨he,rfl⟩;replace he:e=_:=he;subst he))
     have HX:Hid (∀X,Below W.heap.size W X->iK X hb H P):=fun X hX=>KC.out X (ah aT hX);have HVX:Hid (∀X,Below W.heap.size W X->kZ X w.heap.size H.e p):=fun X hX=>HV1.out X (ah aT hX);have fQ:Hid (∀X,Below W.heap.size W X->Below w.heap.size w X):=fun X hX=>UL.out X (ah aT hX);have HS:Hid (∀X,Below W.heap.size W X->Calls Tryz.prog 56 #[.pointer (some ⟨hb,0,none⟩)] X fun e w'=>e=.returned (.int .i64 H.s)/\Below X.heap.size X w'):=fun X hX=>vw (HX.out X hX) fq;have HTy:Hid (∀X,Below W.heap.size W X->Calls Tryz.prog 57 #[jc H.l P.l,.string H.e.aK,.bool H.e.st] X fun e w'=>e=.returned (.int .i64 (Ay H.l H.e.aK H.e.st))/\Below X.heap.size X w'):=fun X hX=>Sq (HX.out X hX).lv (fun _ h=>h) fq.l H.e.aK H.e.st;have HOw:Hid (∀X,Below W.heap.size W X->Calls Tryz.prog 59 #[.pointer (some ⟨hb,0,none⟩)] X fun e w'=>e=.returned (.bool H.own)/\Below X.heap.size X w'):=fun X hX=>Cs (HX.out X hX);have HCh:Hid (∀X,Below W.heap.size W X->Calls Tryz.prog 60 #[.pointer (some ⟨hb,0,none⟩)] X fun e w'=>e=fO H.changes/\Below X.heap.size X w'):=fun X hX=>Nz (HX.out X hX) fq;clear KC HV1 UL TL aT et hm hc;refine aF (by kernel_rfl) (fun w'=>Below W.heap.size W w') ?_;change wpIn _ _ _ _ _ _ _ _ (World.drew _);have hD:Below W.heap.size W W.drew:=(Below.refl _ _).drew;generalize H.s=S at HS tO;generalize Ay H.l H.e.aK H.e.st=K0 at HTy tO
     cases h7:decide (S<K0)with
     | true=>
      refine aa (i:=0) (d:=some 23) rfl ?_;refine aa (i:=2) (d:=some 25) rfl ?_;refine aa (i:=3) (d:=some 26) rfl ?_;refine aa (i:=4) (d:=some 27) rfl ?_;refine ae (i:=5) (d:=(some 28)) (v:=(jc H.l P.l)) (a':= ?aqb5) rfl rfl (by kernel_rfl) (by kernel_rfl) (by kernel_rfl) (fun _ _ _ h=>h) (Or.inl ⟨by rfl, ?yqb5⟩) ?fqb5 ?_
      case yqb5=>exact fun wq hq=>b_ rfl rfl ((HX.out wq hq).Qv)
      case fqb5=>(go_frame;rfl)
      refine aa (i:=6) (d:=some 29) rfl ?_;refine az (i:=7) (d:=some 30) rfl (by(intro wq hq;have zf:=(HVX.out wq hq).aK;go_simp;first| done| with_reducible rfl)) ?_;refine aa (i:=8) (d:=some 31) rfl ?_;refine az (i:=9) (d:=some 32) rfl (by(intro wq hq;have zf:=(HVX.out wq hq).tu;go_simp;first| done| with_reducible rfl)) ?_;refine ak (i:=1) hD rfl ?_;intro K hK;go_simp;go_wp2_with(go_at_call 56;refine(HS.out _ hD).mono ?_;rintro e w4 ⟨rfl,h_⟩);have gJ:Below W.heap.size W w4:=ah hD h_;refine ak (i:=10) gJ rfl ?_;intro K hK;go_simp;go_wp2_with(go_at_call 57;refine(HTy.out _ gJ).mono ?_;rintro e w5 ⟨rfl,iJ⟩);have nt:Below W.heap.size W w5:=ah gJ iJ;refine aa (i:=11) (d:=some 34) rfl ?_;refine ak (i:=12) nt rfl ?_;intro K hK;go_simp;go_wp2_with(go_at_call 54;refine(bB _ _).mono ?_;rintro e w6 ⟨he,VV⟩;replace he:e=_:=he;subst he;have rJ:Below w5.heap.size w5 w6:=VV ▸ Below.refl _ _);exact⟨rfl,by rw[tO.out,show decide (K0<=S)=false from by simp at h7;simpa using h7];rfl,fQ.out _ (VV ▸ ah gJ iJ)⟩
     | false=>
      refine aa (i:=0) (d:=some 23) rfl ?_;refine aa (i:=2) (d:=some 25) rfl ?_;refine aa (i:=3) (d:=some 26) rfl ?_;refine aa (i:=4) (d:=some 27) rfl ?_;refine ae (i:=5) (d:=(some 28)) (v:=(jc H.l P.l)) (a':= ?aqa5) rfl rfl (by kernel_rfl) (by kernel_rfl) (by kernel_rfl) (fun _ _ _ h=>h) (Or.inl ⟨by rfl, ?yqa5⟩) ?fqa5 ?_
      case yqa5=>exact fun wq hq=>b_ rfl rfl ((HX.out wq hq).Qv)
      case fqa5=>(go_frame;rfl)
      refine aa (i:=6) (d:=some 29) rfl ?_;refine az (i:=7) (d:=some 30) rfl (by(intro wq hq;have zf:=(HVX.out wq hq).aK;go_simp;first| done| with_reducible rfl)) ?_;refine aa (i:=8) (d:=some 31) rfl ?_;refine az (i:=9) (d:=some 32) rfl (by(intro wq hq;have zf:=(HVX.out wq hq).tu;go_simp;first| done| with_reducible rfl)) ?_;refine ak (i:=1) hD rfl ?_;intro K hK;go_simp;go_wp2_with(go_at_call 56;refine(HS.out _ hD).mono ?_;rintro e w4 ⟨rfl,h_⟩);have gJ:Below W.heap.size W w4:=ah hD h_;refine ak (i:=10) gJ rfl ?_;intro K hK;go_simp;go_wp2_with(go_at_call 57;refine(HTy.out _ gJ).mono ?_;rintro e w5 ⟨rfl,iJ⟩);have nt:Below W.heap.size W w5:=ah gJ iJ;refine aa (i:=11) (d:=some 34) rfl ?_;refine ak (i:=12) nt rfl ?_;intro K hK;go_simp;go_wp2_with(go_at_call 54;refine(bB _ _).mono ?_;rintro e w6 ⟨he,VV⟩;replace he:e=_:=he;subst he;have rJ:Below w5.heap.size w5 w6:=VV ▸ Below.refl _ _);have lL:Below W.heap.size W w6:=ah nt rJ;refine aD lL (by kernel_rfl) ?_ _;have hC:=lL;have Gc:Hid (askT H.e l=(!((H.e.st&&UQ H.e.key)&& !H.own)&&(if(H.e.st&&(H.e.aK.toList== [109,46,114,111,111,109,46,112,111,119,101,114,95,108,101,118,101,108,115]))&&(H.e.key.toList== [])then H.changes else true))):=by show _=_;rw[tO.out,show decide (K0<=S)=true from by simp at h7;simpa using h7];rfl
      clear tO HS HTy
      go_upto_region 8 with fail
      clear hD gJ nt VV h_ iJ rJ;clear h7;have D5:=fun X hX=>HOw.out X (ah hC hX);have hVC:=HVX.out _ hC;have ck:=hVC.key;have Va:=hVC.tu;clear hVC
      cases h8:H.e.st with
      | false=>
       rw[h8]at Gc Va;go_wp2_with(first| (go_at_call 54;refine(bB _ _).mono ?_;rintro e wn ⟨he,rfl⟩;replace he:e=_:=he;subst he)| (go_at_call 50;refine(dE _ _).mono ?_;rintro e wn ⟨rfl,rfl⟩));exact⟨rfl,by rw[Gc.out];rfl,fQ.out _ hC⟩
      | true=>
       rw[h8]at Gc Va;generalize ha:UQ H.e.key=ba at Gc
       cases ba with
       | false=>
        go_upto_region 9 with(first| (go_at_call 58;refine(vB _ _).mono ?_;rintro x w7 ⟨Ls,uV⟩;rw[ha]at Ls;subst Ls)| (go_at_call 54;refine(bB _ _).mono ?_;rintro e wn ⟨he,rfl⟩;replace he:e=_:=he;subst he))
        have oz:=ah hC uV
        replace Gc:Hid (askT H.e l=(if(H.e.aK.toList== [109,46,114,111,111,109,46,112,111,119,101,114,95,108,101,118,101,108,115])&&(H.e.key.toList== [])then H.changes else true)):=by show _=_;rw[Gc.out];rfl
        clear ck Va D5;have hCh:=HCh.out w7 oz;have TP:=HVX.out w7 oz;have ct:=TP.aK;have ck:=TP.key;have Va:=TP.tu;clear TP;rw[h8]at Va
        cases h9:(H.e.aK.toList== [109,46,114,111,111,109,46,112,111,119,101,114,95,108,101,118,101,108,115])with
        | false=>
         go_wp2_with(go_at_call 50;refine(dE _ _).mono ?_;rintro e wn ⟨rfl,rfl⟩);exact⟨rfl,by rw[Gc.out,h9];rfl,fQ.out _ oz⟩
        | true=>
         cases TQ:(H.e.key.toList== [])with
         | false=>
          go_wp2_with(go_at_call 50;refine(dE _ _).mono ?_;rintro e wn ⟨rfl,rfl⟩);exact⟨rfl,by rw[Gc.out,h9,TQ];rfl,fQ.out _ oz⟩
         | true=>
          go_wp2_with(go_at_call 60;refine hCh.mono ?_;rintro x w9 ⟨rfl,ry⟩);exact⟨rfl,by rw[Gc.out,h9,TQ];rfl,fQ.out _ (ah oz ry)⟩
       | true=>
        generalize H.own=bo at D5 Gc HOw
        cases bo with
        | false=>
         go_wp2_with(first| (go_at_call 58;refine(vB _ _).mono ?_;rintro x w7 ⟨Ls,uV⟩;rw[ha]at Ls;subst Ls)| (go_at_call 59;refine(D5 _ uV).mono ?_;rintro x w8 ⟨rfl,wM⟩)| (go_at_call 54;refine(bB _ _).mono ?_;rintro e wn ⟨he,rfl⟩;replace he:e=_:=he;subst he));exact⟨rfl,by rw[Gc.out];rfl,fQ.out _ (ah (ah hC uV) wM)⟩
        | true=>
         go_upto_region 9 with(first| (go_at_call 58;refine(vB _ _).mono ?_;rintro x w6 ⟨Ls,uV⟩;rw[ha]at Ls;subst Ls)| (go_at_call 59;refine(D5 _ uV).mono ?_;rintro x w7 ⟨rfl,wM⟩)| (go_at_call 54;refine(bB _ _).mono ?_;rintro e wn ⟨he,rfl⟩;replace he:e=_:=he;subst he))
         have oz:=ah (ah hC uV) wM
         replace Gc:Hid (askT H.e l=(if(H.e.aK.toList== [109,46,114,111,111,109,46,112,111,119,101,114,95,108,101,118,101,108,115])&&(H.e.key.toList== [])then H.changes else true)):=by show _=_;rw[Gc.out];rfl
         clear ck Va D5;have hCh:=HCh.out w7 oz;have TP:=HVX.out w7 oz;have ct:=TP.aK;have ck:=TP.key;have Va:=TP.tu;clear TP;rw[h8]at Va
         cases h9:(H.e.aK.toList== [109,46,114,111,111,109,46,112,111,119,101,114,95,108,101,118,101,108,115])with
         | false=>
          go_wp2_with(go_at_call 50;refine(dE _ _).mono ?_;rintro e wn ⟨rfl,rfl⟩);exact⟨rfl,by rw[Gc.out,h9];rfl,fQ.out _ oz⟩
         | true=>
          cases TQ:(H.e.key.toList== [])with
          | false=>
           go_wp2_with(go_at_call 50;refine(dE _ _).mono ?_;rintro e wn ⟨rfl,rfl⟩);exact⟨rfl,by rw[Gc.out,h9,TQ];rfl,fQ.out _ oz⟩
          | true=>
           go_wp2_with(go_at_call 60;refine hCh.mono ?_;rintro x w9 ⟨rfl,ry⟩);exact⟨rfl,by rw[Gc.out,h9,TQ];rfl,fQ.out _ (ah oz ry)⟩
theorem nu{O:Nat->Prop}{w:World}{e:Ev}{p:Pt}{ps:Option Addr}{cs:Nat}{l:List Kn}(h:iL O w e p)(ny:rZ O w ps cs l)(hO:∀b,O b->b<w.heap.size)(hz:xe e)(hk:IJ l)(hT:uW w):
    Calls Tryz.prog 11 #[dZ e p,.slice ps l.length cs] w fun x w'=>x=.returned (.int .i64 (gQ e l))/\Below w.heap.size w w':=by
 refine(QM (b:=askT e l) h hO hz hT fun X hX=>TM (h.carry fun k hk=>⟨hk,hX.block k (hO k hk)⟩) (ny.carry fun k hk=>⟨hk,hX.block k (hO k hk)⟩) (fun k hk=>Nat.lt_of_lt_of_le (hO k hk) hX.size) hz hk).mono fun x w' hh=>⟨?_,hh.2⟩;rw[hh.1];unfold gQ
 rfl
open Go.ChangeShapes Go.WideShapes Go.ChangeAt Go.RowKit
theorem JE:Tryz.prog.cellsOf 25=5:=by kernel_rfl
theorem l8:Tryz.prog.cellsOf 9=1:=by kernel_rfl
theorem TR:Tryz.prog.cellsOf 3=1:=by kernel_rfl
theorem Cw:Tryz.prog.cellsOf 2=1:=by kernel_rfl
theorem Cx:Tryz.prog.cellsOf 22=1:=by kernel_rfl
theorem TS:Tryz.prog.cellsOf 23=1:=by kernel_rfl
theorem jE{w:World}{a:Addr}{v:Value}(h:w.cell? a=some v):a.block<w.heap.size:=by
 rcases Nat.lt_or_ge a.block w.heap.size with h'| h'
 ·exact h'
 ·simp[World.cell?,Array.getElem?_eq_none h']at h
theorem vC{w:World}{b o:Nat}{sp:Option Nat}{v:Value}(h:w.cell? ⟨b,o,sp⟩=some v):sp=none:=by
 cases sp with
 | none=>rfl
 | some x=>
  unfold World.cell? at h
  split at h<;>simp at h
theorem KM{O:Nat->Prop}{w:World}{b o:Nat}(hO:O b):∀(l:List J) (n:Nat),(∀i,i<l.length->∃cs,(∀m v,cs[m]?=some v->w.cell? ⟨b,o+(n+i)*5+m,none⟩=some v)/\isJ O w (l.getD i J.zero) cs)->isJs O w (some ⟨b,o,none⟩) n l
 | [],_,_=>by unfold isJs;trivial
 | j::r,n,h=>by
  unfold isJs;obtain⟨cs,h1,h2⟩:=h 0 (by simp);refine⟨⟨b,o,cs,rfl,hO,fun m v hv=> ?_,h2⟩,KM hO r (n+1) fun i hi=> ?_⟩
  ·have:=h1 m v hv;simpa using this
  ·obtain⟨cs,h1,h2⟩:=h (i+1) (by simp;omega);refine⟨cs,fun m v hv=> ?_,h2⟩;have:=h1 m v hv
   rwa [show n+(i+1)=n+1+i by omega]at this
theorem qa{α:Type}{z:α}{P:Nat->α->Prop}:∀n,(∀i,i<n->∃x,P i x)->∃l:List α,l.length=n/\∀i,i<n->P i (l.getD i z)
 | 0,_=>⟨[],rfl,fun i hi=>absurd hi (by omega)⟩
 | n+1,h=>by
  obtain⟨l,hl,hp⟩:=qa (z:=z) n fun i hi=>h i (by omega);obtain⟨x,hx⟩:=h n (by omega);refine⟨l++ [x],by simp[hl],fun i hi=> ?_⟩
  by_cases FW:i<n
  ·have:(l++ [x]).getD i z=l.getD i z:=by
     rw[List.getD_eq_getElem?_getD,List.getD_eq_getElem?_getD,List.getElem?_append_left (by omega)]
   rw[this];exact hp i FW
  ·obtain rfl:i=n:=by omega
   have:(l++ [x]).getD i z=x:=by
    rw[List.getD_eq_getElem?_getD,List.getElem?_append_right (by omega),hl];simp
   rw[this];exact hx
theorem Vb{H:Type}{enc:TypeId×Value->H}{W:World}:∀(dQ:Nat) (cs:List Value) (x:DataW H×List MemPlace),DataW.trod enc Tryz.prog W 0 (fun _=>true) true dQ 25 cs=some x->∃j,isJ (fun b=>b<W.heap.size) W j cs
 | 0,cs,x,h=>by
  obtain⟨_,n,hf,_⟩:=DataW.trod_struct Tryz.underlying25 h;omega
 | dQ+1,cs,x,h=>by
  obtain⟨xs,n,hf,_,hl,dP,xh⟩:=DataW.trod_struct Tryz.underlying25 h;obtain rfl:dQ=n:=by omega
  rw[JE]at hl
  match cs,hl with
  | [c0,c1,c2,c3,c4],_=>
   match xs,dP with
   | [y0,y1,y2,y3,y4],_=>
    have g0:DataW.trod enc Tryz.prog W 0 (fun _=>true) true dQ 3 (([c0,c1,c2,c3,c4].drop 0).take (Tryz.prog.cellsOf 3))=some y0:=xh 0 _ rfl;rw[TR]at g0;have f0:DataW.trod enc Tryz.prog W 0 (fun _=>true) true dQ 3 [c0]=some y0:=g0;have g1:DataW.trod enc Tryz.prog W 0 (fun _=>true) true dQ 2 (([c0,c1,c2,c3,c4].drop 1).take (Tryz.prog.cellsOf 2))=some y1:=xh 1 _ rfl;rw[Cw]at g1;have f1:DataW.trod enc Tryz.prog W 0 (fun _=>true) true dQ 2 [c1]=some y1:=g1;have g2:DataW.trod enc Tryz.prog W 0 (fun _=>true) true dQ 9 (([c0,c1,c2,c3,c4].drop 2).take (Tryz.prog.cellsOf 9))=some y2:=xh 2 _ rfl;rw[l8]at g2;have f2:DataW.trod enc Tryz.prog W 0 (fun _=>true) true dQ 9 [c2]=some y2:=g2;have g3:DataW.trod enc Tryz.prog W 0 (fun _=>true) true dQ 22 (([c0,c1,c2,c3,c4].drop 3).take (Tryz.prog.cellsOf 22))=some y3:=xh 3 _ rfl;rw[Cx]at g3;have f3:DataW.trod enc Tryz.prog W 0 (fun _=>true) true dQ 22 [c3]=some y3:=g3;have g4:DataW.trod enc Tryz.prog W 0 (fun _=>true) true dQ 23 (([c0,c1,c2,c3,c4].drop 4).take (Tryz.prog.cellsOf 23))=some y4:=xh 4 _ rfl;rw[TS]at g4;have f4:DataW.trod enc Tryz.prog W 0 (fun _=>true) true dQ 23 [c4]=some y4:=g4;obtain⟨k,e0,_,_⟩:=DataW.trod_int Tryz.underlying3 f0;obtain⟨i,e1,_,_⟩:=DataW.trod_int Tryz.underlying2 f1;obtain⟨t,e2,_,_⟩:=DataW.trod_string Tryz.underlying9 f2;simp only[List.cons.injEq,and_true]at e0 e1 e2;subst e0 e1 e2;have zdj:∃pk nk ck ks,c3=.slice pk nk ck/\nk=ks.length/\ig (fun b=>b<W.heap.size) W pk ck ks:=by
     rcases open_strings Tryz.underlying22 Tryz.underlying9 l8 f3 with⟨e3,_⟩| ⟨a,len,cap,ss,e3,_,CX,_,O3,_,fF,_⟩
     ·simp only[List.cons.injEq,and_true]at e3;exact⟨none,0,0, [],e3,rfl,ig.nil _ _⟩
     ·simp only[List.cons.injEq,and_true]at e3;simp only[if_true]at O3;refine⟨some a,len,cap,ss.take len,e3,by simp;omega,by simp;omega,fun j hj=>⟨a,rfl, ?_, ?_⟩⟩
      ·have Gh:j<len:=by simp at hj;omega
       have:=jE (fF j (by omega))
       rwa [bF]at this
      ·have Gh:j<len:=by simp at hj;omega
       rw[fF j (by omega)]
       congr 2
       rw[List.getD_eq_getElem?_getD,List.getD_eq_getElem?_getD,List.getElem?_take,if_pos Gh,List.getElem?_eq_getElem (by omega)]
       rfl
    have zdk:∃pl nl cl l,c4=.slice pl nl cl/\nl=l.length/\l.length<=cl/\isJs (fun b=>b<W.heap.size) W pl 0 l:=by
     rcases DataW.trod_slice Tryz.underlying23 f4 with⟨e4,_⟩| ⟨a,len,cap,elems,rest,n',Sl,e4,_,_,CX,_,hel,oP,_,_⟩
     ·simp only[List.cons.injEq,and_true]at e4;exact⟨none,0,0, [],e4,rfl,Nat.le_refl _,by unfold isJs;trivial⟩
     ·simp only[List.cons.injEq,and_true]at e4;rw[JE]at oP
      cases len with
      | zero=>exact⟨some a,0,cap, [],e4,rfl,Nat.zero_le _,by unfold isJs;trivial⟩
      | succ len=>
       obtain⟨b,o,sp⟩:=a;have Cy:∀i,i<len+1->∃cs,W.cells? 0 ((⟨b,o,sp⟩:Addr).add (i*5)) 5=some cs/\∃y,DataW.trod enc Tryz.prog W 0 (fun _=>true) true n' 25 cs=some y:=fun i hi=>by
        have h1:=oP i hi;rw[List.getElem?_eq_getElem (by omega),Option.bind_eq_some_iff]at h1;obtain⟨cs,h2,h3⟩:=h1;exact⟨cs,h2,_,h3⟩
       have Ld:sp=none:=by
        obtain⟨cs,h2,_⟩:=Cy 0 (by omega);have h3:=(World.cells?_some h2).2.2 0 (by omega);have h4:(((⟨b,o,sp⟩:Addr).add (0*5)).add 0)=⟨b,o,sp⟩:=by
         unfold Addr.add;simp
        rw[h4]at h3;have zdl:=(World.cells?_some h2).2.1;rw[List.getElem?_eq_getElem (by omega)]at h3;exact vC h3
       subst Ld;have vg:∀m,(⟨b,o,none⟩:Addr).add m=⟨b,o+m,none⟩:=fun m=>by unfold Addr.add;split<;>simp_all
       have FH:∀m m',((⟨b,o+m,none⟩:Addr)).add m'=⟨b,o+m+m',none⟩:=fun m m'=>by unfold Addr.add;split<;>simp_all
       have hb:b<W.heap.size:=by
        obtain⟨cs,h2,_⟩:=Cy 0 (by omega);have:=World.cells?_block h2 (by decide)
        rwa [vg]at this
       obtain⟨l,FY,FZ⟩:=qa (z:=J.zero) (P:=fun i j=>∃cs,(∀m v,cs[m]?=some v->W.cell? ⟨b,o+(0+i)*5+m,none⟩=some v)/\isJ (fun b=>b<W.heap.size) W j cs) (len+1) fun i hi=>by
        obtain⟨cs,h2,y,h3⟩:=Cy i hi;obtain⟨j,hj⟩:=Vb n' cs y h3;refine⟨j,cs,fun m v hv=> ?_,hj⟩;have h5:=(World.cells?_some h2).2.2;have zdl:=(World.cells?_some h2).2.1;have hm:m<5:=by
         have:=(List.getElem?_eq_some_iff.1 hv).1;omega
        have h6:=h5 m hm;rw[vg,FH,hv]at h6;rw[show o+(0+i)*5+m=o+i*5+m by omega];exact h6
       exact⟨some ⟨b,o,none⟩,len+1,cap,l,e4,FY.symm,by omega,KM (O:=fun b=>b<W.heap.size) hb l 0 fun i hi=>FZ i (by omega)⟩
    obtain⟨pk,nk,ck,ks,rfl,rfl,hk⟩:=zdj;obtain⟨pl,nl,cl,l,rfl,rfl,CX,su⟩:=zdk;exact⟨.mk k i t ks l,by unfold isJ;exact⟨pk,ck,pl,cl,rfl,hk,CX,su⟩⟩
open Go.RowKit
theorem JF{w w':World}{kind key ag kk s:ByteArray}{pk pl:Option Addr}{ck cl:Nat}{e:Ev}(he:e=X7 kind key ag (rD kk s))(h:isJ (· <w.heap.size) w (rD kk s) [.int .i64 5,.int .i64 0,.string aN,.slice pk 1 ck,.slice pl 1 cl])(hb:Below w.heap.size w w'):iL (· <w'.heap.size) w' e ⟨pk,ck,pl,cl,none,0,none,0,none,0⟩:=by
 subst he;exact⟨h.carry fun k hk=>⟨Nat.lt_of_lt_of_le hk hb.size,hb.block k hk⟩,ig.nil _ _,ig.nil _ _,Dv.nil _ _ _ _⟩
theorem Cz{w:World}{e:Ev}{p:Pt}(z:Array Value)(h:iL (· <w.heap.size) w e p):Below w.heap.size w ((w.alloc (.cells z 28)).setRow w.heap.size (aB e p).toArray)/\kZ ((w.alloc (.cells z 28)).setRow w.heap.size (aB e p).toArray) w.heap.size e p:=by
 have hb:Below w.heap.size w ((w.alloc (.cells z 28)).setRow w.heap.size (aB e p).toArray):=((Below.refl _ _).alloc (Nat.le_refl _) _).trans ((cz _ w.heap.size _).below (by simp) fun q hq e=>by unfold aQ at e;omega);exact⟨hb,kC h (fun _ h=>h) hb (setRow_heap _ _ _ _ _ _ (bR _))⟩
theorem rO(kind key ag kk s:ByteArray)(pk:Option Addr)(ck:Nat)(pl:Option Addr)(cl:Nat)(w:World):Calls Tryz.prog 29 #[.string kind,.string key,.string ag,.agg #[.int .i64 5,.int .i64 0,.string aN,.slice pk 1 ck,.slice pl 1 cl]] w fun x w'=>
    (∃L:List Value,x=.returned (.agg L.toArray)/\Hid (L=aB (X7 kind key ag (rD kk s)) ⟨pk,ck,pl,cl,none,0,none,0,none,0⟩))/\Below w.heap.size w w':=
 (Fb kind key ag kk s pk ck pl cl w).mono fun _ _ h=>⟨⟨_,h.1,rfl⟩,h.2⟩
theorem xi{r t s k:ByteArray}{st:Bool}{c:J}{pr:List ByteArray}(h1:r.size<=100)(h2:t.size<=100)(h3:s.size<=100)(h4:k.size<=100)(h5:szJ 12 c=true)(h6:pr.length<=1)(h7:∀x∈pr,x.size<=100):xe ⟨r,t,s,st,k,c,pr, [],0,0,aN, []⟩:=
 ⟨by show r.size<=_;omega,by show t.size<=_;omega,by show s.size<=_;omega,by show k.size<=_;omega,Nat.zero_le _,h5,by show pr.length<=_;omega,fun x hx=>Nat.le_trans (h7 x hx) (by decide),Nat.zero_le _,(fun x hx=>by cases hx),Nat.zero_le _,(fun x hx=>by cases hx)⟩
theorem zhJ:xe uk:=xi (by decide) (by decide) (by decide) (by decide) (by kernel_rfl) (by decide) (fun x hx=>by cases hx)
theorem zdm:xe zW:=xi (by decide) (by decide) (by decide) (by decide) (by kernel_rfl) (by decide) (fun x hx=>by simp at hx;subst hx;decide)
theorem zhK:xe Nu:=xi (by decide) (by decide) (by decide) (by decide) (by kernel_rfl) (by decide) (fun x hx=>by cases hx)
theorem zhL:xe Rx:=xi (by decide) (by decide) (by decide) (by decide) (by kernel_rfl) (by decide) (fun x hx=>by cases hx)
theorem JG{l:List Kn}(h:l.length<=2)(hc:l.all (fun k=>szJ 13 k.2.content&&decide (k.2.ag.size<=1000000000))=true):IJ l:=by
 simp only[List.all_eq_true,Bool.and_eq_true,decide_eq_true_eq]at hc;exact⟨by omega,fun k hk=>(hc k hk).1,fun k hk=>(hc k hk).2⟩
theorem zdn:IJ []:=JG (by decide) rfl
theorem zdo:IJ [(uj,uk)]:=JG (by decide) (by kernel_rfl)
theorem Vd:IJ [(uj,uk),(TD,zW)]:=JG (by decide) (by kernel_rfl)
theorem QO{W:World}{jb:Nat}{pk pl:Option Addr}{ck cl:Nat}(hX:W.heap[jb]?=some (.cells (aB QA ⟨pk,ck,pl,cl,none,0,none,0,none,0⟩).toArray 28 (0,0)))(hJ:isJ (· <jb) W (rD dt jf) [.int .i64 5,.int .i64 0,.string aN,.slice pk 1 ck,.slice pl 1 cl]):
    av (aQ jb) W ((W.alloc (.cells #[.string uj] 9)).setCell ⟨jb,10,none⟩ (.slice (some ⟨W.heap.size,0,none⟩) 1 1))/\kZ ((W.alloc (.cells #[.string uj] 9)).setCell ⟨jb,10,none⟩ (.slice (some ⟨W.heap.size,0,none⟩) 1 1)) jb zW ⟨pk,ck,pl,cl,some ⟨W.heap.size,0,none⟩,1,none,0,none,0⟩:=by
 have bH:=aO hX;have U2:av (aQ jb) W (W.alloc (.cells #[.string uj] 9)):=av.aW ((Below.refl _ _).alloc (Nat.le_refl _) _);have hk:av (aQ jb) W ((W.alloc (.cells #[.string uj] 9)).setCell ⟨jb,10,none⟩ (.slice (some ⟨W.heap.size,0,none⟩) 1 1)):=av.setCell (S:=aQ jb) (p:=⟨jb,10,none⟩) U2 (fun _=>(rfl:jb=jb)) _;have hX1:(W.alloc (.cells #[.string uj] 9)).heap[jb]?=some (.cells (aB QA ⟨pk,ck,pl,cl,none,0,none,0,none,0⟩).toArray 28 (0,0)):=by rw[Below.heap_alloc _ _ _ bH];exact hX
 have hN:(W.alloc (.cells #[.string uj] 9)).heap[W.heap.size]?=some (.cells #[.string uj] 9 (0,0)):=bR _;have PM:((W.alloc (.cells #[.string uj] 9)).setCell ⟨jb,10,none⟩ (.slice (some ⟨W.heap.size,0,none⟩) 1 1)).heap[W.heap.size]?=some (.cells #[.string uj] 9 (0,0)):=by
  rw[<-hN];exact(av.setCell (S:=aQ jb) (p:=⟨jb,10,none⟩) (av.refl _ _) (fun _=>(rfl:jb=jb)) _).block W.heap.size (by simp) (by unfold aQ;omega)
 refine⟨hk,⟨?_,⟨hJ.carry fun k Sd=>⟨?_,hk.block k (Nat.lt_trans Sd bH) (by unfold aQ;omega)⟩,⟨Nat.le_refl _,fun j hj=> ?_⟩,ig.nil _ _,Dv.nil _ _ _ _⟩⟩⟩
 ·rw[heap_setCell_same _ jb 10 _ _ _ hX1];rfl
 ·exact Nat.lt_of_lt_of_le (Nat.lt_trans Sd bH) hk.size
 ·obtain rfl:j=0:=by simp at hj;omega
  refine⟨⟨W.heap.size,0,none⟩,rfl,aO PM, ?_⟩;exact ay PM 0 _ rfl
theorem zaA{X:World}{b:Nat}{k:Kn}{q:Pt}(hX:X.heap[b]?=some (.cells (aI k q).toArray 41 (0,0)))(hE:iL (· <X.heap.size) X k.2 q):rZ (· <X.heap.size) X (some ⟨b,0,none⟩) 1 [k]:=
 ⟨Nat.le_refl _,fun j hj=>by
  obtain rfl:j=0:=by simp at hj;omega
  exact⟨b,0,q,rfl,aO hX,fun n v hv=>by rw[show 0+0*17+n=n by omega];exact ay hX n v (by simpa using hv),hE⟩⟩
theorem zaB{X:World}{b c:Nat}{k l:Kn}{q r:Pt}(hc:2<=c)(h1:∀n v,(aI k q)[n]?=some v->X.cell? ⟨b,n,none⟩=some v)(h2:∀n v,(aI l r)[n]?=some v->X.cell? ⟨b,17+n,none⟩=some v)(hE:iL (· <X.heap.size) X k.2 q)(hF:iL (· <X.heap.size) X l.2 r):rZ (· <X.heap.size) X (some ⟨b,0,none⟩) c [k,l]:=
 ⟨hc,fun j hj=>by
  have hb:b<X.heap.size:=jE (h1 0 _ rfl);have Rk:j<2:=hj
  match j,Rk with
  | 0,_=>exact⟨b,0,q,rfl,hb,fun n v hv=>by rw[show 0+0*17+n=n by omega];exact h1 n v hv,hE⟩
  | 1,_=>exact⟨b,0,r,rfl,hb,fun n v hv=>by rw[show 0+1*17+n=17+n by omega];exact h2 n v hv,hF⟩⟩
theorem FI(w:World)(hT:uW w):Calls Tryz.prog 13 #[] w fun x w'=>x=.returned (.bool true)/\Below w.heap.size w w':=by
 go_enter Tryz.func13,Tryz.ntmps13
 go_upto_region 3 with(first
  | (go_at_call 30;refine(rE _ _ _).mono ?_;rintro x w1 ⟨⟨FJ,FK,FL,FM,rfl,hjc⟩,TT⟩)
  | (go_at_call 29;refine(rO _ _ _ gu uA FJ FK FL FM _).mono ?_;rintro x w2 ⟨⟨Lc,rfl,Ve⟩,JH⟩)
  | (refine wpList_store_row rfl 28 _ _ rfl w2.heap.size 28 _ Lc.toArray rfl rfl (bR _) (by rw[Ve.out];exact eQ) (by rw[Ve.out];rfl) (by rw[Ve.out];exact AY _ _) ?_))
 have JI:=Cz (e:=uk) (p:=⟨FJ,FK,FL,FM,none,0,none,0,none,0⟩) (aB Ev.zero Pt.zero).toArray (JF rfl hjc JH);rw[show aB uk ⟨FJ,FK,FL,FM,none,0,none,0,none,0⟩=Lc from Ve.out.symm]at JI;change Code.wp _ _ _ _ ((w2.alloc (.cells (aB Ev.zero Pt.zero).toArray 28)).setRow w2.heap.size Lc.toArray);generalize (w2.alloc (.cells (aB Ev.zero Pt.zero).toArray 28)).setRow w2.heap.size Lc.toArray=WC at JI;have hBc:Below w.heap.size w WC:=ah (Below.refl _ _) (ah (ah TT JH) JI.1);have HVc:Hid (∀X,Below WC.heap.size WC X->kZ X w2.heap.size uk ⟨FJ,FK,FL,FM,none,0,none,0,none,0⟩):=fun X hX=>JI.2.below hX;have HJc:Hid (isJ (· <w2.heap.size) WC (rD gu uA) [.int .i64 5,.int .i64 0,.string aN,.slice FJ 1 FK,.slice FL 1 FM]):=hjc.carry fun k hk=>⟨Nat.lt_of_lt_of_le hk JH.size,(ah JH JI.1).block k hk⟩;have hnc:Below w.heap.size w WC:=ah (ah TT JH) JI.1;have hzc:w.heap.size<=w2.heap.size:=Nat.le_trans TT.size JH.size;clear JI hjc TT JH
 go_upto_region 4 with(first
  | (go_at_call 30;refine(rE _ _ _).mono ?_;rintro x w3 ⟨⟨KN,KO,KP,KQ,rfl,hjj⟩,TU⟩)
  | (go_at_call 29;refine(rO _ _ _ dt jf KN KO KP KQ _).mono ?_;rintro x w4 ⟨⟨Lj,rfl,HLj⟩,JJ⟩)
  | (refine wpList_store_row rfl 28 _ _ rfl w4.heap.size 28 _ Lj.toArray rfl rfl (bR _) (by rw[HLj.out];exact eQ) (by rw[HLj.out];rfl) (by rw[HLj.out];exact AY _ _) ?_))
 have JK:=Cz (e:=QA) (p:=⟨KN,KO,KP,KQ,none,0,none,0,none,0⟩) (aB Ev.zero Pt.zero).toArray (JF rfl hjj JJ);rw[show aB QA ⟨KN,KO,KP,KQ,none,0,none,0,none,0⟩=Lj from HLj.out.symm]at JK;change Code.wp _ _ _ _ ((w4.alloc (.cells (aB Ev.zero Pt.zero).toArray 28)).setRow w4.heap.size Lj.toArray);generalize (w4.alloc (.cells (aB Ev.zero Pt.zero).toArray 28)).setRow w4.heap.size Lj.toArray=WJ at JK;have hBj:Below w.heap.size w WJ:=ah (hBc) (ah (ah TU JJ) JK.1);have HVj:Hid (∀X,Below WJ.heap.size WJ X->kZ X w4.heap.size QA ⟨KN,KO,KP,KQ,none,0,none,0,none,0⟩):=fun X hX=>JK.2.below hX;have HJj:Hid (isJ (· <w4.heap.size) WJ (rD dt jf) [.int .i64 5,.int .i64 0,.string aN,.slice KN 1 KO,.slice KP 1 KQ]):=hjj.carry fun k hk=>⟨Nat.lt_of_lt_of_le hk JJ.size,(ah JJ JK.1).block k hk⟩;have hnj:Below WC.heap.size WC WJ:=ah (ah TU JJ) JK.1;have hzj:WC.heap.size<=w4.heap.size:=Nat.le_trans TU.size JJ.size;clear JK hjj TU JJ;have NZ:=(Below.heap_alloc WJ (.cells #[.string ⟨#[36,65,65,65,65,65,65,65,65,65,65,69]⟩] 9) _ (aO (HVj.out WJ (Below.refl _ _)).nL)).trans (HVj.out WJ (Below.refl _ _)).nL;have cj:(WJ.alloc (.cells #[.string ⟨#[36,65,65,65,65,65,65,65,65,65,65,69]⟩] 9)).cell? ⟨w4.heap.size,10,none⟩=some (.slice none 0 0):=ay NZ 10 _ rfl;have zj:=ou NZ 10;clear NZ
 go_upto_region 5 with fail
 have VR:=QO (HVj.out WJ (Below.refl _ _)).nL HJj.out;change Code.wp _ _ _ _ ((WJ.alloc (.cells #[.string uj] 9)).setCell ⟨w4.heap.size,10,none⟩ (.slice (some ⟨WJ.heap.size,0,none⟩) 1 1));generalize (WJ.alloc (.cells #[.string uj] 9)).setCell ⟨w4.heap.size,10,none⟩ (.slice (some ⟨WJ.heap.size,0,none⟩) 1 1)=W4 at VR;obtain⟨xS,vN⟩:=VR;have VS:Below WC.heap.size WC W4:=hnj.trans (xS.below hnj.size fun k hk e=>by unfold aQ at e;omega);have rY:Below w.heap.size w W4:=ah hBc VS;have HC4:Hid (∀X,Below W4.heap.size W4 X->kZ X w2.heap.size uk ⟨FJ,FK,FL,FM,none,0,none,0,none,0⟩):=fun X hX=>HVc.out X (ah VS hX);have HJ4:Hid (∀X,Below W4.heap.size W4 X->kZ X w4.heap.size zW ⟨KN,KO,KP,KQ,some ⟨WJ.heap.size,0,none⟩,1,none,0,none,0⟩):=fun X hX=>vN.below hX;have HRC:Hid (W4.rangeAt w2.heap.size 0 Lc):=by
  have:=(HC4.out W4 (Below.refl _ _)).iW;rw[<-Ve.out]at this;exact this
 clear HVc HVj HJc HJj xS vN VS hnj hnc hBc hBj hzc hzj cj zj
 go_upto_region 6 with(first
  | (refine wpList_load_mid rfl 28 _ rfl w2.heap.size 0 rfl Lc _ HRC.out Tryz.underlying28 rfl (by rw[Ve.out];exact eQ) ?_)
  | (refine pg rfl _ _ rfl uj uk ⟨FJ,FK,FL,FM,none,0,none,0,none,0⟩ Lc Ve.out rfl rfl fun Mc HMc=> ?_)
  | (refine tX rfl _ rfl (uj,uk) ⟨FJ,FK,FL,FM,none,0,none,0,none,0⟩ Mc HMc.out rfl ?_))
 obtain⟨W5,uL⟩:∃W5,W5=W4.alloc (.cells Mc.toArray 41):=⟨_,rfl⟩;have jB:Below W4.heap.size W4 W5:=by rw[uL];exact(Below.refl _ _).alloc (Nat.le_refl _) _
 have TV:W5.heap[W4.heap.size]?=some (.cells (aI (uj,uk) ⟨FJ,FK,FL,FM,none,0,none,0,none,0⟩).toArray 41 (0,0)):=by rw[uL,HMc.out];exact bR _
 have dR:Hid (∀X,Below W5.heap.size W5 X->X.heap[W4.heap.size]?=some (.cells (aI (uj,uk) ⟨FJ,FK,FL,FM,none,0,none,0,none,0⟩).toArray 41 (0,0))):=fun X hX=>(hX.block _ (aO TV)).trans TV;rw[<-uL];clear uL TV HRC
 go_upto_region 7 with(refine wpList_store_row rfl 28 _ _ rfl W5.heap.size 28 _ (aB Nu Pt.zero).toArray rfl rfl (bR _) eQ rfl (AY _ _) ?_)
 have zdp:=Cz (w:=W5) (e:=Nu) (p:=Pt.zero) (aB Ev.zero Pt.zero).toArray ⟨vo _ _ _ _ _,ig.nil _ _,ig.nil _ _,Dv.nil _ _ _ _⟩;change Code.wp _ _ _ _ ((W5.alloc (.cells (aB Ev.zero Pt.zero).toArray 28)).setRow W5.heap.size (aB Nu Pt.zero).toArray);generalize (W5.alloc (.cells (aB Ev.zero Pt.zero).toArray 28)).setRow W5.heap.size (aB Nu Pt.zero).toArray=W6 at zdp;obtain⟨jP,hv6⟩:=zdp;have TW:Below W4.heap.size W4 W6:=ah jB jP;have HJ6:Hid (∀X,Below W6.heap.size W6 X->kZ X w4.heap.size zW ⟨KN,KO,KP,KQ,some ⟨WJ.heap.size,0,none⟩,1,none,0,none,0⟩):=fun X hX=>HJ4.out X (ah TW hX);have HM6:Hid (∀X,Below W6.heap.size W6 X->kZ X W5.heap.size Nu Pt.zero):=fun X hX=>hv6.below hX;have HC6:Hid (∀X,Below W6.heap.size W6 X->kZ X w2.heap.size uk ⟨FJ,FK,FL,FM,none,0,none,0,none,0⟩):=fun X hX=>HC4.out X (ah TW hX);have NU:Hid (∀X,Below W6.heap.size W6 X->X.heap[W4.heap.size]?=some (.cells (aI (uj,uk) ⟨FJ,FK,FL,FM,none,0,none,0,none,0⟩).toArray 41 (0,0))):=fun X hX=>dR.out X (ah jP hX);have hB6:Below w.heap.size w W6:=ah rY TW;obtain⟨Lp,hLp⟩:∃L,L=aB zW ⟨KN,KO,KP,KQ,some ⟨WJ.heap.size,0,none⟩,1,none,0,none,0⟩:=⟨_,rfl⟩;have HLp:=(show Hid _ from hLp);clear hLp;have Q9:Hid (W6.rangeAt w4.heap.size 0 Lp):=by
  have:=(HJ6.out W6 (Below.refl _ _)).iW;rw[<-HLp.out]at this;exact this
 have HKA:Hid (∀o:Obj,(W6.alloc o).heap[W4.heap.size]?=some (.cells (aI (uj,uk) ⟨FJ,FK,FL,FM,none,0,none,0,none,0⟩).toArray 41 (0,0))):=fun o=>NU.out _ ((Below.refl _ _).alloc (Nat.le_refl _) _);clear HJ4 HC4 dR jB jP hv6 TW rY
 go_upto_region 8 with(first
  | (refine wpList_load_mid rfl 28 _ rfl w4.heap.size 0 rfl Lp _ Q9.out Tryz.underlying28 rfl (by rw[HLp.out];exact eQ) ?_)
  | (refine pg rfl _ _ rfl TD zW ⟨KN,KO,KP,KQ,some ⟨WJ.heap.size,0,none⟩,1,none,0,none,0⟩ Lp HLp.out rfl rfl fun Mp HMp=> ?_)
  | (refine tX rfl _ rfl (TD,zW) ⟨KN,KO,KP,KQ,some ⟨WJ.heap.size,0,none⟩,1,none,0,none,0⟩ Mp HMp.out rfl ?_)
  | (refine Fz rfl _ _ rfl W4.heap.size W6.heap.size (uj,uk) (TD,zW) ⟨FJ,FK,FL,FM,none,0,none,0,none,0⟩ ⟨KN,KO,KP,KQ,some ⟨WJ.heap.size,0,none⟩,1,none,0,none,0⟩ rfl rfl (HKA.out _) (by rw[HMp.out];exact bR _) fun c7 W7 hc7 uV hf7 hg7=> ?_))
 have QP:Below W6.heap.size W6 W7:=ah ((Below.refl _ _).alloc (Nat.le_refl _) _) uV;have hBk:Below w.heap.size w W7:=ah hB6 QP;rw[World.size_alloc]at hf7 hg7;have HR7:Hid (∀X,Below W7.heap.size W7 X->rZ (· <X.heap.size) X (some ⟨W6.heap.size+1,0,none⟩) c7 [(uj,uk),(TD,zW)]):=fun X hX=>
  zaB hc7 (fun n v hv=>(hX.cell (p:=⟨_,n,none⟩) (jE (hf7 n v hv))).trans (hf7 n v hv)) (fun n v hv=>(hX.cell (p:=⟨_,17+n,none⟩) (jE (hg7 n v hv))).trans (hg7 n v hv)) (HC6.out X (ah QP hX)).ev (HJ6.out X (ah QP hX)).ev
 go_upto_region 9 with(first
  | (go_at_call 30;refine(rE _ _ _).mono ?_;rintro x w8 ⟨⟨Vf,Vg,Vh,Vi,rfl,hjb⟩,TY⟩)
  | (go_at_call 29;refine(rO _ _ _ dt wP Vf Vg Vh Vi _).mono ?_;rintro x w9 ⟨⟨Lb,rfl,HLb⟩,JL⟩)
  | (refine wpList_store_row rfl 28 _ _ rfl w9.heap.size 28 _ Lb.toArray rfl rfl (bR _) (by rw[HLb.out];exact eQ) (by rw[HLb.out];rfl) (by rw[HLb.out];exact AY _ _) ?_))
 have JM:=Cz (e:=Rx) (p:=⟨Vf,Vg,Vh,Vi,none,0,none,0,none,0⟩) (aB Ev.zero Pt.zero).toArray (JF rfl hjb JL);rw[show aB Rx ⟨Vf,Vg,Vh,Vi,none,0,none,0,none,0⟩=Lb from HLb.out.symm]at JM;change Code.wp _ _ _ _ ((w9.alloc (.cells (aB Ev.zero Pt.zero).toArray 28)).setRow w9.heap.size Lb.toArray);generalize (w9.alloc (.cells (aB Ev.zero Pt.zero).toArray 28)).setRow w9.heap.size Lb.toArray=WB at JM;have hBb:Below w.heap.size w WB:=ah (hBk) (ah (ah TY JL) JM.1);have HVb:Hid (∀X,Below WB.heap.size WB X->kZ X w9.heap.size Rx ⟨Vf,Vg,Vh,Vi,none,0,none,0,none,0⟩):=fun X hX=>JM.2.below hX;have HJb:Hid (isJ (· <w9.heap.size) WB (rD dt wP) [.int .i64 5,.int .i64 0,.string aN,.slice Vf 1 Vg,.slice Vh 1 Vi]):=hjb.carry fun k hk=>⟨Nat.lt_of_lt_of_le hk JL.size,(ah JL JM.1).block k hk⟩;have Kb:Below W7.heap.size W7 WB:=ah (ah TY JL) JM.1;have Iq:W7.heap.size<=w9.heap.size:=Nat.le_trans TY.size JL.size;clear JM hjb TY JL;have TZ:Below W6.heap.size W6 WB:=ah QP Kb;have TC:Hid (WB.rangeAt w4.heap.size 0 Lp):=by
  have:=(HJ6.out WB TZ).iW;rw[<-HLp.out]at this;exact this
 have hWt:Calls Tryz.prog 14 #[.agg Lp.toArray] WB fun x w'=>(∃q c,x=.returned (.slice q 4 c))/\Below WB.heap.size WB w':=by
  rw[HLp.out];refine(Jz (HJ6.out WB TZ).ev (fun _ h=>h) zdm).mono fun x w' hh=>⟨?_,hh.2⟩;obtain⟨⟨q,c,hx,_⟩,_⟩:=hh;rw[Yh]at hx;exact⟨q,c,hx⟩
 clear Q9 HKA uV hf7 hg7
 go_upto_region 10 with(first
  | (refine wpList_load_mid rfl 28 _ rfl w4.heap.size 0 rfl Lp _ TC.out Tryz.underlying28 rfl (by rw[HLp.out];exact eQ) ?_)
  | (go_at_call 14;refine hWt.mono ?_;rintro x W9 ⟨⟨qw,cw,rfl⟩,ry⟩))
 have T9:Below W6.heap.size W6 W9:=ah TZ ry;have h79:Below W7.heap.size W7 W9:=ah Kb ry;have Fq:Below w.heap.size w W9:=ah hBb ry;have HT:Hid (∀X,Below W9.heap.size W9 X->uW X):=fun X hX=>hT.below (ah Fq hX);have HBB:Hid (∀X,Below W9.heap.size W9 X->Below w.heap.size w X):=fun X hX=>ah Fq hX;have HE1:Hid (∀X,Below W9.heap.size W9 X->(Instr.loadAt 28 (.pointer (some ⟨w2.heap.size,0,none⟩))).run Tryz.prog X=.ok (.agg (aB uk ⟨FJ,FK,FL,FM,none,0,none,0,none,0⟩).toArray) X):=fun X hX=>run_loadAt_mid X w2.heap.size 0 28 (aB uk ⟨FJ,FK,FL,FM,none,0,none,0,none,0⟩) _ (HC6.out X (ah T9 hX)).iW Tryz.underlying28 rfl eQ;have HE2:Hid (∀X,Below W9.heap.size W9 X->(Instr.loadAt 28 (.pointer (some ⟨w4.heap.size,0,none⟩))).run Tryz.prog X=.ok (.agg (aB zW ⟨KN,KO,KP,KQ,some ⟨WJ.heap.size,0,none⟩,1,none,0,none,0⟩).toArray) X):=fun X hX=>run_loadAt_mid X w4.heap.size 0 28 (aB zW ⟨KN,KO,KP,KQ,some ⟨WJ.heap.size,0,none⟩,1,none,0,none,0⟩) _ (HJ6.out X (ah T9 hX)).iW Tryz.underlying28 rfl eQ;have HE3:Hid (∀X,Below W9.heap.size W9 X->(Instr.loadAt 28 (.pointer (some ⟨W5.heap.size,0,none⟩))).run Tryz.prog X=.ok (.agg (aB Nu Pt.zero).toArray) X):=fun X hX=>run_loadAt_mid X W5.heap.size 0 28 (aB Nu Pt.zero) _ (HM6.out X (ah T9 hX)).iW Tryz.underlying28 rfl eQ;have HE4:Hid (∀X,Below W9.heap.size W9 X->(Instr.loadAt 28 (.pointer (some ⟨w9.heap.size,0,none⟩))).run Tryz.prog X=.ok (.agg (aB Rx ⟨Vf,Vg,Vh,Vi,none,0,none,0,none,0⟩).toArray) X):=fun X hX=>run_loadAt_mid X w9.heap.size 0 28 (aB Rx ⟨Vf,Vg,Vh,Vi,none,0,none,0,none,0⟩) _ (HVb.out X (ah ry hX)).iW Tryz.underlying28 rfl eQ;have HQ1:Hid (∀X,Below W9.heap.size W9 X->Calls Tryz.prog 11 #[.agg (aB uk ⟨FJ,FK,FL,FM,none,0,none,0,none,0⟩).toArray,.slice none 0 0] X fun x w'=>x=.returned (.int .i64 0)/\Below X.heap.size X w'):=fun X hX=>by
  have:=nu (l:= []) (ps:=none) (cs:=0) (HC6.out X (ah T9 hX)).ev (rZ.nil _ _ _ _) (fun _ h=>h) zhJ zdn (HT.out X hX);rw[TE]at this;exact this
 have HQ2:Hid (∀X,Below W9.heap.size W9 X->Calls Tryz.prog 11 #[.agg (aB zW ⟨KN,KO,KP,KQ,some ⟨WJ.heap.size,0,none⟩,1,none,0,none,0⟩).toArray,.slice (some ⟨W4.heap.size,0,none⟩) 1 1] X fun x w'=>x=.returned (.int .i64 0)/\Below X.heap.size X w'):=fun X hX=>by
  have:=nu (HJ6.out X (ah T9 hX)).ev (zaA (NU.out X (ah T9 hX)) (HC6.out X (ah T9 hX)).ev) (fun _ h=>h) zdm zdo (HT.out X hX);rw[TF]at this;exact this
 have HQ3:Hid (∀X,Below W9.heap.size W9 X->Calls Tryz.prog 11 #[.agg (aB Nu Pt.zero).toArray,.slice (some ⟨W6.heap.size+1,0,none⟩) 2 c7] X fun x w'=>x=.returned (.int .i64 110)/\Below X.heap.size X w'):=fun X hX=>by
  have:=nu (HM6.out X (ah T9 hX)).ev (HR7.out X (ah h79 hX)) (fun _ h=>h) zhK Vd (HT.out X hX);rw[TG]at this;exact this
 have HQ4:Hid (∀X,Below W9.heap.size W9 X->Calls Tryz.prog 11 #[.agg (aB Rx ⟨Vf,Vg,Vh,Vi,none,0,none,0,none,0⟩).toArray,.slice (some ⟨W6.heap.size+1,0,none⟩) 2 c7] X fun x w'=>x=.returned (.int .i64 110)/\Below X.heap.size X w'):=fun X hX=>by
  have:=nu (HVb.out X (ah ry hX)).ev (HR7.out X (ah h79 hX)) (fun _ h=>h) zhL Vd (HT.out X hX);rw[TH]at this;exact this
 have MG:Below W9.heap.size W9 W9:=Below.refl _ _;clear HC6 HJ6 HM6 HVb HR7 NU T9 h79 Fq HT TC hWt hT hBk hB6 QP Kb TZ hBb ry HJb Iq;rw[<-Ve.out]at HE1 HQ1;rw[<-HLp.out]at HE2 HQ2;rw[<-HLb.out]at HE4 HQ4;generalize aB Nu Pt.zero=LM at HE3 HQ3;go_wp2_with(first
  | (refine bP (by kernel_rfl) 28 _ rfl w9.heap.size 0 rfl Lb (HE4.out _ hA3) ?_)
  | (refine bP (by kernel_rfl) 28 _ rfl W5.heap.size 0 rfl LM (HE3.out _ Wd) ?_)
  | (refine bP (by kernel_rfl) 28 _ rfl w4.heap.size 0 rfl Lp (HE2.out _ hA1) ?_)
  | (refine bP (by kernel_rfl) 28 _ rfl w2.heap.size 0 rfl Lc (HE1.out _ MG) ?_)
  | (go_at_call 11;refine(HQ4.out _ hA3).mono ?_;rintro x wd ⟨rfl,oK⟩;have hA4:=ah hA3 oK)
  | (go_at_call 11;refine(HQ3.out _ Wd).mono ?_;rintro x wc ⟨rfl,hbc⟩;have hA3:=ah Wd hbc)
  | (go_at_call 11;refine(HQ2.out _ hA1).mono ?_;rintro x wb ⟨rfl,vK⟩;have Wd:=ah hA1 vK)
  | (go_at_call 11;refine(HQ1.out _ MG).mono ?_;rintro x wa ⟨rfl,hba⟩;have hA1:=ah MG hba))
 go_ret;exact⟨rfl,HBB.out _ hA4⟩
def CB(d:Nat):Prop:=∀(w:World) (O:Nat->Prop) (j:J) (k i deep n:Int) (t:ByteArray) (pk pl:Option Addr) (nk ck nl cl:Nat),(∀x,O x->x<w.heap.size)->deep=(d:Int)->d<=100->0<=n->n<=100000→
 isJ O w j [.int .i64 k,.int .i64 i,.string t,.slice pk nk ck,.slice pl nl cl]→
 Calls Tryz.prog 23 #[.agg #[.int .i64 k,.int .i64 i,.string t,.slice pk nk ck,.slice pl nl cl],.int .i64 n,.int .i64 deep] w fun x w'=>(∃r:Int,x=.returned (.int .i64 r)/\r<=n/\-1<=r/\(0<=r->szJ d j=true))/\Below w.heap.size w w'
theorem JN:CB 0:=by
 intro w O j k i deep n t pk pl nk ck nl cl hO qy _ h0 hn _;subst qy;have bS:Below w.heap.size w (w.alloc (.cells #[.int .i64 k,.int .i64 i,.string t,.slice pk nk ck,.slice pl nl cl] 25)):=(Below.refl _ _).alloc (Nat.le_refl _) _
 by_cases h1:n<1
 ·go_enter Tryz.func23,Tryz.ntmps23;go_wp2;go_ret;exact⟨⟨-1,rfl,by omega,by omega,fun h=>absurd h (by decide)⟩,bS⟩
 ·go_enter Tryz.func23,Tryz.ntmps23;go_wp2;go_ret;exact⟨⟨-1,rfl,by omega,by omega,fun h=>absurd h (by decide)⟩,bS⟩
theorem JO{d:Nat}(V:CB d):CB (d+1):=by
 intro w O j k i deep n t pk pl nk ck nl cl hO qy hd h0 hn hj;obtain⟨kx,ix,tx,ks,l⟩:=j;unfold isJ at hj;obtain⟨VW,R8,VX,zD,e,hk,hl,hs⟩:=hj;simp only[List.cons.injEq,Value.int.injEq,Value.string.injEq,Value.slice.injEq,true_and,and_true]at e;obtain⟨rfl,rfl,rfl,⟨rfl,rfl,rfl⟩,rfl,rfl,rfl⟩:=e;have hd1:1<=deep:=by omega
 have X6:deep<=101:=by omega
 have HD:Hid (deep - 1=(d:Int)):=by show _=_;omega
 have HDL:Hid (d<=100):=by show _<=_;omega
 clear qy hd;obtain⟨nk,nz⟩:∃n,ks.length=n:=⟨_,rfl⟩;obtain⟨nl,oo⟩:∃n,l.length=n:=⟨_,rfl⟩;have jJ:Hid (ks.length=nk):=nz;have xH:Hid (l.length=nl):=oo;have Gz:=hk.1;rw[nz]at Gz ⊢;rw[oo]at hl ⊢;clear nz oo;have bS:Below w.heap.size w (w.alloc (.cells #[.int .i64 k,.int .i64 i,.string t,.slice pk nk ck,.slice pl nl cl] 25)):=(Below.refl _ _).alloc (Nat.le_refl _) _;have neg:∀(w':World) (x:Ending),x=.returned (.int .i64 (-1))->Below w.heap.size w w'->(∃r:Int,x=.returned (.int .i64 r)/\r<=n/\-1<=r/\(0<=r->szJ (d+1) (.mk k i t ks l)=true))/\Below w.heap.size w w':=fun w' x hx hb=>⟨⟨-1,hx,by omega,by omega,fun h=>absurd h (by decide)⟩,hb⟩;have QQ:Hid (∀(w':World) (x:Ending),x=.returned (.int .i64 (-1))->Below w.heap.size w w'->(∃r:Int,x=.returned (.int .i64 r)/\r<=n/\-1<=r/\(0<=r->szJ (d+1) (.mk k i t ks l)=true))/\Below w.heap.size w w'):=neg;clear neg
 by_cases h1:n<1
 ·go_enter Tryz.func23,Tryz.ntmps23;go_wp2;go_ret;exact QQ.out _ _ rfl bS
 by_cases h2:(2000:Int)<t.size
 ·go_enter Tryz.func23,Tryz.ntmps23;go_wp2;go_ret;exact QQ.out _ _ rfl bS
 by_cases h3:(100:Int)<nk
 ·go_enter Tryz.func23,Tryz.ntmps23;go_wp2;go_ret;exact QQ.out _ _ rfl bS
 by_cases h4:(300:Int)<nl
 ·go_enter Tryz.func23,Tryz.ntmps23;go_wp2;go_ret;exact QQ.out _ _ rfl bS
 obtain⟨wB,ug⟩:∃wB,wB=w.alloc (.cells #[.int .i64 k,.int .i64 i,.string t,.slice pk nk ck,.slice pl nl cl] 25):=⟨_,rfl⟩;have hA:wB.heap[w.heap.size]?=some (.cells #[.int .i64 k,.int .i64 i,.string t,.slice pk nk ck,.slice pl nl cl] 25 (0,0)):=by rw[ug];exact heap_alloc_new _ _
 have hsB:w.heap.size<wB.heap.size:=(Array.getElem?_eq_some_iff.1 hA).1;rw[<-ug]at bS;have UW:Hid (∀W:World,Below wB.heap.size wB W->∀n v, [Value.int .i64 k,.int .i64 i,.string t,.slice pk nk ck,.slice pl nl cl][n]?=some v->W.cell? ⟨w.heap.size,n,none⟩=some v):=fun W hW n v hv=>
  (World.cell?_of_block (a:=⟨w.heap.size,n,none⟩) (hW.block w.heap.size hsB)).trans (a_ (cur:= [.int .i64 k,.int .i64 i,.string t,.slice pk nk ck,.slice pl nl cl]) hA n v hv)
 go_enter Tryz.func23,Tryz.ntmps23;go_wp2;rw[<-ug];clear ug hA
 go_loopw [7] (fun v wr=>∃m:Nat,v=.int .i64 m/\m<=nk/\Hid (∀x,x<m->(ks.getD x aN).size<=300)/\wr=wB) (fun v _=>nk - (intOf v).toNat)
 case atStart=>exact⟨0,rfl,Nat.zero_le _,fun m hm=>absurd hm (by omega),rfl⟩
 case round=>
  obtain⟨m,rfl,hm,HE,rfl⟩:=hrel;have a3:=UW.out wr (Below.refl _ _) 3 _ rfl
  by_cases NN:m<nk
  ·have oH:(m:Int)<(nk:Int):=by omega
   obtain⟨ka,VT,rX,Qm⟩:=hk.2 m (by rw[jJ.out];exact NN);subst VT;have hKA:wr.cell? (ka.add m)=some (.string (ks.getD m aN)):=(World.cell?_of_block (by rw[bF];exact bS.block _ (hO _ rX))).trans Qm;obtain⟨u,hu⟩:∃u,ks.getD m aN=u:=⟨_,rfl⟩;have HU:Hid (ks.getD m aN=u):=hu;rw[hu]at hKA;clear hu Qm
   by_cases OV:(300:Int)<u.size
   ·go_wp2;go_ret;exact QQ.out _ _ rfl bS
   ·go_wp2;go_roundw
    case rel=>exact⟨m+1,by go_num,NN,fun x hx=>(Nat.lt_succ_iff_lt_or_eq.1 hx).elim (HE.out x) fun e=>by rw[e,HU.out];omega,trivial⟩
    case measure=>simp[intOf];omega
  ·obtain rfl:m=nk:=by omega
   have Wo:Hid (ks.all (fun k=>decide (k.size<=1000000000))=true):=by
    show _=_
    rw[List.all_eq_true];intro x hx;obtain⟨y,hy,rfl⟩:=List.getElem_of_mem hx;have:=HE.out y (by rw[<-jJ.out];exact hy);rw[D9 hy]at this;exact decide_eq_true (by omega)
   go_wp2
   go_loopw [1,8] (fun u v w2=>∃(m:Nat) (r:Int),v=.int .i64 m/\u=.int .i64 r/\m<=nl/\r<=n - 1/\-1<=r/\Hid (0<=r->(l.take m).all (szJ d)=true)/\Below wr.heap.size wr w2) (fun _ v _=>nl - (intOf v).toNat)
   case atStart=>exact⟨0,n - 1,rfl,rfl,Nat.zero_le _,by omega,by omega,fun _=>rfl,Below.refl _ _⟩
   case round=>
    obtain⟨m',r,rfl,rfl,hm',hrn,Ky,HT,aT⟩:=hrel;have a4:=UW.out wr aT 4 _ rfl
    by_cases zu:m'<nl
    ·have oH:(m':Int)<(nl:Int):=by omega
     by_cases hr:0<=r
     ·have og:m'<l.length:=by rw[xH.out];exact zu
      have F_:Hid (m'<l.length):=og;obtain⟨lb,lo,cs,vM,U3,bA,ja⟩:=isJs.at l 0 m' hs og;subst vM;obtain⟨x0,x1,x2,p3,n3,c3,p4,n4,c4,rfl⟩:=dI ja;have rT:=(aT.block lb (by have:=hO _ U3;omega)).trans (bS.block lb (hO _ U3));have cc:∀m v, [Value.int .i64 x0,.int .i64 x1,.string x2,.slice p3 n3 c3,.slice p4 n4 c4][m]?=some v->wr.cell? ⟨lb,lo+m'*5+m,none⟩=some v:=fun m v h=>by
       have:=bA m v h;rw[Nat.zero_add]at this;exact(World.cell?_of_block (a:=⟨lb,lo+m'*5+m,none⟩) rT).trans this
      have y0:wr.cell? ⟨lb,lo+m'*5,none⟩=some (.int .i64 x0):=cc 0 _ rfl;have y1:=cc 1 _ rfl;have y2:=cc 2 _ rfl;have y3:=cc 3 _ rfl;have y4:=cc 4 _ rfl;have jm:=fI bS (by omega) aT;have hV:=V wr O (l.getD m' J.zero) x0 x1 (deep - 1) r x2 p3 p4 n3 c3 n4 c4 (fun b hb=>Nat.lt_of_lt_of_le (hO b hb) jm.size) HD.out HDL.out hr (by omega) (ja.carry fun b hb=>⟨hb,jm.block b (hO b hb)⟩);clear cc bA og ja rT;go_wp2_with(go_at_call 23;refine hV.mono ?_;rintro x w4 ⟨⟨r4,rfl,BP,hr5,hr6⟩,dB⟩);go_roundw
      case rel=>exact⟨m'+1,r4,by go_num,rfl,zu,by omega,hr5,fun h=>by rw[xW F_.out,HT.out hr,hr6 h];rfl,fI aT aT.size dB⟩
      case measure=>simp[intOf];omega
     ·go_wp2;go_ret;refine⟨⟨r,rfl,by omega,Ky,fun h=>absurd h (by omega)⟩,fI bS (by omega) aT⟩
    ·obtain rfl:m'=nl:=by omega
     go_wp2;go_ret;refine⟨⟨r,rfl,by omega,Ky,fun h=> ?_⟩,fI bS (by omega) aT⟩;have ht:=HT.out h;rw[List.take_of_length_le (by rw[xH.out];omega)]at ht;unfold szJ;rw[Wo.out,ht,jJ.out,xH.out,decide_eq_true (show t.size<=1000000000 by omega),decide_eq_true (show m<=100000 by omega),decide_eq_true (show m'<=100000 by omega)]
     rfl
theorem QR:∀d,CB d
 | 0=>JN
 | d+1=>JO (QR d)
open Go.RowKit Go.Maps
structure yZ(e:Ev):Prop where
 room:e.room.size<=140737488355328
 aK:e.aK.size<=140737488355328
 ag:e.ag.size<=140737488355328
 key:e.key.size<=140737488355328
 hash:e.hash.size<=140737488355328
 sigs:∀x∈e.sigs,x.1.size<=140737488355328/\x.2.size<=140737488355328
structure CE(e:Ev):Prop where
 texts:e.room.size+e.aK.size+e.ag.size+e.key.size+e.hash.size<=2000
 prev:e.prev.length<=30
 En:∀x∈e.prev,x.size<=100
 aA:e.aA.length<=30
 Eo:∀x∈e.aA,x.size<=100
 sigs:e.sigs.length<=30
 AX:∀x∈e.sigs,x.1.size+x.2.size<=200
 cont:szJ 20 e.content=true
theorem CE.sz{e:Ev}(h:CE e):xe e:=by
 have t:=h.texts;exact⟨by omega,by omega,by omega,by omega,by omega,lG 12 20 _ (by decide) h.cont,Nat.le_trans h.prev (by decide),fun x hx=>Nat.le_trans (h.En x hx) (by decide),Nat.le_trans h.aA (by decide),fun x hx=>Nat.le_trans (h.Eo x hx) (by decide),Nat.le_trans h.sigs (by decide),fun x hx=>by have:=h.AX x hx;omega⟩
def zdq(w w':World)(e:Ev)(x:Ending):Prop:=(∃b:Bool,x=.returned (.bool b)/\(b=true->CE e))/\Below w.heap.size w w'
theorem FN{l:List ByteArray}{B:Nat}(h:∀x,x<l.length->(l.getD x aN).size<=B):∀x∈l,x.size<=B:=fun x hx=>by
 obtain⟨y,hy,rfl⟩:=List.getElem_of_mem hx;have:=h y hy
 rwa [D9 hy]at this
theorem FO{O:Nat->Prop}(e:Ev)(p:Pt)(w:World)(hE:iL O w e p)(hO:∀k,O k->k<w.heap.size)(hl:yZ e):
    Calls Tryz.prog 9 #[dZ e p] w fun x w'=>zdq w w' e x:=by
 obtain⟨room,aK,ag,st,key,⟨k,i,t,ks,l⟩,prev,aA,depth,ts,hash,sigs⟩:=e;obtain⟨pk,ck,pl,cl,pp,cp,pa,ca,ps,cs⟩:=p;obtain⟨z0,z1,z2,z4,z14,z15⟩:=hl;obtain⟨hc,hp,ha,hs⟩:=hE;simp only at z0 z1 z2 z4 z14 z15 hc hp ha hs;unfold zm at hc;simp only[J.kind,J.int,J.text,J.keys,J.list]at hc;simp only[dZ,aB,J.kind,J.int,J.text,J.keys,J.list];obtain⟨np,hnp⟩:∃n,prev.length=n:=⟨_,rfl⟩;obtain⟨na,Mr⟩:∃n,aA.length=n:=⟨_,rfl⟩;obtain⟨ns,hns⟩:∃n,sigs.length=n:=⟨_,rfl⟩;have HNP:Hid (prev.length=np):=hnp;have Pq:Hid (aA.length=na):=Mr;have HNS:Hid (sigs.length=ns):=hns;have hcp:=hp.1;have rW:=ha.1;have F4:=hs.1;rw[hnp]at hcp ⊢;rw[Mr]at rW ⊢;rw[hns]at F4 ⊢;clear hnp Mr hns;obtain⟨WB,lW⟩:∃WB,WB=w.alloc (.cells #[.string room,.string aK,.string ag,.bool st,.string key,.int .i64 k,.int .i64 i,.string t,.slice pk ks.length ck,.slice pl l.length cl,.slice pp np cp,.slice pa na ca,.int .i64 depth,.int .i64 ts,.string hash,.slice ps ns cs] 28):=⟨_,rfl⟩;have bX:Below w.heap.size w WB:=by rw[lW];exact(Below.refl _ _).alloc (Nat.le_refl _) _
 have qB:WB.heap[w.heap.size]?=some (.cells #[.string room,.string aK,.string ag,.bool st,.string key,.int .i64 k,.int .i64 i,.string t,.slice pk ks.length ck,.slice pl l.length cl,.slice pp np cp,.slice pa na ca,.int .i64 depth,.int .i64 ts,.string hash,.slice ps ns cs] 28 (0,0)):=by rw[lW];exact heap_alloc_new _ _
 have Nr:Hid (∀W',Below w.heap.size w W'->∀x:Ending,x=.returned (.bool false)->zdq w W' ⟨room,aK,ag,st,key,⟨k,i,t,ks,l⟩,prev,aA,depth,ts,hash,sigs⟩ x):=fun W' h x hx=>⟨⟨false,hx,fun h=>by cases h⟩,h⟩
 by_cases h1:(2000:Int)<(room.size:Int)+aK.size+ag.size+key.size+hash.size
 ·go_enter Tryz.func9,Tryz.ntmps9;go_wp2;go_ret;exact Nr.out _ (lW ▸ bX) _ rfl
 by_cases h2:(30:Int)<np
 ·go_enter Tryz.func9,Tryz.ntmps9;go_wp2;go_ret;exact Nr.out _ (lW ▸ bX) _ rfl
 by_cases h3:(30:Int)<na
 ·go_enter Tryz.func9,Tryz.ntmps9;go_wp2;go_ret;exact Nr.out _ (lW ▸ bX) _ rfl
 by_cases h4:(30:Int)<ns
 ·go_enter Tryz.func9,Tryz.ntmps9;go_wp2;go_ret;exact Nr.out _ (lW ▸ bX) _ rfl
 have H1:Hid (room.size+aK.size+ag.size+key.size+hash.size<=2000):=by show _<=_;omega
 have HP:Hid (∀j,j<np->∃a,pp=some a/\WB.cell? (a.add j)=some (.string (prev.getD j aN))):=fun j hj=>by
  obtain⟨a,e,rX,rW⟩:=hp.2 j (by rw[HNP.out];exact hj);exact⟨a,e,(World.cell?_of_block (by rw[bF];exact bX.block _ (hO _ rX))).trans rW⟩
 have HA:Hid (∀j,j<na->∃a,pa=some a/\WB.cell? (a.add j)=some (.string (aA.getD j aN))):=fun j hj=>by
  obtain⟨a,e,rX,rW⟩:=ha.2 j (by rw[Pq.out];exact hj);exact⟨a,e,(World.cell?_of_block (by rw[bF];exact bX.block _ (hO _ rX))).trans rW⟩
 have HSG:Hid (∀j,j<ns->∃b o,ps=some ⟨b,o,none⟩/\WB.cell? ⟨b,o+j*2,none⟩=some (.string (sigs.getD j (aN,aN)).1)/\WB.cell? ⟨b,o+j*2+1,none⟩=some (.string (sigs.getD j (aN,aN)).2)):=fun j hj=>by
  obtain⟨b,o,e,mG,h1,h2⟩:=hs.2 j (by rw[HNS.out];exact hj);exact⟨b,o,e,(World.cell?_of_block (a:=⟨b,o+j*2,none⟩) (bX.block _ (hO _ mG))).trans h1,(World.cell?_of_block (a:=⟨b,o+j*2+1,none⟩) (bX.block _ (hO _ mG))).trans h2⟩
 have HL:Hid (∀n,Calls Tryz.prog 23 #[.agg #[.int .i64 k,.int .i64 i,.string t,.slice pk ks.length ck,.slice pl l.length cl],.int .i64 300,.int .i64 20] (WB.drewN n) fun x w'=>(∃r:Int,x=.returned (.int .i64 r)/\r<=300/\-1<=r/\(0<=r->szJ 20 (.mk k i t ks l)=true))/\Below (WB.drewN n).heap.size (WB.drewN n) w'):=fun n=>
  QR 20 (WB.drewN n) O (.mk k i t ks l) k i 20 300 t pk pl ks.length ck l.length cl (fun b hb=>Nat.lt_of_lt_of_le (hO b hb) (aj bX (Id.below_drewN WB n)).size) rfl (by decide) (by decide) (by decide) (hc.carry fun b hb=>⟨hb,(aj bX (Id.below_drewN WB n)).block b (hO b hb)⟩)
 have fQ:Hid (Below w.heap.size w WB):=bX;have HZS:Hid (∀x∈sigs,x.1.size<=140737488355328/\x.2.size<=140737488355328):=z15;clear hc hp ha hs hO bX z15;have q0:=mZ qB 0 _ rfl;have q1:=mZ qB 1 _ rfl;have q2:=mZ qB 2 _ rfl;have q4:=mZ qB 4 _ rfl;have q14:=mZ qB 14 _ rfl;have ui:=mZ qB 10 _ rfl;have q11:=mZ qB 11 _ rfl;have q15:=mZ qB 15 _ rfl;have q5:=mZ qB 5 _ rfl;have q6:=mZ qB 6 _ rfl;have q7:=mZ qB 7 _ rfl;have q8:=mZ qB 8 _ rfl;have q9:=mZ qB 9 _ rfl;go_enter Tryz.func9,Tryz.ntmps9;go_wp2;rw[<-lW];clear lW qB
 go_loopw [3] (fun v wr=>∃m:Nat,v=.int .i64 m/\m<=np/\Hid (∀x,x<m->(prev.getD x aN).size<=100)/\wr=WB) (fun v _=>np - (intOf v).toNat)
 case atStart=>exact⟨0,rfl,Nat.zero_le _,fun m hm=>absurd hm (by omega),rfl⟩
 case round=>
  obtain⟨m,rfl,hm,HX,rfl⟩:=hrel
  by_cases bH:m<np
  ·have oH:(m:Int)<(np:Int):=by omega
   obtain⟨a,rfl,zaC⟩:=HP.out m bH;obtain⟨u,hu⟩:∃u,prev.getD m aN=u:=⟨_,rfl⟩;have HU:Hid (prev.getD m aN=u):=hu;rw[hu]at zaC;clear hu
   by_cases OV:(100:Int)<u.size
   ·go_wp2;go_ret;exact Nr.out _ fQ.out _ rfl
   ·go_wp2;go_roundw
    case rel=>exact⟨m+1,by go_num,bH,fun x hx=>(Nat.lt_succ_iff_lt_or_eq.1 hx).elim (HX.out x) fun e=>by rw[e,HU.out];omega,trivial⟩
    case measure=>simp[intOf];omega
  ·obtain rfl:m=np:=by omega
   have HXP:Hid (∀x∈prev,x.size<=100):=FN (by rw[HNP.out];exact HX.out);clear HX bH hm;go_wp2
   go_loopw [4] (fun v wr2=>∃n:Nat,v=.int .i64 n/\n<=na/\Hid (∀x,x<n->(aA.getD x aN).size<=100)/\wr2=wr) (fun v _=>na - (intOf v).toNat)
   case atStart=>exact⟨0,rfl,Nat.zero_le _,fun m hm=>absurd hm (by omega),rfl⟩
   case round=>
    obtain⟨n,rfl,hn,HX,rfl⟩:=hrel
    by_cases bH:n<na
    ·have oH:(n:Int)<(na:Int):=by omega
     obtain⟨a,rfl,zaC⟩:=HA.out n bH;obtain⟨u,hu⟩:∃u,aA.getD n aN=u:=⟨_,rfl⟩;have HU:Hid (aA.getD n aN=u):=hu;rw[hu]at zaC;clear hu
     by_cases OV:(100:Int)<u.size
     ·go_wp2;go_ret;exact Nr.out _ fQ.out _ rfl
     ·go_wp2;go_roundw
      case rel=>exact⟨n+1,by go_num,bH,fun x hx=>(Nat.lt_succ_iff_lt_or_eq.1 hx).elim (HX.out x) fun e=>by rw[e,HU.out];omega,trivial⟩
      case measure=>simp[intOf];omega
    ·obtain rfl:n=na:=by omega
     have HXA:Hid (∀x∈aA,x.size<=100):=FN (by rw[Pq.out];exact HX.out);clear HX bH hn;go_wp2
     go_loopw [5] (fun v wr3=>∃(h d:Nat),v=.int .i64 h/\h<=ns/\Hid (∀x,x<h->(sigs.getD x (aN,aN)).1.size+(sigs.getD x (aN,aN)).2.size<=200)/\wr3=wr.drewN d) (fun v _=>ns - (intOf v).toNat)
     case atStart=>exact⟨0,0,rfl,Nat.zero_le _,fun m hm=>absurd hm (by omega),rfl⟩
     case round=>
      obtain⟨h,d,rfl,hh,HX,rfl⟩:=hrel
      by_cases bH:h<ns
      ·have oH:(h:Int)<(ns:Int):=by omega
       obtain⟨b,o,rfl,wL,mE⟩:=HSG.out h bH;have BZ:sigs.getD h (aN,aN)∈sigs:=by
        rw[List.getD_eq_getElem?_getD,List.getElem?_eq_getElem (by rw[HNS.out];exact bH)];exact List.getElem_mem _
       have hz:=HZS.out _ BZ;obtain⟨uv,U1⟩:∃u,sigs.getD h (aN,aN)=u:=⟨_,rfl⟩;have HU:Hid (sigs.getD h (aN,aN)=uv):=U1;rw[U1]at wL mE hz;clear U1 BZ;obtain⟨u,v⟩:=uv;obtain⟨y1,y2⟩:=hz;simp only at wL mE y1 y2
       by_cases OV:(200:Int)<(u.size:Int)+v.size
       ·go_wp2;refine wp_region_quiet_lit (by kernel_rfl) (by kernel_rfl) ?_
        repeat (any_goals (first| go_big_quiet_step (fail)| quiet_step (fail)))
        refine wpQuiet_nil ?_;intro _ hw;obtain⟨nq,hw⟩:=hw;subst hw;go_wp2;go_ret;exact Nr.out _ (aj fQ.out (by simpa [World.drewN_drewN]using Id.below_drewN _ _)) _ rfl
       ·go_wp2;refine wp_region_quiet_lit (by kernel_rfl) (by kernel_rfl) ?_
        repeat (any_goals (first| go_big_quiet_step (fail)| quiet_step (fail)))
        refine wpQuiet_nil ?_;intro _ hw;obtain⟨nq,hw⟩:=hw;subst hw;go_wp2;go_roundw
        case rel=>exact⟨h+1,_,by go_num,bH,fun x hx=>(Nat.lt_succ_iff_lt_or_eq.1 hx).elim (HX.out x) fun e=>by rw[e,HU.out];show u.size+v.size<=200;omega,rfl⟩
        case measure=>simp[intOf];omega
      ·obtain rfl:h=ns:=by omega
       have hL:=HL.out d;go_wp2_with(go_at_call 23;refine hL.mono ?_;rintro x w4 ⟨⟨r4,rfl,BP,hr5,hr6⟩,dB⟩);go_ret;refine⟨⟨_,rfl,fun hh=> ?_⟩,aj fQ.out (aj (Id.below_drewN _ _) dB)⟩;refine⟨H1.out,by show prev.length<=30;rw[HNP.out];omega,HXP.out,by show aA.length<=30;rw[Pq.out];omega,HXA.out,by show sigs.length<=30;rw[HNS.out];omega,fun x hx=> ?_,hr6 (of_decide_eq_true hh)⟩;obtain⟨y,hy,rfl⟩:=List.getElem_of_mem hx;have:=HX.out y (by rw[<-HNS.out];exact hy);rw[List.getD_eq_getElem?_getD,List.getElem?_eq_getElem hy]at this;exact this
open Go.RowKit
structure T_(l:List Kn):Prop where
 len:l.length<=20
 names:∀k∈l,k.1.size<=100
 evs:∀k∈l,CE k.2
theorem T_.sz{l:List Kn}(h:T_ l):IJ l:=⟨Nat.le_trans h.len (by decide),fun k hk=>lG 13 20 _ (by decide) (h.evs k hk).cont,fun k hk=>by have:=(h.evs k hk).texts;omega⟩
def QS(w w':World)(l:List Kn)(x:Ending):Prop:=(∃b:Bool,x=.returned (.bool b)/\(b=true->T_ l))/\Below w.heap.size w w'
theorem zdr{l:List Kn}{P:Kn->Prop}(h:∀x,x<l.length->P (l.getD x zK)):∀k∈l,P k:=fun k hk=>by
 obtain⟨y,hy,rfl⟩:=List.getElem_of_mem hk;have:=h y hy
 rwa [List.getD_eq_getElem?_getD,List.getElem?_eq_getElem hy]at this
theorem NC{O:Nat->Prop}{w:World}{p:Option Addr}{c:Nat}{l:List Kn}(h:rZ O w p c l)(hO:∀b,O b->b<w.heap.size)(hB:∀k∈l,yZ k.2):
    Calls Tryz.prog 10 #[.slice p l.length c] w fun e w'=>QS w w' l e:=by
 obtain⟨n,hn⟩:∃n,l.length=n:=⟨_,rfl⟩;have HN:Hid (l.length=n):=hn;have Nr:Hid (∀W',Below w.heap.size w W'->QS w W' l (.returned (.bool false))):=fun W' h=>⟨⟨false,rfl,fun h=>by cases h⟩,h⟩;have hc:=h.1;rw[hn]at hc ⊢;clear hn
 by_cases h20:(20:Int)<n
 ·go_enter Tryz.func10,Tryz.ntmps10;go_wp2;go_ret;exact Nr.out _ (Below.refl _ _)
 have HR:Hid (∀k,k<n->∃b o q,p=some ⟨b,o,none⟩/\b<w.heap.size/\(∀X,Below w.heap.size w X->X.cell? ⟨b,o+k*17,none⟩=some (.string (l.getD k zK).1)/\X.rangeAt b (o+k*17+1) (aB (l.getD k zK).2 q)/\iL (· <w.heap.size) X (l.getD k zK).2 q)):=fun k hk=>by
  obtain⟨b,o,q,hp,mG,bA,hE⟩:=h.2 k (by rw[HN.out];exact hk);refine⟨b,o,q,hp,hO b mG,fun X hX=>⟨(hX.cell (p:=⟨b,o+k*17,none⟩) (hO b mG)).trans (bA 0 _ rfl),fun j v hv=> ?_,hE.carry fun y hy=>⟨hO y hy,hX.block y (hO y hy)⟩⟩⟩;rw[show o+k*17+1+j=o+k*17+(j+1) by omega];exact(hX.cell (p:=⟨b,o+k*17+(j+1),none⟩) (hO b mG)).trans (bA (j+1) v hv)
 have HBG:Hid (∀k,k<n->yZ (l.getD k zK).2):=fun k hk=>hB _ (Ep (by rw[HN.out];exact hk));clear h hB;go_enter Tryz.func10,Tryz.ntmps10;go_wp2
 go_loopw [3] (fun i wx=>∃k:Nat,i=.int .i64 k/\k<=n/\Hid (∀x,x<k->(l.getD x zK).1.size<=100/\CE (l.getD x zK).2)/\Below w.heap.size w wx) (fun i _=>n - (intOf i).toNat)
 case atStart=>exact⟨0,rfl,Nat.zero_le _,fun m hm=>absurd hm (by omega),Below.refl _ _⟩
 case round=>
  obtain⟨k,rfl,hk,HF,bX⟩:=hrel
  by_cases bH:k<n
  ·have Ob:(k:Int)<(n:Int):=by omega
   obtain⟨b,o,q,rfl,OU,hX⟩:=HR.out k bH;obtain⟨NL,hrg,hE⟩:=hX wr bX;have C7:=(show Hid _ from hrg);have FP:=FO (l.getD k zK).2 q wr hE (fun y hy=>Nat.lt_of_lt_of_le hy bX.size) (HBG.out k bH);obtain⟨x,hx⟩:∃x,l.getD k zK=x:=⟨_,rfl⟩;have HU:Hid (l.getD k zK=x):=hx;rw[hx]at NL FP C7;clear hx hrg hE hX;unfold dZ at FP
   by_cases hs:(100:Int)<x.1.size
   ·go_wp2;go_ret;exact Nr.out _ bX
   ·have PK:x.1.size<=100:=by omega
    go_wp2_with(first
     | (refine bP (by kernel_rfl) 28 _ rfl b (o+k*17+1) rfl (aB x.2 q) (run_loadAt_mid _ b (o+k*17+1) 28 (aB x.2 q) _ C7.out Tryz.underlying28 rfl eQ) ?_)
     | (go_at_call 9;refine FP.mono ?_;rintro e w1 ⟨⟨bo,rfl,hbo⟩,aP⟩;cases bo))
    ·go_ret;exact Nr.out _ (ah bX aP)
    ·go_roundw
     case rel=>exact⟨k+1,by go_num,bH,fun y hy=>(Nat.lt_succ_iff_lt_or_eq.1 hy).elim (HF.out y) fun e=>by rw[e,HU.out];exact⟨PK,hbo (by trivial)⟩,ah bX aP⟩
     case measure=>simp[intOf];omega
  ·obtain rfl:k=n:=by omega
   go_wp2;go_ret;refine⟨⟨true,rfl,fun _=>⟨by rw[HN.out];omega, ?_, ?_⟩⟩,bX⟩
   ·exact zdr (P:=fun k=>k.1.size<=100) (by rw[HN.out];exact fun x hx=>(HF.out x hx).1)
   ·exact zdr (P:=fun k=>CE k.2) (by rw[HN.out];exact fun x hx=>(HF.out x hx).2)
end Go.Proofs.YtldegjjaknelgaaGreatDoor

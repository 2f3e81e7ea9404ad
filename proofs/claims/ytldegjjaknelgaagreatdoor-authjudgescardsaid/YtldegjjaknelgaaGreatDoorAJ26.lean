/- A part. -/
import Derived.Test.YtldegjjaknelgaaGreatDoorAJ25
set_option maxRecDepth 100000
set_option maxHeartbeats 64000000
namespace Go.Proofs.YtldegjjaknelgaaGreatDoor
open Go.RowKit
def mQ(e:Ev)(l:List Kn)(v:Lv):Hr:=⟨e,l,((aW l aV ⟨#[]⟩).getD zK).1,((aW l aV ⟨#[]⟩).getD zK).2,v,(aW l bF ⟨#[]⟩).isSome⟩
def Wv(u own al su:Bool)(sm tm m SK:ByteArray)(us uk nN h_ dA:Int):Bool:=
 u&&(if m.toList== [106,111,105,110]then(own&&((al&&su) || (!(tm.toList== [98,97,110])&&(((tm.toList== [106,111,105,110]) || (tm.toList== [105,110,118,105,116,101])) || (SK.toList== [112,117,98,108,105,99])))))else
  if m.toList== [105,110,118,105,116,101]then((sm.toList== [106,111,105,110])&&(!(tm.toList== [106,111,105,110])&&(!(tm.toList== [98,97,110])&&decide (dA<=us))))else
  if m.toList== [108,101,97,118,101]then(if own then(tm.toList== [106,111,105,110]) || (tm.toList== [105,110,118,105,116,101])else((sm.toList== [106,111,105,110])&&(!((tm.toList== [98,97,110])&&decide (us<nN))&&(decide (h_<=us)&&decide (uk<us)))))else
  if m.toList== [98,97,110]then((sm.toList== [106,111,105,110])&&(decide (nN<=us)&&decide (uk<us)))else false)
theorem Ww(e:Ev)(l:List Kn)(v:Lv):(mQ e l v).fO=Wv (e.st&&kH e.key) (e.key.toList==e.ah.toList) (decide (e.prev.length=1)&&((e.prev.getD 0 aT).toList==((aW l aV ⟨#[]⟩).getD zK).1.toList)) (((aW l aV ⟨#[]⟩).getD zK).2.ah.toList==e.ah.toList) (jK l e.ah) (jK l e.key) (dW e.content dG) (iH l dJ ⟨#[]⟩ jS) (pY v e.ah) (pY v e.key) v.nN v.h_ v.dA:=by
 unfold Wv;rw[<-j6,<-uP,<-kI,<-zS,<-xK]
 rfl
theorem TB{O:Nat->Prop}{w:World}{e:Ev}{p:Pt}{ps:Option Addr}{cs:Nat}{l:List Kn}{v:Lv}{q:Pl}(h:ji O w e p)(lG:pM O w ps cs l)(hL:qV O w v q)(hO:∀b,O b->b<w.heap.size)(hz:yC e)(nC:szJ 13 e.content=true)(hk:FE l)(hv:zy v):
    Calls Tryz.prog 62 #[eF e p,.slice ps l.length cs,fA v q] w fun x w'=>x=.returned (.bool (mQ e l v).fO)/\Below w.heap.size w w':=by
 obtain⟨W0,cO⟩:∃W0,W0=(w.alloc (.cells (aA e p).toArray 28)).alloc (.cells (aG v q).toArray 47):=⟨_,rfl⟩;have cK:Below w.heap.size w W0:=by rw[cO];exact((Below.refl _ _).alloc (Nat.le_refl _) _).alloc (by simp) _
 have kU:W0.heap[w.heap.size]?=some (.cells (aA e p).toArray 28 (0,0)):=by
  rw[cO];exact(((Below.refl _ (w.alloc (.cells (aA e p).toArray 28))).alloc (Nat.le_refl _) _).block _ (by simp)).trans (bz _)
 have hXL:W0.heap[w.heap.size+1]?=some (.cells (aG v q).toArray 47 (0,0)):=by
  rw[cO,show w.heap.size+1=(w.alloc (.cells (aA e p).toArray 28)).heap.size by simp];exact bz _
 have hV:=iI h hO cK kU;have HX:Hid (∀X,Below W0.heap.size W0 X->lW X w.heap.size e p):=fun X hX=>hV.below hX;have qa:Hid (∀X,Below W0.heap.size W0 X->pM (· <X.heap.size) X ps cs l):=fun X hX=>lG.carry fun k hk=>⟨Nat.lt_of_lt_of_le (hO k hk) (ag cK hX).size,(ag cK hX).block k (hO k hk)⟩;have HI:Hid (∀X,Below W0.heap.size W0 X->qV (· <X.heap.size) X v q):=fun X hX=>hL.carry fun k hk=>⟨Nat.lt_of_lt_of_le (hO k hk) (ag cK hX).size,(ag cK hX).block k (hO k hk)⟩;have Hy:Hid (∀X,Below W0.heap.size W0 X->X.heap[w.heap.size+1]?=some (.cells (aG v q).toArray 47 (0,0))):=fun X hb=>(hb.block _ (aP hXL)).trans hXL;have Fs:Hid (∀X,Below W0.heap.size W0 X->(Instr.loadAt 28 (.pointer (some ⟨w.heap.size,0,none⟩))).run Tryz.prog X=.ok (.agg (aA e p).toArray) X):=fun X hX=>run_loadAt_mid X w.heap.size 0 28 (aA e p) _ (HX.out X hX).iD Tryz.underlying28 rfl dX;have vz:Hid (∀X,Below W0.heap.size W0 X->(Instr.loadAt 47 (.pointer (some ⟨w.heap.size+1,0,none⟩))).run Tryz.prog X=.ok (.agg (aG v q).toArray) X):=fun X hb=>run_loadAt_mid X (w.heap.size+1) 0 47 (aG v q) _ (dY (Hy.out X hb)) Tryz.underlying47 rfl iX;have HBN:Hid (∀X,Below W0.heap.size W0 X->X.cell? ⟨w.heap.size+1,0,none⟩=some (.int .i64 v.nN)):=fun X hb=>ai (Hy.out X hb) 0 _ rfl;have HKI:Hid (∀X,Below W0.heap.size W0 X->X.cell? ⟨w.heap.size+1,1,none⟩=some (.int .i64 v.h_)):=fun X hb=>ai (Hy.out X hb) 1 _ rfl;have Xg:Hid (∀X,Below W0.heap.size W0 X->X.cell? ⟨w.heap.size+1,2,none⟩=some (.int .i64 v.dA)):=fun X hb=>ai (Hy.out X hb) 2 _ rfl;have HU:Hid (∀X,Calls Tryz.prog 35 #[.string e.key] X fun x w'=>x=.returned (.bool (kH e.key))/\Below X.heap.size X w'):=fun X=>FL e.key X hz.key;have HUS:Hid (∀X,Below W0.heap.size W0 X->Calls Tryz.prog 22 #[.agg (aG v q).toArray,.string e.ah] X fun x w'=>x=.returned (.int .i64 (pY v e.ah))/\Below X.heap.size X w'):=fun X hb=>vv (HI.out X hb) (fun _ h=>h) hv e.ah;have HUK:Hid (∀X,Below W0.heap.size W0 X->Calls Tryz.prog 22 #[.agg (aG v q).toArray,.string e.key] X fun x w'=>x=.returned (.int .i64 (pY v e.key))/\Below X.heap.size X w'):=fun X hb=>vv (HI.out X hb) (fun _ h=>h) hv e.key;have Wx:Hid (∀X,Below W0.heap.size W0 X->Calls Tryz.prog 18 #[.slice ps l.length cs,.string e.ah] X fun x w'=>x=.returned (.string (jK l e.ah))/\Below X.heap.size X w'):=fun X hb=>qp (qa.out X hb) (fun _ h=>h) hk e.ah;have HMK:Hid (∀X,Below W0.heap.size W0 X->Calls Tryz.prog 18 #[.slice ps l.length cs,.string e.key] X fun x w'=>x=.returned (.string (jK l e.key))/\Below X.heap.size X w'):=fun X hb=>qp (qa.out X hb) (fun _ h=>h) hk e.key;have Gu:Hid (∀X,Below W0.heap.size W0 X->Calls Tryz.prog 19 #[.agg (aA e p).toArray,.string dG] X fun x w'=>x=.returned (.string (dW e.content dG))/\Below X.heap.size X w'):=fun X hb=>lH (HX.out X hb).ev (fun _ h=>h) nC dG;have Wy:Hid (∀X,Below W0.heap.size W0 X->Calls Tryz.prog 21 #[.slice ps l.length cs,.string aV,.string ⟨#[]⟩] X fun x w'=>(∃r,x=.returned (.tuple #[.agg (az ((aW l aV ⟨#[]⟩).getD zK) r).toArray,.bool (aW l aV ⟨#[]⟩).isSome])/\ji (· <X.heap.size) w' ((aW l aV ⟨#[]⟩).getD zK).2 r)/\Below X.heap.size X w'):=fun X hb=>nR (qa.out X hb) (fun _ h=>h) hk.len aV ⟨#[]⟩;have XV:Hid (∀X,Below W0.heap.size W0 X->Calls Tryz.prog 21 #[.slice ps l.length cs,.string dJ,.string ⟨#[]⟩] X fun x w'=>(∃r,x=.returned (.tuple #[.agg (az ((aW l dJ ⟨#[]⟩).getD zK) r).toArray,.bool (aW l dJ ⟨#[]⟩).isSome])/\ji (· <X.heap.size) w' ((aW l dJ ⟨#[]⟩).getD zK).2 r)/\Below X.heap.size X w'):=fun X hb=>nR (qa.out X hb) (fun _ h=>h) hk.len dJ ⟨#[]⟩;have HZR:Hid (szJ 13 ((aW l dJ ⟨#[]⟩).getD zK).2.content=true):=yD hk dJ ⟨#[]⟩;have Uf:Hid (iH l dJ ⟨#[]⟩ jS=dW ((aW l dJ ⟨#[]⟩).getD zK).2.content jS):=rfl;have HRN:Hid ((aW l dJ ⟨#[]⟩).isSome=false->(iH l dJ ⟨#[]⟩ jS).toList= []):=fun hn=>by
  unfold iH
  cases hf:aW l dJ ⟨#[]⟩with
  | none=>exact oU
  | some k=>rw[hf]at hn;cases hn
 have HT:=(show Hid _ from Ww e l v);have hlp:=hz.prev;have bX:Hid (∀X,Below W0.heap.size W0 X->Below w.heap.size w X):=fun X hX=>ag cK hX;have D8:Below W0.heap.size W0 W0:=Below.refl _ _;generalize (aW l aV ⟨#[]⟩).getD zK=c at Wy HT;generalize (aW l aV ⟨#[]⟩).isSome=zmk at Wy;generalize (aW l dJ ⟨#[]⟩).getD zK=ru at XV HZR Uf;generalize (aW l dJ ⟨#[]⟩).isSome=zcR at XV HRN;generalize iH l dJ ⟨#[]⟩ jS=rl at HT Uf HRN;generalize pY v e.ah=us at HUS HT;generalize pY v e.key=uk at HUK HT;generalize jK l e.ah=sm at Wx HT;generalize jK l e.key=tm at HMK HT;generalize dW e.content dG=m at Gu HT;generalize kH e.key=ik at HU HT;generalize (mQ e l v).fO=res at HT ⊢;generalize v.nN=vb at HBN HT;generalize v.h_=vk at HKI HT;generalize v.dA=vi at Xg HT;clear h lG hL hV kU hXL hz nC hk hv qa HI Hy;unfold eF fA;have zfX:=(HX.out W0 D8).l9;have ek0:=(HX.out W0 D8).key;generalize hes:e.st=st at zfX HT
 cases st with
 | false=>
  go_enter Tryz.func62,Tryz.ntmps62
  go_upto_region 1 with fail
  rw[<-cO];clear cO;go_wp2;go_ret;exact⟨by rw[HT.out];rfl,bX.out _ D8⟩
 | true=>
  cases ik with
  | false=>
   go_enter Tryz.func62,Tryz.ntmps62
   go_upto_region 1 with fail
   rw[<-cO];clear cO;go_wp2_with(go_at_call 35;refine(HU.out _).mono ?_;rintro x w1 ⟨rfl,aL⟩);go_ret;exact⟨by rw[HT.out];rfl,bX.out _ aL⟩
  | true=>
   go_enter Tryz.func62,Tryz.ntmps62
   go_upto_region 1 with fail
   rw[<-cO];clear cO
   go_upto_region 3 with(go_at_call 35;refine(HU.out _).mono ?_;rintro x W ⟨rfl,eU⟩)
   clear zfX ek0 HU;refine aI (by kernel_rfl) (fun w'=>Below W.heap.size W w') ?_;change wpIn _ _ _ _ _ _ _ _ (World.drew _);have hD:Below W.heap.size W W.drew:=(Below.refl _ _).drew;refine ae (i:=0) (d:=(some 24)) (v:=(.agg (aG v q).toArray)) (a':= ?aqu0) rfl rfl (by kernel_rfl) (by kernel_rfl) (by kernel_rfl) (fun _ _ _ h=>h) (Or.inl ⟨by rfl, ?yqu0⟩) ?fqu0 ?_
   case yqu0=>exact fun wq hq=>di rfl rfl (vz.out wq (ag eU hq))
   case fqu0=>(go_frame;rfl)
   refine aa (i:=1) (d:=some 25) rfl ?_;refine aC (i:=2) (d:=some 26) rfl (by(intro wq hq;have zf:=(HX.out wq (ag eU hq)).ah;go_simp;first| done| with_reducible rfl)) ?_;refine ae (i:=4) (d:=(some 28)) (v:=(.agg (aG v q).toArray)) (a':= ?aqu4) rfl rfl (by kernel_rfl) (by kernel_rfl) (by kernel_rfl) (fun _ _ _ h=>h) (Or.inl ⟨by rfl, ?yqu4⟩) ?fqu4 ?_
   case yqu4=>exact fun wq hq=>di rfl rfl (vz.out wq (ag eU hq))
   case fqu4=>(go_frame;rfl)
   refine aa (i:=5) (d:=some 29) rfl ?_;refine aC (i:=6) (d:=some 30) rfl (by(intro wq hq;have zf:=(HX.out wq (ag eU hq)).key;go_simp;first| done| with_reducible rfl)) ?_;refine ax (i:=3) hD rfl ?_;intro K hK;go_simp;go_wp2_with(go_at_call 22;refine(HUS.out _ (ag eU hD)).mono ?_;rintro x w1 ⟨rfl,uQ⟩);have uL:Below W.heap.size W w1:=ag hD uQ;refine ax (i:=7) uL rfl ?_;intro K hK;go_simp;go_wp2_with(go_at_call 22;refine(HUK.out _ (ag eU uL)).mono ?_;rintro x w2 ⟨rfl,mf⟩);have L8:Below W.heap.size W w2:=ag uL mf;refine aa (i:=8) (d:=some 7) rfl ?_;refine aa (i:=9) (d:=some 8) rfl ?_;refine aH L8 (by kernel_rfl) ?_ _
   go_upto_region 4 with fail
   replace eU:=ag eU L8
   clear HUS HUK hD uL L8 uQ;refine aI (by kernel_rfl) (fun w'=>Below w2.heap.size w2 w') ?_;change wpIn _ _ _ _ _ _ _ _ (World.drew _);have hD:Below w2.heap.size w2 w2.drew:=(Below.refl _ _).drew;refine aa (i:=0) (d:=some 32) rfl ?_;refine aa (i:=1) (d:=some 33) rfl ?_;refine aC (i:=2) (d:=some 34) rfl (by(intro wq hq;have zf:=(HX.out wq (ag eU hq)).ah;go_simp;first| done| with_reducible rfl)) ?_;refine aa (i:=4) (d:=some 36) rfl ?_;refine aa (i:=5) (d:=some 37) rfl ?_;refine aC (i:=6) (d:=some 38) rfl (by(intro wq hq;have zf:=(HX.out wq (ag eU hq)).key;go_simp;first| done| with_reducible rfl)) ?_;refine ax (i:=3) hD rfl ?_;intro K hK;go_simp;go_wp2_with(go_at_call 18;refine(Wx.out _ (ag eU hD)).mono ?_;rintro x w3 ⟨rfl,qf⟩);have uL:Below w2.heap.size w2 w3:=ag hD qf;refine ax (i:=7) uL rfl ?_;intro K hK;go_simp;go_wp2_with(go_at_call 18;refine(HMK.out _ (ag eU uL)).mono ?_;rintro x w4 ⟨rfl,gI⟩);have L8:Below w2.heap.size w2 w4:=ag uL gI;refine aa (i:=8) (d:=some 9) rfl ?_;refine aa (i:=9) (d:=some 10) rfl ?_;refine aH L8 (by kernel_rfl) ?_ _
   go_upto_region 5 with fail
   replace eU:=ag eU L8
   clear Wx HMK hD uL L8 mf qf
   go_upto_region 6 with(first
    | (go_at_call 19;refine(Gu.out _ eU).mono ?_;rintro x w5 ⟨rfl,kF⟩)
    | (refine aQ (by kernel_rfl) 28 _ rfl w.heap.size 0 rfl (aA e p) (Fs.out _ eU) ?_))
   replace eU:=ag eU kF
   clear Gu gI kF;have ek:=(HX.out _ eU).key;have es:=(HX.out _ eU).ah;have eb:=HBN.out _ eU;have eki:=HKI.out _ eU;have ein:=Xg.out _ eU;clear Fs vz;have fu:Hid (∀b,res=b->Ending.returned (.bool b)=.returned (.bool res)):=fun b hb=>by rw[hb]
   have fD:Hid (res=Wv true (e.key.toList==e.ah.toList) (decide (e.prev.length=1)&&((e.prev.getD 0 aT).toList==c.1.toList)) (c.2.ah.toList==e.ah.toList) sm tm m rl us uk vb vk vi):=HT;clear HT;unfold Wv at fD
   cases hm:(m.toList== [106,111,105,110])with
   | false=>
    cases Rj:(m.toList== [105,110,118,105,116,101])with
    | false=>
     cases TT:(m.toList== [108,101,97,118,101])with
     | false=>
      cases hm4:(m.toList== [98,97,110])with
      | false=>
       go_wp2;go_ret;exact⟨fu.out _ (by rw[fD.out,hm,Rj,TT,hm4];rfl),bX.out _ eU⟩
      | true=>
       clear hm Rj TT;have hm:=hm4;have n1:(m.toList== [106,111,105,110])=false:=by rw[eq_of_beq hm];rfl
       have n2:(m.toList== [105,110,118,105,116,101])=false:=by rw[eq_of_beq hm];rfl
       have n3:(m.toList== [108,101,97,118,101])=false:=by rw[eq_of_beq hm];rfl
       cases h1:(sm.toList== [106,111,105,110])with
       | false=>
        have h1n:(sm.toList != [106,111,105,110])=true:=by rw[bne,h1];rfl
        go_wp2;go_ret;exact⟨fu.out _ (by rw[fD.out,n1,n2,n3,hm,h1];rfl),bX.out _ eU⟩
       | true=>
        have h1n:(sm.toList != [106,111,105,110])=false:=by rw[bne,h1];rfl
        cases h2:decide (vb<=us)with
        | false=>
         go_wp2;go_ret;exact⟨fu.out _ (by rw[fD.out,n1,n2,n3,hm,h1,h2];rfl),bX.out _ eU⟩
        | true=>
         cases h3:decide (uk<us)with
         | false=>
          go_wp2;go_ret;exact⟨fu.out _ (by rw[fD.out,n1,n2,n3,hm,h1,h2,h3];rfl),bX.out _ eU⟩
         | true=>
          go_wp2;go_ret;exact⟨fu.out _ (by rw[fD.out,n1,n2,n3,hm,h1,h2,h3];rfl),bX.out _ eU⟩
     | true=>
      clear hm Rj;have hm:=TT;have n1:(m.toList== [106,111,105,110])=false:=by rw[eq_of_beq hm];rfl
      have n2:(m.toList== [105,110,118,105,116,101])=false:=by rw[eq_of_beq hm];rfl
      cases h1:(e.key.toList==e.ah.toList)with
      | false=>
       have h1n:(e.key.toList !=e.ah.toList)=true:=by rw[bne,h1];rfl
       cases h2:(sm.toList== [106,111,105,110])with
       | false=>
        have h2n:(sm.toList != [106,111,105,110])=true:=by rw[bne,h2];rfl
        go_wp2;go_ret;exact⟨fu.out _ (by rw[fD.out,n1,n2,hm,h1,h2];rfl),bX.out _ eU⟩
       | true=>
        have h2n:(sm.toList != [106,111,105,110])=false:=by rw[bne,h2];rfl
        cases h3:(tm.toList== [98,97,110])with
        | false=>
         have h3n:(tm.toList != [98,97,110])=true:=by rw[bne,h3];rfl
         cases h5:decide (vk<=us)with
         | false=>
          go_wp2;go_ret;exact⟨fu.out _ (by rw[fD.out,n1,n2,hm,h1,h2,h3,h5];rfl),bX.out _ eU⟩
         | true=>
          cases h6:decide (uk<us)with
          | false=>
           go_wp2;go_ret;exact⟨fu.out _ (by rw[fD.out,n1,n2,hm,h1,h2,h3,h5,h6];rfl),bX.out _ eU⟩
          | true=>
           go_wp2;go_ret;exact⟨fu.out _ (by rw[fD.out,n1,n2,hm,h1,h2,h3,h5,h6];rfl),bX.out _ eU⟩
        | true=>
         have h3n:(tm.toList != [98,97,110])=false:=by rw[bne,h3];rfl
         cases h4:decide (us<vb)with
         | false=>
          cases h5:decide (vk<=us)with
          | false=>
           go_wp2;go_ret;exact⟨fu.out _ (by rw[fD.out,n1,n2,hm,h1,h2,h3,h4,h5];rfl),bX.out _ eU⟩
          | true=>
           cases h6:decide (uk<us)with
           | false=>
            go_wp2;go_ret;exact⟨fu.out _ (by rw[fD.out,n1,n2,hm,h1,h2,h3,h4,h5,h6];rfl),bX.out _ eU⟩
           | true=>
            go_wp2;go_ret;exact⟨fu.out _ (by rw[fD.out,n1,n2,hm,h1,h2,h3,h4,h5,h6];rfl),bX.out _ eU⟩
         | true=>
          go_wp2;go_ret;exact⟨fu.out _ (by rw[fD.out,n1,n2,hm,h1,h2,h3,h4];rfl),bX.out _ eU⟩
      | true=>
       have h1n:(e.key.toList !=e.ah.toList)=false:=by rw[bne,h1];rfl
       cases h2:(tm.toList== [106,111,105,110])with
       | false=>
        have h2n:(tm.toList != [106,111,105,110])=true:=by rw[bne,h2];rfl
        cases h3:(tm.toList== [105,110,118,105,116,101])with
        | false=>
         have h3n:(tm.toList != [105,110,118,105,116,101])=true:=by rw[bne,h3];rfl
         go_wp2;go_ret;exact⟨fu.out _ (by rw[fD.out,n1,n2,hm,h1,h2,h3];rfl),bX.out _ eU⟩
        | true=>
         have h3n:(tm.toList != [105,110,118,105,116,101])=false:=by rw[bne,h3];rfl
         go_wp2;go_ret;exact⟨fu.out _ (by rw[fD.out,n1,n2,hm,h1,h2,h3];rfl),bX.out _ eU⟩
       | true=>
        have h2n:(tm.toList != [106,111,105,110])=false:=by rw[bne,h2];rfl
        go_wp2;go_ret;exact⟨fu.out _ (by rw[fD.out,n1,n2,hm,h1,h2];rfl),bX.out _ eU⟩
    | true=>
     clear hm;have hm:=Rj;have n1:(m.toList== [106,111,105,110])=false:=by rw[eq_of_beq hm];rfl
     cases h1:(sm.toList== [106,111,105,110])with
     | false=>
      have h1n:(sm.toList != [106,111,105,110])=true:=by rw[bne,h1];rfl
      go_wp2;go_ret;exact⟨fu.out _ (by rw[fD.out,n1,hm,h1];rfl),bX.out _ eU⟩
     | true=>
      have h1n:(sm.toList != [106,111,105,110])=false:=by rw[bne,h1];rfl
      cases h2:(tm.toList== [106,111,105,110])with
      | false=>
       have h2n:(tm.toList != [106,111,105,110])=true:=by rw[bne,h2];rfl
       cases h3:(tm.toList== [98,97,110])with
       | false=>
        have h3n:(tm.toList != [98,97,110])=true:=by rw[bne,h3];rfl
        cases h4:decide (vi<=us)with
        | false=>
         go_wp2;go_ret;exact⟨fu.out _ (by rw[fD.out,n1,hm,h1,h2,h3,h4];rfl),bX.out _ eU⟩
        | true=>
         go_wp2;go_ret;exact⟨fu.out _ (by rw[fD.out,n1,hm,h1,h2,h3,h4];rfl),bX.out _ eU⟩
       | true=>
        have h3n:(tm.toList != [98,97,110])=false:=by rw[bne,h3];rfl
        go_wp2;go_ret;exact⟨fu.out _ (by rw[fD.out,n1,hm,h1,h2,h3];rfl),bX.out _ eU⟩
      | true=>
       have h2n:(tm.toList != [106,111,105,110])=false:=by rw[bne,h2];rfl
       go_wp2;go_ret;exact⟨fu.out _ (by rw[fD.out,n1,hm,h1,h2];rfl),bX.out _ eU⟩
   | true=>
    cases h1:(e.key.toList==e.ah.toList)with
    | false=>
     have h1n:(e.key.toList !=e.ah.toList)=true:=by rw[bne,h1];rfl
     go_wp2;go_ret;exact⟨fu.out _ (by rw[fD.out,hm,h1];rfl),bX.out _ eU⟩
    | true=>
     have h1n:(e.key.toList !=e.ah.toList)=false:=by rw[bne,h1];rfl
     go_upto_region 10 with(first
      | (go_at_call 21;refine(Wy.out _ eU).mono ?_;rintro x w6 ⟨⟨r,rfl,_⟩,pO⟩)
      | (refine wpList_store_row rfl 41 _ _ rfl w6.heap.size 41 _ (az c r).toArray rfl rfl (bz _) gV rfl (iW c r) ?_))
     have XW:Below w6.heap.size w6 ((w6.alloc (.cells (az zK Pt.zero).toArray 41)).setRow w6.heap.size (az c r).toArray):=
      ((Below.refl _ _).alloc (Nat.le_refl _) _).trans ((aX _ w6.heap.size _).below (by simp) fun q hq e=>by unfold aJ at e;omega)
     have hX7:((w6.alloc (.cells (az zK Pt.zero).toArray 41)).setRow w6.heap.size (az c r).toArray).heap[w6.heap.size]?=some (.cells (az c r).toArray 41 (0,0)):=setRow_heap _ _ _ _ _ _ (bz _);change Code.wp _ _ _ _ ((w6.alloc (.cells (az zK Pt.zero).toArray 41)).setRow w6.heap.size (az c r).toArray);generalize ((w6.alloc (.cells (az zK Pt.zero).toArray 41)).setRow w6.heap.size (az c r).toArray)=W7 at XW hX7;have hB7:=ag (ag eU pO) XW;clear Wy ek es eb eki ein;have es:=(HX.out _ hB7).ah;have ecn:W7.cell? ⟨w6.heap.size,0,none⟩=some (.string c.1):=ai hX7 0 _ rfl;have ecs:W7.cell? ⟨w6.heap.size,3,none⟩=some (.string c.2.ah):=ai hX7 3 _ rfl;have ep:=(HX.out _ hB7).prev;have hpr:=(HX.out _ hB7).ev.prev;have HE7:Hid (∀n b,res=b->Ending.returned (.bool b)=.returned (.bool res)/\Below w.heap.size w (W7.drewN n)):=fun n b hb=>⟨by rw[hb],bX.out _ (ag hB7 (qj _ _))⟩
     by_cases h2:e.prev.length=1
     ·obtain⟨a,ha,_,BF⟩:=hpr.2 0 (by omega);have Oo:=hpr.1;have JJ:decide (e.prev.length=1)=true:=decide_eq_true h2;rw[h2,ha]at ep;rw[h2]at Oo;have e0:a.add 0=a:=by obtain⟨b,o,s⟩:=a;unfold Addr.add;split<;>simp_all
      rw[e0]at BF;rw[JJ]at fD;generalize e.prev.getD 0 aT=u at BF fD;clear hpr ha h2 JJ e0 hlp
      cases h3:(u.toList==c.1.toList)with
      | false=>
       go_wp2;go_quiet (fail)
       cases h5:(tm.toList== [98,97,110])with
       | true=>
        go_wp2;go_ret;exact HE7.out _ _ (by rw[fD.out,hm,h1,h3,h5];rfl)
       | false=>
        have XX:Below W0.heap.size W0 (W7.drewN nq):=ag hB7 (qj W7 nq)
        go_upto_region 15 with(first
         | (go_at_call 21;refine(XV.out _ XX).mono ?_;rintro x w8 ⟨⟨r8,rfl,XY⟩,n_⟩)
         | (refine wpList_store_row rfl 41 _ _ rfl w8.heap.size 41 _ (az ru r8).toArray rfl rfl (bz _) gV rfl (iW ru r8) ?_))
        have mR:Below w8.heap.size w8 ((w8.alloc (.cells (az zK Pt.zero).toArray 41)).setRow w8.heap.size (az ru r8).toArray):=
         ((Below.refl _ _).alloc (Nat.le_refl _) _).trans ((aX _ w8.heap.size _).below (by simp) fun q hq e=>by unfold aJ at e;omega)
        have Nf:((w8.alloc (.cells (az zK Pt.zero).toArray 41)).setRow w8.heap.size (az ru r8).toArray).heap[w8.heap.size]?=some (.cells (az ru r8).toArray 41 (0,0)):=setRow_heap _ _ _ _ _ _ (bz _);change Code.wp _ _ _ _ ((w8.alloc (.cells (az zK Pt.zero).toArray 41)).setRow w8.heap.size (az ru r8).toArray);generalize ((w8.alloc (.cells (az zK Pt.zero).toArray 41)).setRow w8.heap.size (az ru r8).toArray)=W9 at mR Nf;have vF:=ag (ag XX n_) mR;have CB:Hid (∀X,Below W9.heap.size W9 X->X.rangeAt w8.heap.size 1 (aA ru.2 r8)):=fun X hb=>fC ((hb.block _ (aP Nf)).trans Nf) 1 rfl;have XZ:Calls Tryz.prog 19 #[.agg (aA ru.2 r8).toArray,.string jS] W9 fun x w'=>x=.returned (.string rl)/\Below W9.heap.size W9 w':=by
         rw[Uf.out];exact lH (XY.carry (O':=(· <W9.heap.size)) fun y hy=>⟨Nat.lt_of_lt_of_le hy (Nat.le_trans n_.size mR.size),mR.block y (Nat.lt_of_lt_of_le hy n_.size)⟩) (fun _ h=>h) HZR.out jS
        clear Uf HZR XY Nf n_ XV;have ARM:Hid True:=trivial
        cases h6:(tm.toList== [106,111,105,110])with
        | false=>
         have h6n:(tm.toList != [106,111,105,110])=true:=by rw[bne,h6];rfl
         cases h7:(tm.toList== [105,110,118,105,116,101])with
         | false=>
          have h7n:(tm.toList != [105,110,118,105,116,101])=true:=by rw[bne,h7];rfl
          cases zcR with
          | false=>
           have qi:(rl.toList== [112,117,98,108,105,99])=false:=by rw[HRN.out rfl];rfl
           go_wp2;go_ret;exact⟨fu.out _ (by rw[fD.out,hm,h1,h3,h5,h6,h7,qi];rfl),bX.out _ vF⟩
          | true=>
           cases qi:(rl.toList== [112,117,98,108,105,99])with
           | false=>
            have TC:(rl.toList != [112,117,98,108,105,99])=true:=by rw[bne,qi];rfl
            go_wp2_with(first
                | (refine aQ (by kernel_rfl) 28 _ rfl w8.heap.size 1 rfl (aA ru.2 r8) (run_loadAt_mid _ w8.heap.size 1 28 (aA ru.2 r8) _ (CB.out _ (Below.refl _ _)) Tryz.underlying28 rfl dX) ?_)
                | (go_at_call 19;refine XZ.mono ?_;rintro x TD ⟨rfl,wH⟩))
            go_ret;exact⟨fu.out _ (by rw[fD.out,hm,h1,h3,h5,h6,h7,qi];rfl),bX.out _ (ag vF wH)⟩
           | true=>
            have TC:(rl.toList != [112,117,98,108,105,99])=false:=by rw[bne,qi];rfl
            go_wp2_with(first
                | (refine aQ (by kernel_rfl) 28 _ rfl w8.heap.size 1 rfl (aA ru.2 r8) (run_loadAt_mid _ w8.heap.size 1 28 (aA ru.2 r8) _ (CB.out _ (Below.refl _ _)) Tryz.underlying28 rfl dX) ?_)
                | (go_at_call 19;refine XZ.mono ?_;rintro x TD ⟨rfl,wH⟩))
            go_ret;exact⟨fu.out _ (by rw[fD.out,hm,h1,h3,h5,h6,h7,qi];rfl),bX.out _ (ag vF wH)⟩
         | true=>
          have h7n:(tm.toList != [105,110,118,105,116,101])=false:=by rw[bne,h7];rfl
          go_wp2;go_ret;exact⟨fu.out _ (by rw[fD.out,hm,h1,h3,h5,h6,h7];rfl),bX.out _ vF⟩
        | true=>
         have h6n:(tm.toList != [106,111,105,110])=false:=by rw[bne,h6];rfl
         go_wp2;go_ret;exact⟨fu.out _ (by rw[fD.out,hm,h1,h3,h5,h6];rfl),bX.out _ vF⟩
      | true=>
       cases h4:(c.2.ah.toList==e.ah.toList)with
       | false=>
        go_wp2;go_quiet (fail)
        cases h5:(tm.toList== [98,97,110])with
        | true=>
         go_wp2;go_ret;exact HE7.out _ _ (by rw[fD.out,hm,h1,h3,h4,h5];rfl)
        | false=>
         have XX:Below W0.heap.size W0 (W7.drewN nq):=ag hB7 (qj W7 nq)
         go_upto_region 15 with(first
          | (go_at_call 21;refine(XV.out _ XX).mono ?_;rintro x w8 ⟨⟨r8,rfl,XY⟩,n_⟩)
          | (refine wpList_store_row rfl 41 _ _ rfl w8.heap.size 41 _ (az ru r8).toArray rfl rfl (bz _) gV rfl (iW ru r8) ?_))
         have mR:Below w8.heap.size w8 ((w8.alloc (.cells (az zK Pt.zero).toArray 41)).setRow w8.heap.size (az ru r8).toArray):=
          ((Below.refl _ _).alloc (Nat.le_refl _) _).trans ((aX _ w8.heap.size _).below (by simp) fun q hq e=>by unfold aJ at e;omega)
         have Nf:((w8.alloc (.cells (az zK Pt.zero).toArray 41)).setRow w8.heap.size (az ru r8).toArray).heap[w8.heap.size]?=some (.cells (az ru r8).toArray 41 (0,0)):=setRow_heap _ _ _ _ _ _ (bz _);change Code.wp _ _ _ _ ((w8.alloc (.cells (az zK Pt.zero).toArray 41)).setRow w8.heap.size (az ru r8).toArray);generalize ((w8.alloc (.cells (az zK Pt.zero).toArray 41)).setRow w8.heap.size (az ru r8).toArray)=W9 at mR Nf;have vF:=ag (ag XX n_) mR;have CB:Hid (∀X,Below W9.heap.size W9 X->X.rangeAt w8.heap.size 1 (aA ru.2 r8)):=fun X hb=>fC ((hb.block _ (aP Nf)).trans Nf) 1 rfl;have XZ:Calls Tryz.prog 19 #[.agg (aA ru.2 r8).toArray,.string jS] W9 fun x w'=>x=.returned (.string rl)/\Below W9.heap.size W9 w':=by
          rw[Uf.out];exact lH (XY.carry (O':=(· <W9.heap.size)) fun y hy=>⟨Nat.lt_of_lt_of_le hy (Nat.le_trans n_.size mR.size),mR.block y (Nat.lt_of_lt_of_le hy n_.size)⟩) (fun _ h=>h) HZR.out jS
         clear Uf HZR XY Nf n_ XV;have ARM:Hid True:=trivial
         cases h6:(tm.toList== [106,111,105,110])with
         | false=>
          have h6n:(tm.toList != [106,111,105,110])=true:=by rw[bne,h6];rfl
          cases h7:(tm.toList== [105,110,118,105,116,101])with
          | false=>
           have h7n:(tm.toList != [105,110,118,105,116,101])=true:=by rw[bne,h7];rfl
           cases zcR with
           | false=>
            have qi:(rl.toList== [112,117,98,108,105,99])=false:=by rw[HRN.out rfl];rfl
            go_wp2;go_ret;exact⟨fu.out _ (by rw[fD.out,hm,h1,h3,h4,h5,h6,h7,qi];rfl),bX.out _ vF⟩
           | true=>
            cases qi:(rl.toList== [112,117,98,108,105,99])with
            | false=>
             have TC:(rl.toList != [112,117,98,108,105,99])=true:=by rw[bne,qi];rfl
             go_wp2_with(first
                 | (refine aQ (by kernel_rfl) 28 _ rfl w8.heap.size 1 rfl (aA ru.2 r8) (run_loadAt_mid _ w8.heap.size 1 28 (aA ru.2 r8) _ (CB.out _ (Below.refl _ _)) Tryz.underlying28 rfl dX) ?_)
                 | (go_at_call 19;refine XZ.mono ?_;rintro x TD ⟨rfl,wH⟩))
             go_ret;exact⟨fu.out _ (by rw[fD.out,hm,h1,h3,h4,h5,h6,h7,qi];rfl),bX.out _ (ag vF wH)⟩
            | true=>
             have TC:(rl.toList != [112,117,98,108,105,99])=false:=by rw[bne,qi];rfl
             go_wp2_with(first
                 | (refine aQ (by kernel_rfl) 28 _ rfl w8.heap.size 1 rfl (aA ru.2 r8) (run_loadAt_mid _ w8.heap.size 1 28 (aA ru.2 r8) _ (CB.out _ (Below.refl _ _)) Tryz.underlying28 rfl dX) ?_)
                 | (go_at_call 19;refine XZ.mono ?_;rintro x TD ⟨rfl,wH⟩))
             go_ret;exact⟨fu.out _ (by rw[fD.out,hm,h1,h3,h4,h5,h6,h7,qi];rfl),bX.out _ (ag vF wH)⟩
          | true=>
           have h7n:(tm.toList != [105,110,118,105,116,101])=false:=by rw[bne,h7];rfl
           go_wp2;go_ret;exact⟨fu.out _ (by rw[fD.out,hm,h1,h3,h4,h5,h6,h7];rfl),bX.out _ vF⟩
         | true=>
          have h6n:(tm.toList != [106,111,105,110])=false:=by rw[bne,h6];rfl
          go_wp2;go_ret;exact⟨fu.out _ (by rw[fD.out,hm,h1,h3,h4,h5,h6];rfl),bX.out _ vF⟩
       | true=>
        go_wp2;go_quiet (fail);go_wp2;go_ret;exact HE7.out _ _ (by rw[fD.out,hm,h1,h3,h4];rfl)
     ·have JJ:decide (e.prev.length=1)=false:=decide_eq_false h2;rw[JJ]at fD;generalize e.prev.length=n at ep h2 hlp;have h2a:((n:Int)==1)=false:=by simp;omega
      have h2b:decide (n=1)=false:=decide_eq_false h2;have h2c:(n==1)=false:=by simp[h2]
      clear hpr JJ;go_wp2;go_quiet (fail)
      cases h5:(tm.toList== [98,97,110])with
      | true=>
       go_wp2;go_ret;exact HE7.out _ _ (by rw[fD.out,hm,h1,h5];rfl)
      | false=>
       have XX:Below W0.heap.size W0 (W7.drewN nq):=ag hB7 (qj W7 nq)
       go_upto_region 15 with(first
        | (go_at_call 21;refine(XV.out _ XX).mono ?_;rintro x w8 ⟨⟨r8,rfl,XY⟩,n_⟩)
        | (refine wpList_store_row rfl 41 _ _ rfl w8.heap.size 41 _ (az ru r8).toArray rfl rfl (bz _) gV rfl (iW ru r8) ?_))
       have mR:Below w8.heap.size w8 ((w8.alloc (.cells (az zK Pt.zero).toArray 41)).setRow w8.heap.size (az ru r8).toArray):=
        ((Below.refl _ _).alloc (Nat.le_refl _) _).trans ((aX _ w8.heap.size _).below (by simp) fun q hq e=>by unfold aJ at e;omega)
       have Nf:((w8.alloc (.cells (az zK Pt.zero).toArray 41)).setRow w8.heap.size (az ru r8).toArray).heap[w8.heap.size]?=some (.cells (az ru r8).toArray 41 (0,0)):=setRow_heap _ _ _ _ _ _ (bz _);change Code.wp _ _ _ _ ((w8.alloc (.cells (az zK Pt.zero).toArray 41)).setRow w8.heap.size (az ru r8).toArray);generalize ((w8.alloc (.cells (az zK Pt.zero).toArray 41)).setRow w8.heap.size (az ru r8).toArray)=W9 at mR Nf;have vF:=ag (ag XX n_) mR;have CB:Hid (∀X,Below W9.heap.size W9 X->X.rangeAt w8.heap.size 1 (aA ru.2 r8)):=fun X hb=>fC ((hb.block _ (aP Nf)).trans Nf) 1 rfl;have XZ:Calls Tryz.prog 19 #[.agg (aA ru.2 r8).toArray,.string jS] W9 fun x w'=>x=.returned (.string rl)/\Below W9.heap.size W9 w':=by
        rw[Uf.out];exact lH (XY.carry (O':=(· <W9.heap.size)) fun y hy=>⟨Nat.lt_of_lt_of_le hy (Nat.le_trans n_.size mR.size),mR.block y (Nat.lt_of_lt_of_le hy n_.size)⟩) (fun _ h=>h) HZR.out jS
       clear Uf HZR XY Nf n_ XV;have ARM:Hid True:=trivial
       cases h6:(tm.toList== [106,111,105,110])with
       | false=>
        have h6n:(tm.toList != [106,111,105,110])=true:=by rw[bne,h6];rfl
        cases h7:(tm.toList== [105,110,118,105,116,101])with
        | false=>
         have h7n:(tm.toList != [105,110,118,105,116,101])=true:=by rw[bne,h7];rfl
         cases zcR with
         | false=>
          have qi:(rl.toList== [112,117,98,108,105,99])=false:=by rw[HRN.out rfl];rfl
          go_wp2;go_ret;exact⟨fu.out _ (by rw[fD.out,hm,h1,h5,h6,h7,qi];rfl),bX.out _ vF⟩
         | true=>
          cases qi:(rl.toList== [112,117,98,108,105,99])with
          | false=>
           have TC:(rl.toList != [112,117,98,108,105,99])=true:=by rw[bne,qi];rfl
           go_wp2_with(first
               | (refine aQ (by kernel_rfl) 28 _ rfl w8.heap.size 1 rfl (aA ru.2 r8) (run_loadAt_mid _ w8.heap.size 1 28 (aA ru.2 r8) _ (CB.out _ (Below.refl _ _)) Tryz.underlying28 rfl dX) ?_)
               | (go_at_call 19;refine XZ.mono ?_;rintro x TD ⟨rfl,wH⟩))
           go_ret;exact⟨fu.out _ (by rw[fD.out,hm,h1,h5,h6,h7,qi];rfl),bX.out _ (ag vF wH)⟩
          | true=>
           have TC:(rl.toList != [112,117,98,108,105,99])=false:=by rw[bne,qi];rfl
           go_wp2_with(first
               | (refine aQ (by kernel_rfl) 28 _ rfl w8.heap.size 1 rfl (aA ru.2 r8) (run_loadAt_mid _ w8.heap.size 1 28 (aA ru.2 r8) _ (CB.out _ (Below.refl _ _)) Tryz.underlying28 rfl dX) ?_)
               | (go_at_call 19;refine XZ.mono ?_;rintro x TD ⟨rfl,wH⟩))
           go_ret;exact⟨fu.out _ (by rw[fD.out,hm,h1,h5,h6,h7,qi];rfl),bX.out _ (ag vF wH)⟩
        | true=>
         have h7n:(tm.toList != [105,110,118,105,116,101])=false:=by rw[bne,h7];rfl
         go_wp2;go_ret;exact⟨fu.out _ (by rw[fD.out,hm,h1,h5,h6,h7];rfl),bX.out _ vF⟩
       | true=>
        have h6n:(tm.toList != [106,111,105,110])=false:=by rw[bne,h6];rfl
        go_wp2;go_ret;exact⟨fu.out _ (by rw[fD.out,hm,h1,h5,h6];rfl),bX.out _ vF⟩
theorem GX{O:Nat->Prop}{w:World}{e:Ev}{p:Pt}(h:ji O w e p)(hO:∀b,O b->b<w.heap.size)(hz:yC e)(nC:szJ 13 e.content=true):
    Calls Tryz.prog 61 #[eF e p] w fun x w'=>x=.returned (.bool (iZ e))/\Below w.heap.size w w':=by
 obtain⟨W,hW⟩:∃W,W=w.alloc (.cells (aA e p).toArray 28):=⟨_,rfl⟩;have cK:Below w.heap.size w W:=by rw[hW];exact(Below.refl _ _).alloc (Nat.le_refl _) _
 have kU:W.heap[w.heap.size]?=some (.cells (aA e p).toArray 28 (0,0)):=by rw[hW];exact bz _
 have hV:=iI h hO cK kU;have HX:Hid (∀X,Below W.heap.size W X->lW X w.heap.size e p):=fun X hX=>hV.below hX;have HLX:Hid (∀X,Below W.heap.size W X->(Instr.loadAt 28 (.pointer (some ⟨w.heap.size,0,none⟩))).run Tryz.prog X=.ok (.agg (aA e p).toArray) X):=fun X hX=>run_loadAt_mid X w.heap.size 0 28 (aA e p) _ (HX.out X hX).iD Tryz.underlying28 rfl dX;have Gu:Hid (∀X,Below W.heap.size W X->Calls Tryz.prog 19 #[.agg (aA e p).toArray,.string fI] X fun x w'=>x=.returned (.string (dW e.content fI))/\Below X.heap.size X w'):=fun X hX=>lH (HX.out X hX).ev (fun _ h=>h) nC fI;have HH1:Hid (∀X,Calls Tryz.prog 95 #[.string e.room] X fun x w'=>x=.returned (.string (Id.home e.room))/\Below X.heap.size X w'):=fun X=>Id.xf e.room X (by have:=hz.room;omega);have HH2:Hid (∀X,Calls Tryz.prog 95 #[.string e.ah] X fun x w'=>x=.returned (.string (Id.home e.ah))/\Below X.heap.size X w'):=fun X=>Id.xf e.ah X (by have:=hz.ah;omega);have hlp:=hz.prev;have hla:=hz.aD;have HC:Hid (iZ e=(e.st&&((e.key.toList== [])&&(decide (e.prev.length+e.aD.length=0)&&(((Id.home e.room).toList==(Id.home e.ah).toList)&&((dW e.content fI).toList==e.ah.toList)))))):=by
  show _=_
  unfold iZ fT;rw[oU,show decide (e.prev.length+e.aD.length=0)=(decide (e.prev.length=0)&&decide (e.aD.length=0)) by rw[<-Bool.decide_and];congr 1;simp,Bool.and_assoc]
 generalize dW e.content fI=m at Gu HC;generalize Id.home e.room=r1 at HH1 HC;generalize Id.home e.ah=r2 at HH2 HC;have bX:Hid (∀X,Below W.heap.size W X->Below w.heap.size w X):=fun X hX=>ag cK hX;clear h hV kU;unfold eF;go_enter Tryz.func61,Tryz.ntmps61
 go_upto_region 1 with fail
 rw[<-hW];clear hW;refine aI (by kernel_rfl) (fun w'=>Below W.heap.size W w') ?_;change wpIn _ _ _ _ _ _ _ _ (World.drew _);have hD:Below W.heap.size W W.drew:=(Below.refl _ _).drew
 cases hs:e.st with
 | false=>
  refine aa (i:=0) (d:=some 3) rfl ?_;refine aC (i:=1) (d:=some 4) rfl (by(intro wq hq;have zf:=(HX.out wq hq).l9;go_simp;first| done| with_reducible rfl)) ?_;refine aa (i:=2) (d:=some 5) rfl ?_;refine ae (i:=3) (d:=(some 6)) (v:=undef) (a':= ?aqca3) rfl rfl (by kernel_rfl) (by kernel_rfl) (by kernel_rfl) (fun _ _ _ h=>h) (Or.inr ⟨by rfl,rfl⟩) ?fqca3 ?_
  case fqca3=>(go_frame;rfl)
  refine ae (i:=4) (d:=(some 7)) (v:=undef) (a':= ?aqca4) rfl rfl (by kernel_rfl) (by kernel_rfl) (by kernel_rfl) (fun _ _ _ h=>h) (Or.inr ⟨by rfl,rfl⟩) ?fqca4 ?_
  case fqca4=>(go_frame;rfl)
  refine ae (i:=5) (d:=(some 8)) (v:=undef) (a':= ?aqca5) rfl rfl (by kernel_rfl) (by kernel_rfl) (by kernel_rfl) (fun _ _ _ h=>h) (Or.inr ⟨by rfl,rfl⟩) ?fqca5 ?_
  case fqca5=>(go_frame;rfl)
  refine aa (i:=6) (d:=some 9) rfl ?_;refine aa (i:=7) (d:=some 10) rfl ?_;refine ae (i:=8) (d:=(some 11)) (v:=undef) (a':= ?aqca8) rfl rfl (by kernel_rfl) (by kernel_rfl) (by kernel_rfl) (fun _ _ _ h=>h) (Or.inr ⟨by rfl,rfl⟩) ?fqca8 ?_
  case fqca8=>(go_frame;rfl)
  refine ae (i:=9) (d:=(some 12)) (v:=undef) (a':= ?aqca9) rfl rfl (by kernel_rfl) (by kernel_rfl) (by kernel_rfl) (fun _ _ _ h=>h) (Or.inr ⟨by rfl,rfl⟩) ?fqca9 ?_
  case fqca9=>(go_frame;rfl)
  refine ae (i:=10) (d:=(some 13)) (v:=undef) (a':= ?aqca10) rfl rfl (by kernel_rfl) (by kernel_rfl) (by kernel_rfl) (fun _ _ _ h=>h) (Or.inr ⟨by rfl,rfl⟩) ?fqca10 ?_
  case fqca10=>(go_frame;rfl)
  refine ae (i:=11) (d:=(some 14)) (v:=undef) (a':= ?aqca11) rfl rfl (by kernel_rfl) (by kernel_rfl) (by kernel_rfl) (fun _ _ _ h=>h) (Or.inr ⟨by rfl,rfl⟩) ?fqca11 ?_
  case fqca11=>(go_frame;rfl)
  refine ae (i:=12) (d:=(some 15)) (v:=undef) (a':= ?aqca12) rfl rfl (by kernel_rfl) (by kernel_rfl) (by kernel_rfl) (fun _ _ _ h=>h) (Or.inr ⟨by rfl,rfl⟩) ?fqca12 ?_
  case fqca12=>(go_frame;rfl)
  refine ae (i:=13) (d:=(some 16)) (v:=undef) (a':= ?aqca13) rfl rfl (by kernel_rfl) (by kernel_rfl) (by kernel_rfl) (fun _ _ _ h=>h) (Or.inr ⟨by rfl,rfl⟩) ?fqca13 ?_
  case fqca13=>(go_frame;rfl)
  refine ae (i:=14) (d:=(some 17)) (v:=undef) (a':= ?aqca14) rfl rfl (by kernel_rfl) (by kernel_rfl) (by kernel_rfl) (fun _ _ _ h=>h) (Or.inr ⟨by rfl,rfl⟩) ?fqca14 ?_
  case fqca14=>(go_frame;rfl)
  refine ae (i:=15) (d:=(some 18)) (v:=undef) (a':= ?aqca15) rfl rfl (by kernel_rfl) (by kernel_rfl) (by kernel_rfl) (fun _ _ _ h=>h) (Or.inr ⟨by rfl,rfl⟩) ?fqca15 ?_
  case fqca15=>(go_frame;rfl)
  refine aa (i:=16) (d:=some 19) rfl ?_;refine aa (i:=17) (d:=some 20) rfl ?_;refine ae (i:=18) (d:=(some 21)) (v:=undef) (a':= ?aqca18) rfl rfl (by kernel_rfl) (by kernel_rfl) (by kernel_rfl) (fun _ _ _ h=>h) (Or.inr ⟨by rfl,rfl⟩) ?fqca18 ?_
  case fqca18=>(go_frame;rfl)
  refine ae (i:=19) (d:=(some 22)) (v:=undef) (a':= ?aqca19) rfl rfl (by kernel_rfl) (by kernel_rfl) (by kernel_rfl) (fun _ _ _ h=>h) (Or.inr ⟨by rfl,rfl⟩) ?fqca19 ?_
  case fqca19=>(go_frame;rfl)
  refine ae (i:=20) (d:=(some 23)) (v:=undef) (a':= ?aqca20) rfl rfl (by kernel_rfl) (by kernel_rfl) (by kernel_rfl) (fun _ _ _ h=>h) (Or.inr ⟨by rfl,rfl⟩) ?fqca20 ?_
  case fqca20=>(go_frame;rfl)
  refine ae (i:=21) (d:=(some 24)) (v:=undef) (a':= ?aqca21) rfl rfl (by kernel_rfl) (by kernel_rfl) (by kernel_rfl) (fun _ _ _ h=>h) (Or.inr ⟨by rfl,rfl⟩) ?fqca21 ?_
  case fqca21=>(go_frame;rfl)
  refine ae (i:=22) (d:=(some 25)) (v:=undef) (a':= ?aqca22) rfl rfl (by kernel_rfl) (by kernel_rfl) (by kernel_rfl) (fun _ _ _ h=>h) (Or.inr ⟨by rfl,rfl⟩) ?fqca22 ?_
  case fqca22=>(go_frame;rfl)
  refine ae (i:=23) (d:=(some 26)) (v:=undef) (a':= ?aqca23) rfl rfl (by kernel_rfl) (by kernel_rfl) (by kernel_rfl) (fun _ _ _ h=>h) (Or.inr ⟨by rfl,rfl⟩) ?fqca23 ?_
  case fqca23=>(go_frame;rfl)
  refine ae (i:=24) (d:=(some 27)) (v:=undef) (a':= ?aqca24) rfl rfl (by kernel_rfl) (by kernel_rfl) (by kernel_rfl) (fun _ _ _ h=>h) (Or.inr ⟨by rfl,rfl⟩) ?fqca24 ?_
  case fqca24=>(go_frame;rfl)
  refine aa (i:=25) (d:=some 28) rfl ?_;refine aa (i:=26) (d:=some 29) rfl ?_;refine ae (i:=27) (d:=(some 30)) (v:=undef) (a':= ?aqca27) rfl rfl (by kernel_rfl) (by kernel_rfl) (by kernel_rfl) (fun _ _ _ h=>h) (Or.inr ⟨by rfl,rfl⟩) ?fqca27 ?_
  case fqca27=>(go_frame;rfl)
  refine ae (i:=28) (d:=(some 31)) (v:=undef) (a':= ?aqca28) rfl rfl (by kernel_rfl) (by kernel_rfl) (by kernel_rfl) (fun _ _ _ h=>h) (Or.inr ⟨by rfl,rfl⟩) ?fqca28 ?_
  case fqca28=>(go_frame;rfl)
  refine ae (i:=29) (d:=(some 32)) (v:=undef) (a':= ?aqca29) rfl rfl (by kernel_rfl) (by kernel_rfl) (by kernel_rfl) (fun _ _ _ h=>h) (Or.inr ⟨by rfl,rfl⟩) ?fqca29 ?_
  case fqca29=>(go_frame;rfl)
  refine ae (i:=30) (d:=(some 33)) (v:=undef) (a':= ?aqca30) rfl rfl (by kernel_rfl) (by kernel_rfl) (by kernel_rfl) (fun _ _ _ h=>h) (Or.inr ⟨by rfl,rfl⟩) ?fqca30 ?_
  case fqca30=>(go_frame;rfl)
  refine ae (i:=31) (d:=(some 34)) (v:=undef) (a':= ?aqca31) rfl rfl (by kernel_rfl) (by kernel_rfl) (by kernel_rfl) (fun _ _ _ h=>h) (Or.inr ⟨by rfl,rfl⟩) ?fqca31 ?_
  case fqca31=>(go_frame;rfl)
  refine aa (i:=32) (d:=some 35) rfl ?_;refine aa (i:=33) (d:=some 2) rfl ?_;refine aH hD (by kernel_rfl) ?_ _;go_wp2;go_ret;exact⟨by rw[HC.out,hs];rfl,bX.out _ hD⟩
 | true=>
  cases hk:(e.key.toList== [])with
  | false=>
   have rM:e.key.toList.isEmpty=false:=by cases hq:e.key.toList with| nil=>rw[hq]at hk;simp at hk| cons a b=>rfl
   refine aa (i:=0) (d:=some 3) rfl ?_;refine aC (i:=1) (d:=some 4) rfl (by(intro wq hq;have zf:=(HX.out wq hq).l9;go_simp;first| done| with_reducible rfl)) ?_;refine aa (i:=2) (d:=some 5) rfl ?_;refine aa (i:=3) (d:=some 6) rfl ?_;refine aC (i:=4) (d:=some 7) rfl (by(intro wq hq;have zf:=(HX.out wq hq).key;go_simp;first| done| with_reducible rfl)) ?_;refine aa (i:=5) (d:=some 8) rfl ?_;refine aa (i:=6) (d:=some 9) rfl ?_;refine aa (i:=7) (d:=some 10) rfl ?_;refine ae (i:=8) (d:=(some 11)) (v:=undef) (a':= ?aqcb8) rfl rfl (by kernel_rfl) (by kernel_rfl) (by kernel_rfl) (fun _ _ _ h=>h) (Or.inr ⟨by rfl,rfl⟩) ?fqcb8 ?_
   case fqcb8=>(go_frame;rfl)
   refine ae (i:=9) (d:=(some 12)) (v:=undef) (a':= ?aqcb9) rfl rfl (by kernel_rfl) (by kernel_rfl) (by kernel_rfl) (fun _ _ _ h=>h) (Or.inr ⟨by rfl,rfl⟩) ?fqcb9 ?_
   case fqcb9=>(go_frame;rfl)
   refine ae (i:=10) (d:=(some 13)) (v:=undef) (a':= ?aqcb10) rfl rfl (by kernel_rfl) (by kernel_rfl) (by kernel_rfl) (fun _ _ _ h=>h) (Or.inr ⟨by rfl,rfl⟩) ?fqcb10 ?_
   case fqcb10=>(go_frame;rfl)
   refine ae (i:=11) (d:=(some 14)) (v:=undef) (a':= ?aqcb11) rfl rfl (by kernel_rfl) (by kernel_rfl) (by kernel_rfl) (fun _ _ _ h=>h) (Or.inr ⟨by rfl,rfl⟩) ?fqcb11 ?_
   case fqcb11=>(go_frame;rfl)
   refine ae (i:=12) (d:=(some 15)) (v:=undef) (a':= ?aqcb12) rfl rfl (by kernel_rfl) (by kernel_rfl) (by kernel_rfl) (fun _ _ _ h=>h) (Or.inr ⟨by rfl,rfl⟩) ?fqcb12 ?_
   case fqcb12=>(go_frame;rfl)
   refine ae (i:=13) (d:=(some 16)) (v:=undef) (a':= ?aqcb13) rfl rfl (by kernel_rfl) (by kernel_rfl) (by kernel_rfl) (fun _ _ _ h=>h) (Or.inr ⟨by rfl,rfl⟩) ?fqcb13 ?_
   case fqcb13=>(go_frame;rfl)
   refine ae (i:=14) (d:=(some 17)) (v:=undef) (a':= ?aqcb14) rfl rfl (by kernel_rfl) (by kernel_rfl) (by kernel_rfl) (fun _ _ _ h=>h) (Or.inr ⟨by rfl,rfl⟩) ?fqcb14 ?_
   case fqcb14=>(go_frame;rfl)
   refine ae (i:=15) (d:=(some 18)) (v:=undef) (a':= ?aqcb15) rfl rfl (by kernel_rfl) (by kernel_rfl) (by kernel_rfl) (fun _ _ _ h=>h) (Or.inr ⟨by rfl,rfl⟩) ?fqcb15 ?_
   case fqcb15=>(go_frame;rfl)
   refine aa (i:=16) (d:=some 19) rfl ?_;refine aa (i:=17) (d:=some 20) rfl ?_;refine ae (i:=18) (d:=(some 21)) (v:=undef) (a':= ?aqcb18) rfl rfl (by kernel_rfl) (by kernel_rfl) (by kernel_rfl) (fun _ _ _ h=>h) (Or.inr ⟨by rfl,rfl⟩) ?fqcb18 ?_
   case fqcb18=>(go_frame;rfl)
   refine ae (i:=19) (d:=(some 22)) (v:=undef) (a':= ?aqcb19) rfl rfl (by kernel_rfl) (by kernel_rfl) (by kernel_rfl) (fun _ _ _ h=>h) (Or.inr ⟨by rfl,rfl⟩) ?fqcb19 ?_
   case fqcb19=>(go_frame;rfl)
   refine ae (i:=20) (d:=(some 23)) (v:=undef) (a':= ?aqcb20) rfl rfl (by kernel_rfl) (by kernel_rfl) (by kernel_rfl) (fun _ _ _ h=>h) (Or.inr ⟨by rfl,rfl⟩) ?fqcb20 ?_
   case fqcb20=>(go_frame;rfl)
   refine ae (i:=21) (d:=(some 24)) (v:=undef) (a':= ?aqcb21) rfl rfl (by kernel_rfl) (by kernel_rfl) (by kernel_rfl) (fun _ _ _ h=>h) (Or.inr ⟨by rfl,rfl⟩) ?fqcb21 ?_
   case fqcb21=>(go_frame;rfl)
   refine ae (i:=22) (d:=(some 25)) (v:=undef) (a':= ?aqcb22) rfl rfl (by kernel_rfl) (by kernel_rfl) (by kernel_rfl) (fun _ _ _ h=>h) (Or.inr ⟨by rfl,rfl⟩) ?fqcb22 ?_
   case fqcb22=>(go_frame;rfl)
   refine ae (i:=23) (d:=(some 26)) (v:=undef) (a':= ?aqcb23) rfl rfl (by kernel_rfl) (by kernel_rfl) (by kernel_rfl) (fun _ _ _ h=>h) (Or.inr ⟨by rfl,rfl⟩) ?fqcb23 ?_
   case fqcb23=>(go_frame;rfl)
   refine ae (i:=24) (d:=(some 27)) (v:=undef) (a':= ?aqcb24) rfl rfl (by kernel_rfl) (by kernel_rfl) (by kernel_rfl) (fun _ _ _ h=>h) (Or.inr ⟨by rfl,rfl⟩) ?fqcb24 ?_
   case fqcb24=>(go_frame;rfl)
   refine aa (i:=25) (d:=some 28) rfl ?_;refine aa (i:=26) (d:=some 29) rfl ?_;refine ae (i:=27) (d:=(some 30)) (v:=undef) (a':= ?aqcb27) rfl rfl (by kernel_rfl) (by kernel_rfl) (by kernel_rfl) (fun _ _ _ h=>h) (Or.inr ⟨by rfl,rfl⟩) ?fqcb27 ?_
   case fqcb27=>(go_frame;rfl)
   refine ae (i:=28) (d:=(some 31)) (v:=undef) (a':= ?aqcb28) rfl rfl (by kernel_rfl) (by kernel_rfl) (by kernel_rfl) (fun _ _ _ h=>h) (Or.inr ⟨by rfl,rfl⟩) ?fqcb28 ?_
   case fqcb28=>(go_frame;rfl)
   refine ae (i:=29) (d:=(some 32)) (v:=undef) (a':= ?aqcb29) rfl rfl (by kernel_rfl) (by kernel_rfl) (by kernel_rfl) (fun _ _ _ h=>h) (Or.inr ⟨by rfl,rfl⟩) ?fqcb29 ?_
   case fqcb29=>(go_frame;rfl)
   refine ae (i:=30) (d:=(some 33)) (v:=undef) (a':= ?aqcb30) rfl rfl (by kernel_rfl) (by kernel_rfl) (by kernel_rfl) (fun _ _ _ h=>h) (Or.inr ⟨by rfl,rfl⟩) ?fqcb30 ?_
   case fqcb30=>(go_frame;rfl)
   refine ae (i:=31) (d:=(some 34)) (v:=undef) (a':= ?aqcb31) rfl rfl (by kernel_rfl) (by kernel_rfl) (by kernel_rfl) (fun _ _ _ h=>h) (Or.inr ⟨by rfl,rfl⟩) ?fqcb31 ?_
   case fqcb31=>(go_frame;rfl)
   refine aa (i:=32) (d:=some 35) rfl ?_;refine aa (i:=33) (d:=some 2) rfl ?_;refine aH hD (by kernel_rfl) ?_ _;go_wp2;go_ret;exact⟨by rw[HC.out,hs,hk];rfl,bX.out _ hD⟩
  | true=>
   have rM:e.key.toList.isEmpty=true:=by simpa using hk
   cases hp:decide (e.prev.length+e.aD.length=0)with
   | false=>
    have mX:(((e.prev.length:Int)+(e.aD.length:Int))==0)=false:=by have h1:¬(e.prev.length+e.aD.length=0):=of_decide_eq_false hp;exact beq_false_of_ne (by omega)
    have Oi:(e.prev.length+e.aD.length==0)=false:=by simpa using hp
    have UY:(IntKind.i64.wrap ((e.prev.length:Int)+(e.aD.length:Int))==0)=false:=by rw[jM _ (by omega) (by omega)];exact mX
    refine aa (i:=0) (d:=some 3) rfl ?_;refine aC (i:=1) (d:=some 4) rfl (by(intro wq hq;have zf:=(HX.out wq hq).l9;go_simp;first| done| with_reducible rfl)) ?_;refine aa (i:=2) (d:=some 5) rfl ?_;refine aa (i:=3) (d:=some 6) rfl ?_;refine aC (i:=4) (d:=some 7) rfl (by(intro wq hq;have zf:=(HX.out wq hq).key;go_simp;first| done| with_reducible rfl)) ?_;refine aa (i:=5) (d:=some 8) rfl ?_;refine aa (i:=6) (d:=some 9) rfl ?_;refine aa (i:=7) (d:=some 10) rfl ?_;refine aa (i:=8) (d:=some 11) rfl ?_;refine aC (i:=9) (d:=some 12) rfl (by(intro wq hq;have zf:=(HX.out wq hq).prev;go_simp;first| done| with_reducible rfl)) ?_;refine aa (i:=10) (d:=some 13) rfl ?_;refine aa (i:=11) (d:=some 14) rfl ?_;refine aC (i:=12) (d:=some 15) rfl (by(intro wq hq;have zf:=(HX.out wq hq).Ck;go_simp;first| done| with_reducible rfl)) ?_;refine aa (i:=13) (d:=some 16) rfl ?_;refine aa (i:=14) (d:=some 17) rfl ?_;refine aa (i:=15) (d:=some 18) rfl ?_;refine aa (i:=16) (d:=some 19) rfl ?_;refine aa (i:=17) (d:=some 20) rfl ?_;refine ae (i:=18) (d:=(some 21)) (v:=undef) (a':= ?aqcc18) rfl rfl (by kernel_rfl) (by kernel_rfl) (by kernel_rfl) (fun _ _ _ h=>h) (Or.inr ⟨by rfl,rfl⟩) ?fqcc18 ?_
    case fqcc18=>(go_frame;rfl)
    refine ae (i:=19) (d:=(some 22)) (v:=undef) (a':= ?aqcc19) rfl rfl (by kernel_rfl) (by kernel_rfl) (by kernel_rfl) (fun _ _ _ h=>h) (Or.inr ⟨by rfl,rfl⟩) ?fqcc19 ?_
    case fqcc19=>(go_frame;rfl)
    refine ae (i:=20) (d:=(some 23)) (v:=undef) (a':= ?aqcc20) rfl rfl (by kernel_rfl) (by kernel_rfl) (by kernel_rfl) (fun _ _ _ h=>h) (Or.inr ⟨by rfl,rfl⟩) ?fqcc20 ?_
    case fqcc20=>(go_frame;rfl)
    refine ae (i:=21) (d:=(some 24)) (v:=undef) (a':= ?aqcc21) rfl rfl (by kernel_rfl) (by kernel_rfl) (by kernel_rfl) (fun _ _ _ h=>h) (Or.inr ⟨by rfl,rfl⟩) ?fqcc21 ?_
    case fqcc21=>(go_frame;rfl)
    refine ae (i:=22) (d:=(some 25)) (v:=undef) (a':= ?aqcc22) rfl rfl (by kernel_rfl) (by kernel_rfl) (by kernel_rfl) (fun _ _ _ h=>h) (Or.inr ⟨by rfl,rfl⟩) ?fqcc22 ?_
    case fqcc22=>(go_frame;rfl)
    refine ae (i:=23) (d:=(some 26)) (v:=undef) (a':= ?aqcc23) rfl rfl (by kernel_rfl) (by kernel_rfl) (by kernel_rfl) (fun _ _ _ h=>h) (Or.inr ⟨by rfl,rfl⟩) ?fqcc23 ?_
    case fqcc23=>(go_frame;rfl)
    refine ae (i:=24) (d:=(some 27)) (v:=undef) (a':= ?aqcc24) rfl rfl (by kernel_rfl) (by kernel_rfl) (by kernel_rfl) (fun _ _ _ h=>h) (Or.inr ⟨by rfl,rfl⟩) ?fqcc24 ?_
    case fqcc24=>(go_frame;rfl)
    refine aa (i:=25) (d:=some 28) rfl ?_;refine aa (i:=26) (d:=some 29) rfl ?_;refine ae (i:=27) (d:=(some 30)) (v:=undef) (a':= ?aqcc27) rfl rfl (by kernel_rfl) (by kernel_rfl) (by kernel_rfl) (fun _ _ _ h=>h) (Or.inr ⟨by rfl,rfl⟩) ?fqcc27 ?_
    case fqcc27=>(go_frame;rfl)
    refine ae (i:=28) (d:=(some 31)) (v:=undef) (a':= ?aqcc28) rfl rfl (by kernel_rfl) (by kernel_rfl) (by kernel_rfl) (fun _ _ _ h=>h) (Or.inr ⟨by rfl,rfl⟩) ?fqcc28 ?_
    case fqcc28=>(go_frame;rfl)
    refine ae (i:=29) (d:=(some 32)) (v:=undef) (a':= ?aqcc29) rfl rfl (by kernel_rfl) (by kernel_rfl) (by kernel_rfl) (fun _ _ _ h=>h) (Or.inr ⟨by rfl,rfl⟩) ?fqcc29 ?_
    case fqcc29=>(go_frame;rfl)
    refine ae (i:=30) (d:=(some 33)) (v:=undef) (a':= ?aqcc30) rfl rfl (by kernel_rfl) (by kernel_rfl) (by kernel_rfl) (fun _ _ _ h=>h) (Or.inr ⟨by rfl,rfl⟩) ?fqcc30 ?_
    case fqcc30=>(go_frame;rfl)
    refine ae (i:=31) (d:=(some 34)) (v:=undef) (a':= ?aqcc31) rfl rfl (by kernel_rfl) (by kernel_rfl) (by kernel_rfl) (fun _ _ _ h=>h) (Or.inr ⟨by rfl,rfl⟩) ?fqcc31 ?_
    case fqcc31=>(go_frame;rfl)
    refine aa (i:=32) (d:=some 35) rfl ?_;refine aa (i:=33) (d:=some 2) rfl ?_;refine aH hD (by kernel_rfl) ?_ _;go_wp2;go_ret;exact⟨by rw[HC.out,hs,hk,hp];rfl,bX.out _ hD⟩
   | true=>
    have mX:(((e.prev.length:Int)+(e.aD.length:Int))==0)=true:=by have h1:e.prev.length+e.aD.length=0:=of_decide_eq_true hp;exact beq_iff_eq.2 (by omega)
    have Oi:(e.prev.length+e.aD.length==0)=true:=by simpa using hp
    have UY:(IntKind.i64.wrap ((e.prev.length:Int)+(e.aD.length:Int))==0)=true:=by rw[jM _ (by omega) (by omega)];exact mX
    cases hh:(r1.toList==r2.toList)with
    | false=>
     refine aa (i:=0) (d:=some 3) rfl ?_;refine aC (i:=1) (d:=some 4) rfl (by(intro wq hq;have zf:=(HX.out wq hq).l9;go_simp;first| done| with_reducible rfl)) ?_;refine aa (i:=2) (d:=some 5) rfl ?_;refine aa (i:=3) (d:=some 6) rfl ?_;refine aC (i:=4) (d:=some 7) rfl (by(intro wq hq;have zf:=(HX.out wq hq).key;go_simp;first| done| with_reducible rfl)) ?_;refine aa (i:=5) (d:=some 8) rfl ?_;refine aa (i:=6) (d:=some 9) rfl ?_;refine aa (i:=7) (d:=some 10) rfl ?_;refine aa (i:=8) (d:=some 11) rfl ?_;refine aC (i:=9) (d:=some 12) rfl (by(intro wq hq;have zf:=(HX.out wq hq).prev;go_simp;first| done| with_reducible rfl)) ?_;refine aa (i:=10) (d:=some 13) rfl ?_;refine aa (i:=11) (d:=some 14) rfl ?_;refine aC (i:=12) (d:=some 15) rfl (by(intro wq hq;have zf:=(HX.out wq hq).Ck;go_simp;first| done| with_reducible rfl)) ?_;refine aa (i:=13) (d:=some 16) rfl ?_;refine aa (i:=14) (d:=some 17) rfl ?_;refine aa (i:=15) (d:=some 18) rfl ?_;refine aa (i:=16) (d:=some 19) rfl ?_;refine aa (i:=17) (d:=some 20) rfl ?_;refine aa (i:=18) (d:=some 21) rfl ?_;refine aC (i:=19) (d:=some 22) rfl (by(intro wq hq;have zf:=(HX.out wq hq).room;go_simp;first| done| with_reducible rfl)) ?_;refine aa (i:=21) (d:=some 24) rfl ?_;refine aC (i:=22) (d:=some 25) rfl (by(intro wq hq;have zf:=(HX.out wq hq).ah;go_simp;first| done| with_reducible rfl)) ?_;refine ax (i:=20) hD rfl ?_;intro K hK;go_simp;go_wp2_with(go_at_call 95;refine(HH1.out _).mono ?_;rintro e w1 ⟨rfl,uQ⟩);have TE:Below W.heap.size W w1:=ag hD uQ;refine ax (i:=23) TE rfl ?_;intro K hK;go_simp;go_wp2_with(go_at_call 95;refine(HH2.out _).mono ?_;rintro e w2 ⟨rfl,mf⟩);have wU:Below W.heap.size W w2:=ag TE mf;refine aa (i:=24) (d:=some 27) rfl ?_;refine aa (i:=25) (d:=some 28) rfl ?_;refine aa (i:=26) (d:=some 29) rfl ?_;refine ae (i:=27) (d:=(some 30)) (v:=undef) (a':= ?aqce27) rfl rfl (by kernel_rfl) (by kernel_rfl) (by kernel_rfl) (fun _ _ _ h=>h) (Or.inr ⟨by rfl,rfl⟩) ?fqce27 ?_
     case fqce27=>(go_frame;rfl)
     refine ae (i:=28) (d:=(some 31)) (v:=undef) (a':= ?aqce28) rfl rfl (by kernel_rfl) (by kernel_rfl) (by kernel_rfl) (fun _ _ _ h=>h) (Or.inr ⟨by rfl,rfl⟩) ?fqce28 ?_
     case fqce28=>(go_frame;rfl)
     refine ae (i:=29) (d:=(some 32)) (v:=undef) (a':= ?aqce29) rfl rfl (by kernel_rfl) (by kernel_rfl) (by kernel_rfl) (fun _ _ _ h=>h) (Or.inr ⟨by rfl,rfl⟩) ?fqce29 ?_
     case fqce29=>(go_frame;rfl)
     refine ae (i:=30) (d:=(some 33)) (v:=undef) (a':= ?aqce30) rfl rfl (by kernel_rfl) (by kernel_rfl) (by kernel_rfl) (fun _ _ _ h=>h) (Or.inr ⟨by rfl,rfl⟩) ?fqce30 ?_
     case fqce30=>(go_frame;rfl)
     refine ae (i:=31) (d:=(some 34)) (v:=undef) (a':= ?aqce31) rfl rfl (by kernel_rfl) (by kernel_rfl) (by kernel_rfl) (fun _ _ _ h=>h) (Or.inr ⟨by rfl,rfl⟩) ?fqce31 ?_
     case fqce31=>(go_frame;rfl)
     refine aa (i:=32) (d:=some 35) rfl ?_;refine aa (i:=33) (d:=some 2) rfl ?_;refine aH wU (by kernel_rfl) ?_ _;go_wp2;go_ret;exact⟨by rw[HC.out,hs,hk,hp,hh];rfl,bX.out _ wU⟩
    | true=>
     refine aa (i:=0) (d:=some 3) rfl ?_;refine aC (i:=1) (d:=some 4) rfl (by(intro wq hq;have zf:=(HX.out wq hq).l9;go_simp;first| done| with_reducible rfl)) ?_;refine aa (i:=2) (d:=some 5) rfl ?_;refine aa (i:=3) (d:=some 6) rfl ?_;refine aC (i:=4) (d:=some 7) rfl (by(intro wq hq;have zf:=(HX.out wq hq).key;go_simp;first| done| with_reducible rfl)) ?_;refine aa (i:=5) (d:=some 8) rfl ?_;refine aa (i:=6) (d:=some 9) rfl ?_;refine aa (i:=7) (d:=some 10) rfl ?_;refine aa (i:=8) (d:=some 11) rfl ?_;refine aC (i:=9) (d:=some 12) rfl (by(intro wq hq;have zf:=(HX.out wq hq).prev;go_simp;first| done| with_reducible rfl)) ?_;refine aa (i:=10) (d:=some 13) rfl ?_;refine aa (i:=11) (d:=some 14) rfl ?_;refine aC (i:=12) (d:=some 15) rfl (by(intro wq hq;have zf:=(HX.out wq hq).Ck;go_simp;first| done| with_reducible rfl)) ?_;refine aa (i:=13) (d:=some 16) rfl ?_;refine aa (i:=14) (d:=some 17) rfl ?_;refine aa (i:=15) (d:=some 18) rfl ?_;refine aa (i:=16) (d:=some 19) rfl ?_;refine aa (i:=17) (d:=some 20) rfl ?_;refine aa (i:=18) (d:=some 21) rfl ?_;refine aC (i:=19) (d:=some 22) rfl (by(intro wq hq;have zf:=(HX.out wq hq).room;go_simp;first| done| with_reducible rfl)) ?_;refine aa (i:=21) (d:=some 24) rfl ?_;refine aC (i:=22) (d:=some 25) rfl (by(intro wq hq;have zf:=(HX.out wq hq).ah;go_simp;first| done| with_reducible rfl)) ?_;refine ax (i:=20) hD rfl ?_;intro K hK;go_simp;go_wp2_with(go_at_call 95;refine(HH1.out _).mono ?_;rintro e w1 ⟨rfl,uQ⟩);have TE:Below W.heap.size W w1:=ag hD uQ;refine ax (i:=23) TE rfl ?_;intro K hK;go_simp;go_wp2_with(go_at_call 95;refine(HH2.out _).mono ?_;rintro e w2 ⟨rfl,mf⟩);have wU:Below W.heap.size W w2:=ag TE mf;refine aa (i:=24) (d:=some 27) rfl ?_;refine aa (i:=25) (d:=some 28) rfl ?_;refine aa (i:=26) (d:=some 29) rfl ?_;refine ae (i:=27) (d:=(some 30)) (v:=(.agg (aA e p).toArray)) (a':= ?aqcf27) rfl rfl (by kernel_rfl) (by kernel_rfl) (by kernel_rfl) (fun _ _ _ h=>h) (Or.inl ⟨by rfl, ?yqcf27⟩) ?fqcf27 ?_
     case yqcf27=>exact fun wq hq=>di rfl rfl (HLX.out wq hq)
     case fqcf27=>(go_frame;rfl)
     refine aa (i:=29) (d:=some 32) rfl ?_;refine aC (i:=30) (d:=some 33) rfl (by(intro wq hq;have zf:=(HX.out wq hq).ah;go_simp;first| done| with_reducible rfl)) ?_;refine ax (i:=28) wU rfl ?_;intro K hK;go_simp;go_wp2_with(go_at_call 19;refine(Gu.out _ wU).mono ?_;rintro e w3 ⟨rfl,qf⟩);have GY:Below W.heap.size W w3:=ag wU qf;refine aa (i:=31) (d:=some 34) rfl ?_;refine aa (i:=32) (d:=some 35) rfl ?_;refine aa (i:=33) (d:=some 2) rfl ?_;refine aH GY (by kernel_rfl) ?_ _;go_wp2;go_ret;exact⟨by rw[HC.out,hs,hk,hp,hh];rfl,bX.out _ GY⟩
theorem zdc(l:Lv):fnd (nums l) uE=some l.nN:=by simp[nums,fnd,Lib.toList_data]
theorem zdd(l:Lv):fnd (nums l) mI=some l.h_:=by simp[nums,fnd,Lib.toList_data]
theorem zde(l:Lv):fnd (nums l) ic=some l.dA:=by simp[nums,fnd,Lib.toList_data]
theorem zdf(l:Lv):fnd (nums l) ig=some l.fM:=by simp[nums,fnd,Lib.toList_data]
theorem zdg(l:Lv):fnd (nums l) jG=some l.state:=by simp[nums,fnd,Lib.toList_data]
theorem zdh(l:Lv):fnd (nums l) il=some l.events:=by simp[nums,fnd,Lib.toList_data]
theorem zdi(l:Lv):fnd (nums l) jH=some l.iB:=by simp[nums,fnd,Lib.toList_data]
theorem wV(f:iw->Bool)(a b:jl):quiet f a b= !(a++b).any (fun p=>(zx a b p).turns&&f (zx a b p)):=by
 unfold quiet yz;rw[List.any_filter,List.any_map]
 rfl
theorem Wz(s x y:Int)(n:ByteArray):(iw.turns ⟨n,some x,some y⟩&&iw.gJ s ⟨n,some x,some y⟩)=kN s x y:=by
 unfold iw.turns iw.gJ kN over;simp
theorem L9(s:Int)(a b:Lv):quiet (iw.gJ s) (nums a) (nums b)=sj s (n7 a) (n7 b):=by
 rw[wV];have key:∀(l:Lv),(nums l).any (fun p=>(zx (nums a) (nums b) p).turns&&iw.gJ s (zx (nums a) (nums b) p))=((n7 a).zip (n7 b)).any fun q=>kN s q.1 q.2:=fun l=>by
  simp only[nums,n7,zx,List.any_cons,List.any_nil,List.zip_cons_cons,List.zip_nil_left];simp only[show∀x:Lv, [(uE,x.nN),(mI,x.h_),(ic,x.dA),(ig,x.fM),(jG,x.state),(il,x.events),(jH,x.iB)]=nums x from fun _=>rfl,zdc,zdd,zde,zdf,zdg,zdh,zdi,Wz]
 rw[List.any_append,key a,key b,Bool.or_self,sj]
theorem PR(a b:jl)(s:Int)(pQ:ByteArray):quiet (iw.gJ s) a b=jN a b pQ s false (a++b):=by
 rw[wV,jN,List.not_any_eq_all_not]
 congr 1<;>(funext p;simp[D_,zx,iw.gJ])
theorem L_(a b:jl)(s:Int)(pQ:ByteArray):quiet (iw.bad pQ s) a b=jN a b pQ s true (a++b):=by
 rw[wV,jN,List.not_any_eq_all_not]
 congr 1<;>(funext p;simp[D_,zx,iw.gJ,iw.bad,Bool.or_assoc])
theorem TF(a b:Lv)(u:ByteArray):Bb a b u=GU a b u:=by
 unfold Bb GU;rw[L9,PR _ _ _ ⟨#[]⟩,L_]
end Go.Proofs.YtldegjjaknelgaaGreatDoor

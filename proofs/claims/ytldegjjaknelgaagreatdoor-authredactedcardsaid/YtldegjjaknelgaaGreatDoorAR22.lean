/- A part. -/
import Derived.Test.YtldegjjaknelgaaGreatDoorAR21
import Derived.Defers
import Derived.Recover
set_option maxRecDepth 100000
set_option maxHeartbeats 64000000
namespace Go.Proofs.YtldegjjaknelgaaGreatDoor
open Go.RowKit
section
variable {w : World} {hb : Nat} {h : Hr} {p : Ph}
theorem JC(x:iK w hb h p)(hz:NV h):Calls Tryz.prog 53 #[.pointer (some ⟨hb,0,none⟩)] w fun e w'=>e=fO h.iU/\Below w.heap.size w w':=by
 have HM:Hid (h.iU=((h.e.st&&wO h.e.key)&&(if eX (eB h.e.content dt) jf then h.jK else if eX (eB h.e.content dt) kz then h.gD&&(!eX h.target jf&&(!eX h.target wP&&decide (h.l.gN<=h.s)))else if eX (eB h.e.content dt) II then h.leaves else if eX (eB h.e.content dt) wP then h.gD&&(decide (h.l.wN<=h.s)&&decide (h.t<h.s))else false))):=rfl;have zY:Hid (∀X,Below w.heap.size w X->iK X hb h p):=fun X hX=>x.below hX;have hU:=Id.oM h.e.key w (by have:=hz.e.key;omega);have YB:Hid (∀X,Below w.heap.size w X->Calls Tryz.prog 31 #[.agg #[.int .i64 h.e.content.kind,.int .i64 h.e.content.int,.string h.e.content.text,.slice p.e.pk h.e.content.keys.length p.e.ck,.slice p.e.pl h.e.content.list.length p.e.cl],.string dt] X fun e w'=>e=.returned (.string (eB h.e.content dt))/\Below X.heap.size X w'):=fun X hX=>p9 (O:=(· <X.heap.size)) (j:=h.e.content) (zY.out X hX).ev.cont (fun _ h=>h) (o5 hz.e.cont) dt;have YC:Hid (∀X,Below w.heap.size w X->Calls Tryz.prog 86 #[.pointer (some ⟨hb,0,none⟩)] X fun e w'=>e=.returned (.string h.target)/\Below X.heap.size X w'):=fun X hX=>rG (zY.out X hX) hz;have YD:Hid (∀X,Below w.heap.size w X->Calls Tryz.prog 55 #[.pointer (some ⟨hb,0,none⟩)] X fun e w'=>e=.returned (.bool h.gD)/\Below X.heap.size X w'):=fun X hX=>rF (zY.out X hX) hz;have U8:Hid (∀X,Below w.heap.size w X->Calls Tryz.prog 56 #[.pointer (some ⟨hb,0,none⟩)] X fun e w'=>e=.returned (.int .i64 h.s)/\Below X.heap.size X w'):=fun X hX=>vw (zY.out X hX) hz;have Yr:Hid (∀X,Below w.heap.size w X->Calls Tryz.prog 88 #[.pointer (some ⟨hb,0,none⟩)] X fun e w'=>e=.returned (.int .i64 h.t)/\Below X.heap.size X w'):=fun X hX=>Bg (zY.out X hX) hz;have YE:Hid (∀X,Below w.heap.size w X->Calls Tryz.prog 85 #[.pointer (some ⟨hb,0,none⟩)] X fun e w'=>e=fO h.jK/\Below X.heap.size X w'):=fun X hX=>Nw (zY.out X hX) hz;have YF:Hid (∀X,Below w.heap.size w X->Calls Tryz.prog 87 #[.pointer (some ⟨hb,0,none⟩)] X fun e w'=>e=fO h.leaves/\Below X.heap.size X w'):=fun X hX=>JB (zY.out X hX) hz;have hk:=x.key;clear x;unfold eX at HM;rw[ni,lK,Jv,yT]at HM;unfold wO at HM;generalize Id.parts 64 h.e.key=y at hU HM;obtain⟨y1,y2,yu⟩:=y;simp only[Id.told]at hU;simp only at HM;generalize eB h.e.content dt=m at YB HM;generalize h.target=tg at YC HM;generalize h.gD=bj at YD HM;generalize h.s=S at U8 HM;generalize h.t=T at Yr HM;generalize h.jK=js at YE HM;generalize h.leaves=ls at YF HM;go_enter Tryz.func53,Tryz.ntmps53
 go_upto_region 1 with(go_at_call 84;refine hU.mono ?_;rintro e w1 ⟨rfl,aP⟩)
 have ny:=(zY.out w1 aP).tu;generalize h.e.st=bs at ny HM
 cases bs with
 | false=>
  have HT:Hid (h.iU=false):=by show _=_;rw[HM.out];rfl
  clear HM;go_wp2_with(go_at_call 54;refine(bB _ _).mono ?_;rintro e wn ⟨he,rfl⟩;replace he:e=_:=he;subst he);exact⟨rfl,by rw[HT.out],aP⟩
 | true=>
  cases yu with
  | false=>
   have HT:Hid (h.iU=false):=by show _=_;rw[HM.out];rfl
   clear HM;go_wp2_with(go_at_call 54;refine(bB _ _).mono ?_;rintro e wn ⟨he,rfl⟩;replace he:e=_:=he;subst he);exact⟨rfl,by rw[HT.out],aP⟩
  | true=>
   simp only[Bool.and_self,Bool.true_and]at HM
   go_upto_region 2 with(go_at_call 54;refine(bB _ _).mono ?_;rintro e wn ⟨he,rfl⟩;replace he:e=_:=he;subst he)
   have HR:Hid (w1.rangeAt hb 5 [.int .i64 h.e.content.kind,.int .i64 h.e.content.int,.string h.e.content.text,.slice p.e.pk h.e.content.keys.length p.e.ck,.slice p.e.pl h.e.content.list.length p.e.cl]):=(zY.out w1 aP).vv;have NY:=YB.out w1 aP
   go_upto_region 3 with(first
    | (refine wpList_load_mid rfl 25 _ rfl hb 5 rfl _ _ HR.out Tryz.underlying25 rfl (by kernel_rfl) ?_)
    | (go_at_call 31;refine NY.mono ?_;rintro e W ⟨rfl,aT⟩))
   have p_:=ah aP aT;have HX:Hid (∀X,Below W.heap.size W X->iK X hb h p):=fun X hX=>zY.out X (ah p_ hX);have fQ:Hid (∀X,Below W.heap.size W X->Below w.heap.size w X):=fun X hX=>ah p_ hX;have HTg:Hid (∀X,Below W.heap.size W X->Calls Tryz.prog 86 #[.pointer (some ⟨hb,0,none⟩)] X fun e w'=>e=.returned (.string tg)/\Below X.heap.size X w'):=fun X hX=>YC.out X (ah p_ hX);have QK:Hid (∀X,Below W.heap.size W X->Calls Tryz.prog 55 #[.pointer (some ⟨hb,0,none⟩)] X fun e w'=>e=.returned (.bool bj)/\Below X.heap.size X w'):=fun X hX=>YD.out X (ah p_ hX);have HS:Hid (∀X,Below W.heap.size W X->Calls Tryz.prog 56 #[.pointer (some ⟨hb,0,none⟩)] X fun e w'=>e=.returned (.int .i64 S)/\Below X.heap.size X w'):=fun X hX=>U8.out X (ah p_ hX);have HTT:Hid (∀X,Below W.heap.size W X->Calls Tryz.prog 88 #[.pointer (some ⟨hb,0,none⟩)] X fun e w'=>e=.returned (.int .i64 T)/\Below X.heap.size X w'):=fun X hX=>Yr.out X (ah p_ hX);have hJs:=YE.out W p_;have hLs:=YF.out W p_;have hTg:=HTg.out W (Below.refl _ _);clear zY YC YD U8 Yr YE YF YB NY hU aP aT p_ HR ny
   cases m1:(m.toList== [106,111,105,110])with
   | true=>
    have HT:Hid (h.iU=js):=by show _=_;rw[HM.out,m1];rfl
    clear HM;go_wp2_with(go_at_call 85;refine hJs.mono ?_;rintro e w3 ⟨rfl,dA⟩);exact⟨rfl,by rw[HT.out],fQ.out _ dA⟩
   | false=>
    cases m2:(m.toList== [105,110,118,105,116,101])with
    | true=>
     have HT:Hid (h.iU=(bj&&(!(tg.toList== [106,111,105,110])&&(!(tg.toList== [98,97,110])&&decide (h.l.gN<=S))))):=by show _=_;rw[HM.out,m1,m2];rfl
     clear HM
     go_upto_region 7 with(go_at_call 86;refine hTg.mono ?_;rintro e w3 ⟨rfl,dA⟩)
     refine aF (by kernel_rfl) (fun w'=>Below W.heap.size W w') ?_;change wpIn _ _ _ _ _ _ _ _ (World.drew _);have hD:Below W.heap.size W w3.drew:=dA.drew
     cases bj with
     | false=>
      refine aa (i:=0) (d:=some 41) rfl ?_;refine ak (i:=1) hD rfl ?_;intro K hK;go_simp;go_wp2_with(go_at_call 55;refine(QK.out _ hD).mono ?_;rintro e w4 ⟨rfl,h_⟩);have gJ:Below W.heap.size W w4:=ah hD h_;refine aa (i:=2) (d:=some 43) rfl ?_;refine ae (i:=3) (d:=(some 44)) (v:=undef) (a':= ?aqia3) rfl rfl (by kernel_rfl) (by kernel_rfl) (by kernel_rfl) (fun _ _ _ h=>h) (Or.inr ⟨by rfl,rfl⟩) ?fqia3 ?_
      case fqia3=>(go_frame;rfl)
      refine ae (i:=4) (d:=(some 45)) (v:=undef) (a':= ?aqia4) rfl rfl (by kernel_rfl) (by kernel_rfl) (by kernel_rfl) (fun _ _ _ h=>h) (Or.inr ⟨by rfl,rfl⟩) ?fqia4 ?_
      case fqia4=>(go_frame;rfl)
      refine aa (i:=5) (d:=some 46) rfl ?_;refine aa (i:=6) (d:=some 47) rfl ?_;refine ae (i:=7) (d:=(some 48)) (v:=undef) (a':= ?aqia7) rfl rfl (by kernel_rfl) (by kernel_rfl) (by kernel_rfl) (fun _ _ _ h=>h) (Or.inr ⟨by rfl,rfl⟩) ?fqia7 ?_
      case fqia7=>(go_frame;rfl)
      refine ae (i:=8) (d:=(some 49)) (v:=undef) (a':= ?aqia8) rfl rfl (by kernel_rfl) (by kernel_rfl) (by kernel_rfl) (fun _ _ _ h=>h) (Or.inr ⟨by rfl,rfl⟩) ?fqia8 ?_
      case fqia8=>(go_frame;rfl)
      refine aa (i:=9) (d:=some 50) rfl ?_;refine aa (i:=10) (d:=some 51) rfl ?_;refine ae (i:=11) (d:=(some 52)) (v:=undef) (a':= ?aqia11) rfl rfl (by kernel_rfl) (by kernel_rfl) (by kernel_rfl) (fun _ _ _ h=>h) (Or.inr ⟨by rfl,rfl⟩) ?fqia11 ?_
      case fqia11=>(go_frame;rfl)
      refine ae (i:=12) (d:=(some 53)) (v:=undef) (a':= ?aqia12) rfl rfl (by kernel_rfl) (by kernel_rfl) (by kernel_rfl) (fun _ _ _ h=>h) (Or.inr ⟨by rfl,rfl⟩) ?fqia12 ?_
      case fqia12=>(go_frame;rfl)
      refine ae (i:=13) (d:=(some 54)) (v:=undef) (a':= ?aqia13) rfl rfl (by kernel_rfl) (by kernel_rfl) (by kernel_rfl) (fun _ _ _ h=>h) (Or.inr ⟨by rfl,rfl⟩) ?fqia13 ?_
      case fqia13=>(go_frame;rfl)
      refine ae (i:=14) (d:=(some 55)) (v:=undef) (a':= ?aqia14) rfl rfl (by kernel_rfl) (by kernel_rfl) (by kernel_rfl) (fun _ _ _ h=>h) (Or.inr ⟨by rfl,rfl⟩) ?fqia14 ?_
      case fqia14=>(go_frame;rfl)
      refine ae (i:=15) (d:=(some 56)) (v:=undef) (a':= ?aqia15) rfl rfl (by kernel_rfl) (by kernel_rfl) (by kernel_rfl) (fun _ _ _ h=>h) (Or.inr ⟨by rfl,rfl⟩) ?fqia15 ?_
      case fqia15=>(go_frame;rfl)
      refine ae (i:=16) (d:=(some 57)) (v:=undef) (a':= ?aqia16) rfl rfl (by kernel_rfl) (by kernel_rfl) (by kernel_rfl) (fun _ _ _ h=>h) (Or.inr ⟨by rfl,rfl⟩) ?fqia16 ?_
      case fqia16=>(go_frame;rfl)
      refine ae (i:=17) (d:=(some 58)) (v:=undef) (a':= ?aqia17) rfl rfl (by kernel_rfl) (by kernel_rfl) (by kernel_rfl) (fun _ _ _ h=>h) (Or.inr ⟨by rfl,rfl⟩) ?fqia17 ?_
      case fqia17=>(go_frame;rfl)
      refine ae (i:=18) (d:=(some 59)) (v:=undef) (a':= ?aqia18) rfl rfl (by kernel_rfl) (by kernel_rfl) (by kernel_rfl) (fun _ _ _ h=>h) (Or.inr ⟨by rfl,rfl⟩) ?fqia18 ?_
      case fqia18=>(go_frame;rfl)
      refine aa (i:=19) (d:=some 60) rfl ?_;refine ak (i:=20) gJ rfl ?_;intro K hK;go_simp;go_wp2_with(go_at_call 50;refine(dE _ _).mono ?_;rintro e w9 ⟨rfl,wE⟩);exact⟨rfl,by rw[HT.out];simp,fQ.out _ (wE ▸ gJ)⟩
     | true=>
      cases t1:(tg.toList== [106,111,105,110])with
      | true=>
       refine aa (i:=0) (d:=some 41) rfl ?_;refine ak (i:=1) hD rfl ?_;intro K hK;go_simp;go_wp2_with(go_at_call 55;refine(QK.out _ hD).mono ?_;rintro e w4 ⟨rfl,h_⟩);have gJ:Below W.heap.size W w4:=ah hD h_;refine aa (i:=2) (d:=some 43) rfl ?_;refine aa (i:=3) (d:=some 44) rfl ?_;refine aa (i:=4) (d:=some 45) rfl ?_;refine aa (i:=5) (d:=some 46) rfl ?_;refine aa (i:=6) (d:=some 47) rfl ?_;refine ae (i:=7) (d:=(some 48)) (v:=undef) (a':= ?aqib7) rfl rfl (by kernel_rfl) (by kernel_rfl) (by kernel_rfl) (fun _ _ _ h=>h) (Or.inr ⟨by rfl,rfl⟩) ?fqib7 ?_
       case fqib7=>(go_frame;rfl)
       refine ae (i:=8) (d:=(some 49)) (v:=undef) (a':= ?aqib8) rfl rfl (by kernel_rfl) (by kernel_rfl) (by kernel_rfl) (fun _ _ _ h=>h) (Or.inr ⟨by rfl,rfl⟩) ?fqib8 ?_
       case fqib8=>(go_frame;rfl)
       refine aa (i:=9) (d:=some 50) rfl ?_;refine aa (i:=10) (d:=some 51) rfl ?_;refine ae (i:=11) (d:=(some 52)) (v:=undef) (a':= ?aqib11) rfl rfl (by kernel_rfl) (by kernel_rfl) (by kernel_rfl) (fun _ _ _ h=>h) (Or.inr ⟨by rfl,rfl⟩) ?fqib11 ?_
       case fqib11=>(go_frame;rfl)
       refine ae (i:=12) (d:=(some 53)) (v:=undef) (a':= ?aqib12) rfl rfl (by kernel_rfl) (by kernel_rfl) (by kernel_rfl) (fun _ _ _ h=>h) (Or.inr ⟨by rfl,rfl⟩) ?fqib12 ?_
       case fqib12=>(go_frame;rfl)
       refine ae (i:=13) (d:=(some 54)) (v:=undef) (a':= ?aqib13) rfl rfl (by kernel_rfl) (by kernel_rfl) (by kernel_rfl) (fun _ _ _ h=>h) (Or.inr ⟨by rfl,rfl⟩) ?fqib13 ?_
       case fqib13=>(go_frame;rfl)
       refine ae (i:=14) (d:=(some 55)) (v:=undef) (a':= ?aqib14) rfl rfl (by kernel_rfl) (by kernel_rfl) (by kernel_rfl) (fun _ _ _ h=>h) (Or.inr ⟨by rfl,rfl⟩) ?fqib14 ?_
       case fqib14=>(go_frame;rfl)
       refine ae (i:=15) (d:=(some 56)) (v:=undef) (a':= ?aqib15) rfl rfl (by kernel_rfl) (by kernel_rfl) (by kernel_rfl) (fun _ _ _ h=>h) (Or.inr ⟨by rfl,rfl⟩) ?fqib15 ?_
       case fqib15=>(go_frame;rfl)
       refine ae (i:=16) (d:=(some 57)) (v:=undef) (a':= ?aqib16) rfl rfl (by kernel_rfl) (by kernel_rfl) (by kernel_rfl) (fun _ _ _ h=>h) (Or.inr ⟨by rfl,rfl⟩) ?fqib16 ?_
       case fqib16=>(go_frame;rfl)
       refine ae (i:=17) (d:=(some 58)) (v:=undef) (a':= ?aqib17) rfl rfl (by kernel_rfl) (by kernel_rfl) (by kernel_rfl) (fun _ _ _ h=>h) (Or.inr ⟨by rfl,rfl⟩) ?fqib17 ?_
       case fqib17=>(go_frame;rfl)
       refine ae (i:=18) (d:=(some 59)) (v:=undef) (a':= ?aqib18) rfl rfl (by kernel_rfl) (by kernel_rfl) (by kernel_rfl) (fun _ _ _ h=>h) (Or.inr ⟨by rfl,rfl⟩) ?fqib18 ?_
       case fqib18=>(go_frame;rfl)
       refine aa (i:=19) (d:=some 60) rfl ?_;refine ak (i:=20) gJ rfl ?_;intro K hK;go_simp;go_wp2_with(go_at_call 50;refine(dE _ _).mono ?_;rintro e w9 ⟨rfl,wE⟩);exact⟨rfl,by rw[HT.out,t1];simp,fQ.out _ (wE ▸ gJ)⟩
      | false=>
       cases t2:(tg.toList== [98,97,110])with
       | true=>
        refine aa (i:=0) (d:=some 41) rfl ?_;refine ak (i:=1) hD rfl ?_;intro K hK;go_simp;go_wp2_with(go_at_call 55;refine(QK.out _ hD).mono ?_;rintro e w4 ⟨rfl,h_⟩);have gJ:Below W.heap.size W w4:=ah hD h_;refine aa (i:=2) (d:=some 43) rfl ?_;refine aa (i:=3) (d:=some 44) rfl ?_;refine aa (i:=4) (d:=some 45) rfl ?_;refine aa (i:=5) (d:=some 46) rfl ?_;refine aa (i:=6) (d:=some 47) rfl ?_;refine aa (i:=7) (d:=some 48) rfl ?_;refine aa (i:=8) (d:=some 49) rfl ?_;refine aa (i:=9) (d:=some 50) rfl ?_;refine aa (i:=10) (d:=some 51) rfl ?_;refine ae (i:=11) (d:=(some 52)) (v:=undef) (a':= ?aqic11) rfl rfl (by kernel_rfl) (by kernel_rfl) (by kernel_rfl) (fun _ _ _ h=>h) (Or.inr ⟨by rfl,rfl⟩) ?fqic11 ?_
        case fqic11=>(go_frame;rfl)
        refine ae (i:=12) (d:=(some 53)) (v:=undef) (a':= ?aqic12) rfl rfl (by kernel_rfl) (by kernel_rfl) (by kernel_rfl) (fun _ _ _ h=>h) (Or.inr ⟨by rfl,rfl⟩) ?fqic12 ?_
        case fqic12=>(go_frame;rfl)
        refine ae (i:=13) (d:=(some 54)) (v:=undef) (a':= ?aqic13) rfl rfl (by kernel_rfl) (by kernel_rfl) (by kernel_rfl) (fun _ _ _ h=>h) (Or.inr ⟨by rfl,rfl⟩) ?fqic13 ?_
        case fqic13=>(go_frame;rfl)
        refine ae (i:=14) (d:=(some 55)) (v:=undef) (a':= ?aqic14) rfl rfl (by kernel_rfl) (by kernel_rfl) (by kernel_rfl) (fun _ _ _ h=>h) (Or.inr ⟨by rfl,rfl⟩) ?fqic14 ?_
        case fqic14=>(go_frame;rfl)
        refine ae (i:=15) (d:=(some 56)) (v:=undef) (a':= ?aqic15) rfl rfl (by kernel_rfl) (by kernel_rfl) (by kernel_rfl) (fun _ _ _ h=>h) (Or.inr ⟨by rfl,rfl⟩) ?fqic15 ?_
        case fqic15=>(go_frame;rfl)
        refine ae (i:=16) (d:=(some 57)) (v:=undef) (a':= ?aqic16) rfl rfl (by kernel_rfl) (by kernel_rfl) (by kernel_rfl) (fun _ _ _ h=>h) (Or.inr ⟨by rfl,rfl⟩) ?fqic16 ?_
        case fqic16=>(go_frame;rfl)
        refine ae (i:=17) (d:=(some 58)) (v:=undef) (a':= ?aqic17) rfl rfl (by kernel_rfl) (by kernel_rfl) (by kernel_rfl) (fun _ _ _ h=>h) (Or.inr ⟨by rfl,rfl⟩) ?fqic17 ?_
        case fqic17=>(go_frame;rfl)
        refine ae (i:=18) (d:=(some 59)) (v:=undef) (a':= ?aqic18) rfl rfl (by kernel_rfl) (by kernel_rfl) (by kernel_rfl) (fun _ _ _ h=>h) (Or.inr ⟨by rfl,rfl⟩) ?fqic18 ?_
        case fqic18=>(go_frame;rfl)
        refine aa (i:=19) (d:=some 60) rfl ?_;refine ak (i:=20) gJ rfl ?_;intro K hK;go_simp;go_wp2_with(go_at_call 50;refine(dE _ _).mono ?_;rintro e w9 ⟨rfl,wE⟩);exact⟨rfl,by rw[HT.out,t1,t2];simp,fQ.out _ (wE ▸ gJ)⟩
       | false=>
        refine aa (i:=0) (d:=some 41) rfl ?_;refine ak (i:=1) hD rfl ?_;intro K hK;go_simp;go_wp2_with(go_at_call 55;refine(QK.out _ hD).mono ?_;rintro e w4 ⟨rfl,h_⟩);have gJ:Below W.heap.size W w4:=ah hD h_;refine aa (i:=2) (d:=some 43) rfl ?_;refine aa (i:=3) (d:=some 44) rfl ?_;refine aa (i:=4) (d:=some 45) rfl ?_;refine aa (i:=5) (d:=some 46) rfl ?_;refine aa (i:=6) (d:=some 47) rfl ?_;refine aa (i:=7) (d:=some 48) rfl ?_;refine aa (i:=8) (d:=some 49) rfl ?_;refine aa (i:=9) (d:=some 50) rfl ?_;refine aa (i:=10) (d:=some 51) rfl ?_;refine aa (i:=11) (d:=some 52) rfl ?_;refine aa (i:=13) (d:=some 54) rfl ?_;refine aa (i:=14) (d:=some 55) rfl ?_;refine aa (i:=15) (d:=some 56) rfl ?_;refine aa (i:=16) (d:=some 57) rfl ?_;refine az (i:=17) (d:=some 58) rfl (by(intro wq hq;have zf:=(HX.out wq hq).gN;go_simp;first| done| with_reducible rfl)) ?_;refine ak (i:=12) gJ rfl ?_;intro K hK;go_simp;go_wp2_with(go_at_call 56;refine(HS.out _ gJ).mono ?_;rintro e w5 ⟨rfl,iJ⟩);have U_:Below W.heap.size W w5:=ah gJ iJ;refine aa (i:=18) (d:=some 59) rfl ?_;refine aa (i:=19) (d:=some 60) rfl ?_;refine ak (i:=20) U_ rfl ?_;intro K hK;go_simp;go_wp2_with(go_at_call 50;refine(dE _ _).mono ?_;rintro e w9 ⟨rfl,wE⟩);exact⟨rfl,by rw[HT.out,t1,t2];simp,fQ.out _ (wE ▸ U_)⟩
    | false=>
     cases m3:(m.toList== [108,101,97,118,101])with
     | true=>
      have HT:Hid (h.iU=ls):=by show _=_;rw[HM.out,m1,m2,m3];rfl
      clear HM;go_wp2_with(go_at_call 87;refine hLs.mono ?_;rintro e w3 ⟨rfl,dA⟩);exact⟨rfl,by rw[HT.out],fQ.out _ dA⟩
     | false=>
      cases m4:(m.toList== [98,97,110])with
      | true=>
       have HT:Hid (h.iU=(bj&&(decide (h.l.wN<=S)&&decide (T<S)))):=by show _=_;rw[HM.out,m1,m2,m3,m4];rfl
       clear HM
       go_upto_region 11 with fail
       refine aF (by kernel_rfl) (fun w'=>Below W.heap.size W w') ?_;change wpIn _ _ _ _ _ _ _ _ (World.drew _);have hD:Below W.heap.size W W.drew:=(Below.refl _ _).drew
       cases bj with
       | false=>
        refine aa (i:=0) (d:=some 68) rfl ?_;refine ak (i:=1) hD rfl ?_;intro K hK;go_simp;go_wp2_with(go_at_call 55;refine(QK.out _ hD).mono ?_;rintro e w4 ⟨rfl,h_⟩);have gJ:Below W.heap.size W w4:=ah hD h_;refine aa (i:=2) (d:=some 70) rfl ?_;refine ae (i:=3) (d:=(some 71)) (v:=undef) (a':= ?aqba3) rfl rfl (by kernel_rfl) (by kernel_rfl) (by kernel_rfl) (fun _ _ _ h=>h) (Or.inr ⟨by rfl,rfl⟩) ?fqba3 ?_
        case fqba3=>(go_frame;rfl)
        refine ae (i:=4) (d:=(some 72)) (v:=undef) (a':= ?aqba4) rfl rfl (by kernel_rfl) (by kernel_rfl) (by kernel_rfl) (fun _ _ _ h=>h) (Or.inr ⟨by rfl,rfl⟩) ?fqba4 ?_
        case fqba4=>(go_frame;rfl)
        refine ae (i:=5) (d:=(some 73)) (v:=undef) (a':= ?aqba5) rfl rfl (by kernel_rfl) (by kernel_rfl) (by kernel_rfl) (fun _ _ _ h=>h) (Or.inr ⟨by rfl,rfl⟩) ?fqba5 ?_
        case fqba5=>(go_frame;rfl)
        refine ae (i:=6) (d:=(some 74)) (v:=undef) (a':= ?aqba6) rfl rfl (by kernel_rfl) (by kernel_rfl) (by kernel_rfl) (fun _ _ _ h=>h) (Or.inr ⟨by rfl,rfl⟩) ?fqba6 ?_
        case fqba6=>(go_frame;rfl)
        refine ae (i:=7) (d:=(some 75)) (v:=undef) (a':= ?aqba7) rfl rfl (by kernel_rfl) (by kernel_rfl) (by kernel_rfl) (fun _ _ _ h=>h) (Or.inr ⟨by rfl,rfl⟩) ?fqba7 ?_
        case fqba7=>(go_frame;rfl)
        refine ae (i:=8) (d:=(some 76)) (v:=undef) (a':= ?aqba8) rfl rfl (by kernel_rfl) (by kernel_rfl) (by kernel_rfl) (fun _ _ _ h=>h) (Or.inr ⟨by rfl,rfl⟩) ?fqba8 ?_
        case fqba8=>(go_frame;rfl)
        refine ae (i:=9) (d:=(some 77)) (v:=undef) (a':= ?aqba9) rfl rfl (by kernel_rfl) (by kernel_rfl) (by kernel_rfl) (fun _ _ _ h=>h) (Or.inr ⟨by rfl,rfl⟩) ?fqba9 ?_
        case fqba9=>(go_frame;rfl)
        refine ae (i:=10) (d:=(some 78)) (v:=undef) (a':= ?aqba10) rfl rfl (by kernel_rfl) (by kernel_rfl) (by kernel_rfl) (fun _ _ _ h=>h) (Or.inr ⟨by rfl,rfl⟩) ?fqba10 ?_
        case fqba10=>(go_frame;rfl)
        refine aa (i:=11) (d:=some 79) rfl ?_;refine aa (i:=12) (d:=some 80) rfl ?_;refine ae (i:=13) (d:=(some 81)) (v:=undef) (a':= ?aqba13) rfl rfl (by kernel_rfl) (by kernel_rfl) (by kernel_rfl) (fun _ _ _ h=>h) (Or.inr ⟨by rfl,rfl⟩) ?fqba13 ?_
        case fqba13=>(go_frame;rfl)
        refine ae (i:=14) (d:=(some 82)) (v:=undef) (a':= ?aqba14) rfl rfl (by kernel_rfl) (by kernel_rfl) (by kernel_rfl) (fun _ _ _ h=>h) (Or.inr ⟨by rfl,rfl⟩) ?fqba14 ?_
        case fqba14=>(go_frame;rfl)
        refine ae (i:=15) (d:=(some 83)) (v:=undef) (a':= ?aqba15) rfl rfl (by kernel_rfl) (by kernel_rfl) (by kernel_rfl) (fun _ _ _ h=>h) (Or.inr ⟨by rfl,rfl⟩) ?fqba15 ?_
        case fqba15=>(go_frame;rfl)
        refine ae (i:=16) (d:=(some 84)) (v:=undef) (a':= ?aqba16) rfl rfl (by kernel_rfl) (by kernel_rfl) (by kernel_rfl) (fun _ _ _ h=>h) (Or.inr ⟨by rfl,rfl⟩) ?fqba16 ?_
        case fqba16=>(go_frame;rfl)
        refine ae (i:=17) (d:=(some 85)) (v:=undef) (a':= ?aqba17) rfl rfl (by kernel_rfl) (by kernel_rfl) (by kernel_rfl) (fun _ _ _ h=>h) (Or.inr ⟨by rfl,rfl⟩) ?fqba17 ?_
        case fqba17=>(go_frame;rfl)
        refine aa (i:=18) (d:=some 86) rfl ?_;refine ak (i:=19) gJ rfl ?_;intro K hK;go_simp;go_wp2_with(go_at_call 50;refine(dE _ _).mono ?_;rintro e w9 ⟨rfl,wE⟩);exact⟨rfl,by rw[HT.out];simp,fQ.out _ (wE ▸ gJ)⟩
       | true=>
        cases t3:decide (h.l.wN<=S)with
        | false=>
         refine aa (i:=0) (d:=some 68) rfl ?_;refine ak (i:=1) hD rfl ?_;intro K hK;go_simp;go_wp2_with(go_at_call 55;refine(QK.out _ hD).mono ?_;rintro e w4 ⟨rfl,h_⟩);have gJ:Below W.heap.size W w4:=ah hD h_;refine aa (i:=2) (d:=some 70) rfl ?_;refine aa (i:=3) (d:=some 71) rfl ?_;refine aa (i:=5) (d:=some 73) rfl ?_;refine aa (i:=6) (d:=some 74) rfl ?_;refine aa (i:=7) (d:=some 75) rfl ?_;refine aa (i:=8) (d:=some 76) rfl ?_;refine az (i:=9) (d:=some 77) rfl (by(intro wq hq;have zf:=(HX.out wq hq).wN;go_simp;first| done| with_reducible rfl)) ?_;refine ak (i:=4) gJ rfl ?_;intro K hK;go_simp;go_wp2_with(go_at_call 56;refine(HS.out _ gJ).mono ?_;rintro e w5 ⟨rfl,iJ⟩);have Ny:Below W.heap.size W w5:=ah gJ iJ;refine aa (i:=10) (d:=some 78) rfl ?_;refine aa (i:=11) (d:=some 79) rfl ?_;refine aa (i:=12) (d:=some 80) rfl ?_;refine ae (i:=13) (d:=(some 81)) (v:=undef) (a':= ?aqbb13) rfl rfl (by kernel_rfl) (by kernel_rfl) (by kernel_rfl) (fun _ _ _ h=>h) (Or.inr ⟨by rfl,rfl⟩) ?fqbb13 ?_
         case fqbb13=>(go_frame;rfl)
         refine ae (i:=14) (d:=(some 82)) (v:=undef) (a':= ?aqbb14) rfl rfl (by kernel_rfl) (by kernel_rfl) (by kernel_rfl) (fun _ _ _ h=>h) (Or.inr ⟨by rfl,rfl⟩) ?fqbb14 ?_
         case fqbb14=>(go_frame;rfl)
         refine ae (i:=15) (d:=(some 83)) (v:=undef) (a':= ?aqbb15) rfl rfl (by kernel_rfl) (by kernel_rfl) (by kernel_rfl) (fun _ _ _ h=>h) (Or.inr ⟨by rfl,rfl⟩) ?fqbb15 ?_
         case fqbb15=>(go_frame;rfl)
         refine ae (i:=16) (d:=(some 84)) (v:=undef) (a':= ?aqbb16) rfl rfl (by kernel_rfl) (by kernel_rfl) (by kernel_rfl) (fun _ _ _ h=>h) (Or.inr ⟨by rfl,rfl⟩) ?fqbb16 ?_
         case fqbb16=>(go_frame;rfl)
         refine ae (i:=17) (d:=(some 85)) (v:=undef) (a':= ?aqbb17) rfl rfl (by kernel_rfl) (by kernel_rfl) (by kernel_rfl) (fun _ _ _ h=>h) (Or.inr ⟨by rfl,rfl⟩) ?fqbb17 ?_
         case fqbb17=>(go_frame;rfl)
         refine aa (i:=18) (d:=some 86) rfl ?_;refine ak (i:=19) Ny rfl ?_;intro K hK;go_simp;go_wp2_with(go_at_call 50;refine(dE _ _).mono ?_;rintro e w9 ⟨rfl,wE⟩);exact⟨rfl,by rw[HT.out,t3];simp,fQ.out _ (wE ▸ Ny)⟩
        | true=>
         refine aa (i:=0) (d:=some 68) rfl ?_;refine ak (i:=1) hD rfl ?_;intro K hK;go_simp;go_wp2_with(go_at_call 55;refine(QK.out _ hD).mono ?_;rintro e w4 ⟨rfl,h_⟩);have gJ:Below W.heap.size W w4:=ah hD h_;refine aa (i:=2) (d:=some 70) rfl ?_;refine aa (i:=3) (d:=some 71) rfl ?_;refine aa (i:=5) (d:=some 73) rfl ?_;refine aa (i:=6) (d:=some 74) rfl ?_;refine aa (i:=7) (d:=some 75) rfl ?_;refine aa (i:=8) (d:=some 76) rfl ?_;refine az (i:=9) (d:=some 77) rfl (by(intro wq hq;have zf:=(HX.out wq hq).wN;go_simp;first| done| with_reducible rfl)) ?_;refine ak (i:=4) gJ rfl ?_;intro K hK;go_simp;go_wp2_with(go_at_call 56;refine(HS.out _ gJ).mono ?_;rintro e w5 ⟨rfl,iJ⟩);have Ny:Below W.heap.size W w5:=ah gJ iJ;refine aa (i:=10) (d:=some 78) rfl ?_;refine aa (i:=11) (d:=some 79) rfl ?_;refine aa (i:=12) (d:=some 80) rfl ?_;refine aa (i:=13) (d:=some 81) rfl ?_;refine aa (i:=15) (d:=some 83) rfl ?_;refine ak (i:=14) Ny rfl ?_;intro K hK;go_simp;go_wp2_with(go_at_call 56;refine(HS.out _ Ny).mono ?_;rintro e w6 ⟨rfl,rJ⟩);have JD:Below W.heap.size W w6:=ah Ny rJ;refine ak (i:=16) JD rfl ?_;intro K hK;go_simp;go_wp2_with(go_at_call 88;refine(HTT.out _ JD).mono ?_;rintro e w7 ⟨rfl,rM⟩);have FB:Below W.heap.size W w7:=ah JD rM;refine aa (i:=17) (d:=some 85) rfl ?_;refine aa (i:=18) (d:=some 86) rfl ?_;refine ak (i:=19) FB rfl ?_;intro K hK;go_simp;go_wp2_with(go_at_call 50;refine(dE _ _).mono ?_;rintro e w9 ⟨rfl,wE⟩);exact⟨rfl,by rw[HT.out,t3];simp,fQ.out _ (wE ▸ FB)⟩
      | false=>
       have HT:Hid (h.iU=false):=by show _=_;rw[HM.out,m1,m2,m3,m4];rfl
       clear HM;go_wp2_with(go_at_call 50;refine(dE _ _).mono ?_;rintro e wn ⟨rfl,rfl⟩);exact⟨rfl,by rw[HT.out],fQ.out _ (Below.refl _ _)⟩
end
section
variable {w : World} {hb : Nat} {h : Hr} {p : Ph}
theorem Nz(x:iK w hb h p)(hz:NV h):Calls Tryz.prog 60 #[.pointer (some ⟨hb,0,none⟩)] w fun e w'=>e=fO h.changes/\Below w.heap.size w w':=by
 have HC:Hid (h.changes=(decide ((bQ (eU h.e.content)).2=0)&&(!h.told || Ea h.l (bQ (eU h.e.content)).1 h.e.ag))):=rfl;have zY:Hid (∀X,Below w.heap.size w X->iK X hb h p):=fun X hX=>x.below hX;have HRE:Hid (w.rangeAt hb 0 (aB h.e p.e)):=x.iW;have vX:=tV x.ev (fun _ h=>h) hz.e.cont;have AJ:Hid (O_ (bQ (eU h.e.content)).1):=Em hz.e.cont;have HSL:Hid (O_ h.l):=hz.l;clear x;unfold Ye at vX;generalize bQ (eU h.e.content)=R at vX HC AJ;obtain⟨L,E⟩:=R;simp only at vX HC AJ;go_enter Tryz.func60,Tryz.ntmps60
 go_upto_region 1 with(first
  | (refine wpList_load_mid rfl 28 _ rfl hb 0 rfl (aB h.e p.e) _ HRE.out Tryz.underlying28 rfl eQ ?_)
  | (go_at_call 83;refine vX.mono ?_;rintro e w1 ⟨⟨rfl,q,rfl,hI⟩| ⟨rfl,rfl⟩,aP⟩)
  | (refine wpList_store_row rfl 47 _ _ rfl w1.heap.size 47 _ (aY L q).toArray rfl rfl (bR _) tC rfl (Fw L q) ?_))
 case inr=>exact⟨rfl,by rw[HC.out];rfl,aP⟩
 have bS:Below w1.heap.size w1 ((w1.alloc (.cells #[.int .i64 0,.int .i64 0,.int .i64 0,.int .i64 0,.int .i64 0,.int .i64 0,.int .i64 0,.slice none 0 0,.slice none 0 0] 47)).setRow w1.heap.size (aY L q).toArray):=
  ((Below.refl _ _).alloc (Nat.le_refl _) _).trans ((cz _ w1.heap.size _).below (by simp) fun q hq e=>by unfold aQ at e;omega)
 have NZ:((w1.alloc (.cells #[.int .i64 0,.int .i64 0,.int .i64 0,.int .i64 0,.int .i64 0,.int .i64 0,.int .i64 0,.slice none 0 0,.slice none 0 0] 47)).setRow w1.heap.size (aY L q).toArray).heap[w1.heap.size]?=some (.cells (aY L q).toArray 47 (0,0)):=setRow_heap _ _ _ _ _ _ (bR _);generalize (w1.alloc (.cells #[.int .i64 0,.int .i64 0,.int .i64 0,.int .i64 0,.int .i64 0,.int .i64 0,.int .i64 0,.slice none 0 0,.slice none 0 0] 47)).setRow w1.heap.size (aY L q).toArray=W at bS NZ;have p_:Below w.heap.size w W:=ah aP bS;have fQ:Hid (∀X,Below W.heap.size W X->Below w.heap.size w X):=fun X hX=>ah p_ hX;have HX:Hid (∀X,Below W.heap.size W X->iK X hb h p):=fun X hX=>zY.out X (ah p_ hX);have Bu:Hid (∀X,Below W.heap.size W X->X.rangeAt w1.heap.size 0 (aY L q)/\BK (· <X.heap.size) X L q):=fun X hX=>⟨eD ((hX.block _ (aO NZ)).trans NZ),hI.carry fun b hb=>⟨Nat.lt_of_lt_of_le hb.2 (Nat.le_trans bS.size hX.size),(hX.block b (Nat.lt_of_lt_of_le hb.2 bS.size)).trans (bS.block b hb.2)⟩⟩;have HMy:Hid (∀X,Below W.heap.size W X->Calls Tryz.prog 94 #[jc h.l p.l,jc L q,.string h.e.ag] X fun e w'=>e=.returned (.bool (Ea h.l L h.e.ag))/\Below X.heap.size X w'):=fun X hX=>X8 (HX.out X hX).lv (Bu.out X hX).2 (fun _ h=>h) HSL.out AJ.out h.e.ag;have ht:=(HX.out W (Below.refl _ _)).Wx;have xX:Hid (h.changes=(!h.told || Ea h.l L h.e.ag)):=by show _=_;rw[HC.out];rfl
 clear zY HC vX hI NZ aP bS p_ HRE;generalize Ea h.l L h.e.ag=bm at HMy xX
 cases h1:h.told with
 | false=>
  rw[h1]at ht;go_wp2_with(go_at_call 93;refine(fP _ _).mono ?_;rintro e wn ⟨he,rfl⟩;replace he:e=_:=he;subst he);exact⟨rfl,by rw[xX.out,h1];rfl,fQ.out _ (Below.refl _ _)⟩
 | true=>
  rw[h1]at ht
  go_upto_region 2 with(go_at_call 93;refine(fP _ _).mono ?_;rintro e wn ⟨he,rfl⟩;replace he:e=_:=he;subst he)
  refine aF (by kernel_rfl) (fun w'=>Below W.heap.size W w') ?_;change wpIn _ _ _ _ _ _ _ _ (World.drew _);have hD:Below W.heap.size W W.drew:=(Below.refl _ _).drew;refine aa (i:=0) (d:=some 14) rfl ?_;refine aa (i:=1) (d:=some 15) rfl ?_;refine aa (i:=2) (d:=some 16) rfl ?_;refine ae (i:=3) (d:=(some 17)) (v:=(jc h.l p.l)) (a':= ?aqk3) rfl rfl (by kernel_rfl) (by kernel_rfl) (by kernel_rfl) (fun _ _ _ h=>h) (Or.inl ⟨by rfl, ?yqk3⟩) ?fqk3 ?_
  case yqk3=>exact fun wq hq=>b_ rfl rfl ((HX.out wq hq).Qv)
  case fqk3=>(go_frame;rfl)
  refine ae (i:=4) (d:=(some 18)) (v:=(jc L q)) (a':= ?aqk4) rfl rfl (by kernel_rfl) (by kernel_rfl) (by kernel_rfl) (fun _ _ _ h=>h) (Or.inl ⟨by rfl, ?yqk4⟩) ?fqk4 ?_
  case yqk4=>exact fun wq hq=>b_ rfl rfl (run_loadAt_mid wq w1.heap.size 0 47 (aY L q) _ (Bu.out wq hq).1 Tryz.underlying47 rfl tC)
  case fqk4=>(go_frame;rfl)
  refine aa (i:=5) (d:=some 19) rfl ?_;refine aa (i:=6) (d:=some 20) rfl ?_;refine aa (i:=7) (d:=some 21) rfl ?_;refine aa (i:=8) (d:=some 22) rfl ?_;refine az (i:=9) (d:=some 23) rfl (by(intro wq hq;have zf:=(HX.out wq hq).ag;go_simp;first| done| with_reducible rfl)) ?_;refine ak (i:=10) hD rfl ?_;intro K hK;go_simp;go_wp2_with(go_at_call 94;refine(HMy.out _ hD).mono ?_;rintro e w2 ⟨rfl,rH⟩);have zda:Below W.heap.size W w2:=ah hD rH;refine ak (i:=11) zda rfl ?_;intro K hK;go_simp;go_wp2_with(go_at_call 50;refine(dE _ _).mono ?_;rintro e w9 ⟨rfl,wE⟩);exact⟨rfl,by rw[xX.out,h1];rfl,fQ.out _ (wE ▸ zda)⟩
end
theorem FC{O:Nat->Prop}{w:World}{e:Ev}{p:Pt}(h:iL O w e p)(hO:∀b,O b->b<w.heap.size)(hz:xe e):
    Calls Tryz.prog 51 #[dZ e p] w fun x w'=>x=.returned (.bool (lH e))/\Below w.heap.size w w':=by
 obtain⟨W,hW⟩:∃W,W=w.alloc (.cells (aB e p).toArray 28):=⟨_,rfl⟩;have dS:Below w.heap.size w W:=by rw[hW];exact(Below.refl _ _).alloc (Nat.le_refl _) _
 have r9:W.heap[w.heap.size]?=some (.cells (aB e p).toArray 28 (0,0)):=by rw[hW];exact bR _
 have hV:=kC h hO dS r9;have HX:Hid (∀X,Below W.heap.size W X->kZ X w.heap.size e p):=fun X hX=>hV.below hX;have Rv:Hid (∀X,Below W.heap.size W X->Calls Tryz.prog 31 #[.agg #[.int .i64 e.content.kind,.int .i64 e.content.int,.string e.content.text,.slice p.pk e.content.keys.length p.ck,.slice p.pl e.content.list.length p.cl],.string gu] X fun x w'=>x=.returned (.string (eB e.content gu))/\Below X.heap.size X w'):=fun X hX=>p9 (O:=(· <X.heap.size)) (j:=e.content) (HX.out X hX).ev.cont (fun _ h=>h) (o5 hz.cont) gu;have HH1:Hid (∀X,Calls Tryz.prog 80 #[.string e.room] X fun x w'=>x=.returned (.string (Id.home e.room))/\Below X.heap.size X w'):=fun X=>Id.Dm e.room X (by have:=hz.room;omega);have HH2:Hid (∀X,Calls Tryz.prog 80 #[.string e.ag] X fun x w'=>x=.returned (.string (Id.home e.ag))/\Below X.heap.size X w'):=fun X=>Id.Dm e.ag X (by have:=hz.ag;omega);have HC:Hid (lH e=(e.st&&((e.key.toList== [])&&(decide (e.prev.length=0)&&(decide (e.aA.length=0)&&(((Id.home e.room).toList==(Id.home e.ag).toList)&&((eB e.content gu).toList==e.ag.toList))))))):=by
  show _=_
  unfold lH eX;rw[KL]
 generalize eB e.content gu=m at Rv HC;generalize Id.home e.room=r1 at HH1 HC;generalize Id.home e.ag=r2 at HH2 HC;have fQ:Hid (∀X,Below W.heap.size W X->Below w.heap.size w X):=fun X hX=>ah dS hX;clear h hV r9;unfold dZ;go_enter Tryz.func51,Tryz.ntmps51
 go_upto_region 1 with fail
 rw[<-hW];clear hW;refine aF (by kernel_rfl) (fun w'=>Below W.heap.size W w') ?_;change wpIn _ _ _ _ _ _ _ _ (World.drew _);have hD:Below W.heap.size W W.drew:=(Below.refl _ _).drew
 cases hs:e.st with
 | false=>
  refine aa (i:=0) (d:=some 3) rfl ?_;refine az (i:=1) (d:=some 4) rfl (by(intro wq hq;have zf:=(HX.out wq hq).tu;go_simp;first| done| with_reducible rfl)) ?_;refine aa (i:=2) (d:=some 5) rfl ?_;refine ae (i:=3) (d:=(some 6)) (v:=undef) (a':= ?aqca3) rfl rfl (by kernel_rfl) (by kernel_rfl) (by kernel_rfl) (fun _ _ _ h=>h) (Or.inr ⟨by rfl,rfl⟩) ?fqca3 ?_
  case fqca3=>(go_frame;rfl)
  refine ae (i:=4) (d:=(some 7)) (v:=undef) (a':= ?aqca4) rfl rfl (by kernel_rfl) (by kernel_rfl) (by kernel_rfl) (fun _ _ _ h=>h) (Or.inr ⟨by rfl,rfl⟩) ?fqca4 ?_
  case fqca4=>(go_frame;rfl)
  refine ae (i:=5) (d:=(some 8)) (v:=undef) (a':= ?aqca5) rfl rfl (by kernel_rfl) (by kernel_rfl) (by kernel_rfl) (fun _ _ _ h=>h) (Or.inr ⟨by rfl,rfl⟩) ?fqca5 ?_
  case fqca5=>(go_frame;rfl)
  refine aa (i:=6) (d:=some 9) rfl ?_;refine aa (i:=7) (d:=some 10) rfl ?_;refine ae (i:=8) (d:=(some 11)) (v:=undef) (a':= ?aqca8) rfl rfl (by kernel_rfl) (by kernel_rfl) (by kernel_rfl) (fun _ _ _ h=>h) (Or.inr ⟨by rfl,rfl⟩) ?fqca8 ?_
  case fqca8=>(go_frame;rfl)
  refine ae (i:=9) (d:=(some 12)) (v:=undef) (a':= ?aqca9) rfl rfl (by kernel_rfl) (by kernel_rfl) (by kernel_rfl) (fun _ _ _ h=>h) (Or.inr ⟨by rfl,rfl⟩) ?fqca9 ?_
  case fqca9=>(go_frame;rfl)
  refine ae (i:=10) (d:=(some 13)) (v:=undef) (a':= ?aqca10) rfl rfl (by kernel_rfl) (by kernel_rfl) (by kernel_rfl) (fun _ _ _ h=>h) (Or.inr ⟨by rfl,rfl⟩) ?fqca10 ?_
  case fqca10=>(go_frame;rfl)
  refine ae (i:=11) (d:=(some 14)) (v:=undef) (a':= ?aqca11) rfl rfl (by kernel_rfl) (by kernel_rfl) (by kernel_rfl) (fun _ _ _ h=>h) (Or.inr ⟨by rfl,rfl⟩) ?fqca11 ?_
  case fqca11=>(go_frame;rfl)
  refine aa (i:=12) (d:=some 15) rfl ?_;refine aa (i:=13) (d:=some 16) rfl ?_;refine ae (i:=14) (d:=(some 17)) (v:=undef) (a':= ?aqca14) rfl rfl (by kernel_rfl) (by kernel_rfl) (by kernel_rfl) (fun _ _ _ h=>h) (Or.inr ⟨by rfl,rfl⟩) ?fqca14 ?_
  case fqca14=>(go_frame;rfl)
  refine ae (i:=15) (d:=(some 18)) (v:=undef) (a':= ?aqca15) rfl rfl (by kernel_rfl) (by kernel_rfl) (by kernel_rfl) (fun _ _ _ h=>h) (Or.inr ⟨by rfl,rfl⟩) ?fqca15 ?_
  case fqca15=>(go_frame;rfl)
  refine ae (i:=16) (d:=(some 19)) (v:=undef) (a':= ?aqca16) rfl rfl (by kernel_rfl) (by kernel_rfl) (by kernel_rfl) (fun _ _ _ h=>h) (Or.inr ⟨by rfl,rfl⟩) ?fqca16 ?_
  case fqca16=>(go_frame;rfl)
  refine ae (i:=17) (d:=(some 20)) (v:=undef) (a':= ?aqca17) rfl rfl (by kernel_rfl) (by kernel_rfl) (by kernel_rfl) (fun _ _ _ h=>h) (Or.inr ⟨by rfl,rfl⟩) ?fqca17 ?_
  case fqca17=>(go_frame;rfl)
  refine aa (i:=18) (d:=some 21) rfl ?_;refine aa (i:=19) (d:=some 22) rfl ?_;refine ae (i:=20) (d:=(some 23)) (v:=undef) (a':= ?aqca20) rfl rfl (by kernel_rfl) (by kernel_rfl) (by kernel_rfl) (fun _ _ _ h=>h) (Or.inr ⟨by rfl,rfl⟩) ?fqca20 ?_
  case fqca20=>(go_frame;rfl)
  refine ae (i:=21) (d:=(some 24)) (v:=undef) (a':= ?aqca21) rfl rfl (by kernel_rfl) (by kernel_rfl) (by kernel_rfl) (fun _ _ _ h=>h) (Or.inr ⟨by rfl,rfl⟩) ?fqca21 ?_
  case fqca21=>(go_frame;rfl)
  refine ae (i:=22) (d:=(some 25)) (v:=undef) (a':= ?aqca22) rfl rfl (by kernel_rfl) (by kernel_rfl) (by kernel_rfl) (fun _ _ _ h=>h) (Or.inr ⟨by rfl,rfl⟩) ?fqca22 ?_
  case fqca22=>(go_frame;rfl)
  refine ae (i:=23) (d:=(some 26)) (v:=undef) (a':= ?aqca23) rfl rfl (by kernel_rfl) (by kernel_rfl) (by kernel_rfl) (fun _ _ _ h=>h) (Or.inr ⟨by rfl,rfl⟩) ?fqca23 ?_
  case fqca23=>(go_frame;rfl)
  refine ae (i:=24) (d:=(some 27)) (v:=undef) (a':= ?aqca24) rfl rfl (by kernel_rfl) (by kernel_rfl) (by kernel_rfl) (fun _ _ _ h=>h) (Or.inr ⟨by rfl,rfl⟩) ?fqca24 ?_
  case fqca24=>(go_frame;rfl)
  refine ae (i:=25) (d:=(some 28)) (v:=undef) (a':= ?aqca25) rfl rfl (by kernel_rfl) (by kernel_rfl) (by kernel_rfl) (fun _ _ _ h=>h) (Or.inr ⟨by rfl,rfl⟩) ?fqca25 ?_
  case fqca25=>(go_frame;rfl)
  refine ae (i:=26) (d:=(some 29)) (v:=undef) (a':= ?aqca26) rfl rfl (by kernel_rfl) (by kernel_rfl) (by kernel_rfl) (fun _ _ _ h=>h) (Or.inr ⟨by rfl,rfl⟩) ?fqca26 ?_
  case fqca26=>(go_frame;rfl)
  refine aa (i:=27) (d:=some 30) rfl ?_;refine aa (i:=28) (d:=some 31) rfl ?_;refine ae (i:=29) (d:=(some 32)) (v:=undef) (a':= ?aqca29) rfl rfl (by kernel_rfl) (by kernel_rfl) (by kernel_rfl) (fun _ _ _ h=>h) (Or.inr ⟨by rfl,rfl⟩) ?fqca29 ?_
  case fqca29=>(go_frame;rfl)
  refine ae (i:=30) (d:=(some 33)) (v:=undef) (a':= ?aqca30) rfl rfl (by kernel_rfl) (by kernel_rfl) (by kernel_rfl) (fun _ _ _ h=>h) (Or.inr ⟨by rfl,rfl⟩) ?fqca30 ?_
  case fqca30=>(go_frame;rfl)
  refine ae (i:=31) (d:=(some 34)) (v:=undef) (a':= ?aqca31) rfl rfl (by kernel_rfl) (by kernel_rfl) (by kernel_rfl) (fun _ _ _ h=>h) (Or.inr ⟨by rfl,rfl⟩) ?fqca31 ?_
  case fqca31=>(go_frame;rfl)
  refine ae (i:=32) (d:=(some 35)) (v:=undef) (a':= ?aqca32) rfl rfl (by kernel_rfl) (by kernel_rfl) (by kernel_rfl) (fun _ _ _ h=>h) (Or.inr ⟨by rfl,rfl⟩) ?fqca32 ?_
  case fqca32=>(go_frame;rfl)
  refine ae (i:=33) (d:=(some 36)) (v:=undef) (a':= ?aqca33) rfl rfl (by kernel_rfl) (by kernel_rfl) (by kernel_rfl) (fun _ _ _ h=>h) (Or.inr ⟨by rfl,rfl⟩) ?fqca33 ?_
  case fqca33=>(go_frame;rfl)
  refine ae (i:=34) (d:=(some 37)) (v:=undef) (a':= ?aqca34) rfl rfl (by kernel_rfl) (by kernel_rfl) (by kernel_rfl) (fun _ _ _ h=>h) (Or.inr ⟨by rfl,rfl⟩) ?fqca34 ?_
  case fqca34=>(go_frame;rfl)
  refine aa (i:=35) (d:=some 38) rfl ?_;refine aa (i:=36) (d:=some 2) rfl ?_;refine aD hD (by kernel_rfl) ?_ _;go_wp2;go_ret;exact⟨by rw[HC.out,hs];rfl,fQ.out _ hD⟩
 | true=>
  cases hk:(e.key.toList== [])with
  | false=>
   have pO:e.key.toList.isEmpty=false:=by cases hq:e.key.toList with| nil=>rw[hq]at hk;simp at hk| cons a b=>rfl
   refine aa (i:=0) (d:=some 3) rfl ?_;refine az (i:=1) (d:=some 4) rfl (by(intro wq hq;have zf:=(HX.out wq hq).tu;go_simp;first| done| with_reducible rfl)) ?_;refine aa (i:=2) (d:=some 5) rfl ?_;refine aa (i:=3) (d:=some 6) rfl ?_;refine az (i:=4) (d:=some 7) rfl (by(intro wq hq;have zf:=(HX.out wq hq).key;go_simp;first| done| with_reducible rfl)) ?_;refine aa (i:=5) (d:=some 8) rfl ?_;refine aa (i:=6) (d:=some 9) rfl ?_;refine aa (i:=7) (d:=some 10) rfl ?_;refine ae (i:=8) (d:=(some 11)) (v:=undef) (a':= ?aqcb8) rfl rfl (by kernel_rfl) (by kernel_rfl) (by kernel_rfl) (fun _ _ _ h=>h) (Or.inr ⟨by rfl,rfl⟩) ?fqcb8 ?_
   case fqcb8=>(go_frame;rfl)
   refine ae (i:=9) (d:=(some 12)) (v:=undef) (a':= ?aqcb9) rfl rfl (by kernel_rfl) (by kernel_rfl) (by kernel_rfl) (fun _ _ _ h=>h) (Or.inr ⟨by rfl,rfl⟩) ?fqcb9 ?_
   case fqcb9=>(go_frame;rfl)
   refine ae (i:=10) (d:=(some 13)) (v:=undef) (a':= ?aqcb10) rfl rfl (by kernel_rfl) (by kernel_rfl) (by kernel_rfl) (fun _ _ _ h=>h) (Or.inr ⟨by rfl,rfl⟩) ?fqcb10 ?_
   case fqcb10=>(go_frame;rfl)
   refine ae (i:=11) (d:=(some 14)) (v:=undef) (a':= ?aqcb11) rfl rfl (by kernel_rfl) (by kernel_rfl) (by kernel_rfl) (fun _ _ _ h=>h) (Or.inr ⟨by rfl,rfl⟩) ?fqcb11 ?_
   case fqcb11=>(go_frame;rfl)
   refine aa (i:=12) (d:=some 15) rfl ?_;refine aa (i:=13) (d:=some 16) rfl ?_;refine ae (i:=14) (d:=(some 17)) (v:=undef) (a':= ?aqcb14) rfl rfl (by kernel_rfl) (by kernel_rfl) (by kernel_rfl) (fun _ _ _ h=>h) (Or.inr ⟨by rfl,rfl⟩) ?fqcb14 ?_
   case fqcb14=>(go_frame;rfl)
   refine ae (i:=15) (d:=(some 18)) (v:=undef) (a':= ?aqcb15) rfl rfl (by kernel_rfl) (by kernel_rfl) (by kernel_rfl) (fun _ _ _ h=>h) (Or.inr ⟨by rfl,rfl⟩) ?fqcb15 ?_
   case fqcb15=>(go_frame;rfl)
   refine ae (i:=16) (d:=(some 19)) (v:=undef) (a':= ?aqcb16) rfl rfl (by kernel_rfl) (by kernel_rfl) (by kernel_rfl) (fun _ _ _ h=>h) (Or.inr ⟨by rfl,rfl⟩) ?fqcb16 ?_
   case fqcb16=>(go_frame;rfl)
   refine ae (i:=17) (d:=(some 20)) (v:=undef) (a':= ?aqcb17) rfl rfl (by kernel_rfl) (by kernel_rfl) (by kernel_rfl) (fun _ _ _ h=>h) (Or.inr ⟨by rfl,rfl⟩) ?fqcb17 ?_
   case fqcb17=>(go_frame;rfl)
   refine aa (i:=18) (d:=some 21) rfl ?_;refine aa (i:=19) (d:=some 22) rfl ?_;refine ae (i:=20) (d:=(some 23)) (v:=undef) (a':= ?aqcb20) rfl rfl (by kernel_rfl) (by kernel_rfl) (by kernel_rfl) (fun _ _ _ h=>h) (Or.inr ⟨by rfl,rfl⟩) ?fqcb20 ?_
   case fqcb20=>(go_frame;rfl)
   refine ae (i:=21) (d:=(some 24)) (v:=undef) (a':= ?aqcb21) rfl rfl (by kernel_rfl) (by kernel_rfl) (by kernel_rfl) (fun _ _ _ h=>h) (Or.inr ⟨by rfl,rfl⟩) ?fqcb21 ?_
   case fqcb21=>(go_frame;rfl)
   refine ae (i:=22) (d:=(some 25)) (v:=undef) (a':= ?aqcb22) rfl rfl (by kernel_rfl) (by kernel_rfl) (by kernel_rfl) (fun _ _ _ h=>h) (Or.inr ⟨by rfl,rfl⟩) ?fqcb22 ?_
   case fqcb22=>(go_frame;rfl)
   refine ae (i:=23) (d:=(some 26)) (v:=undef) (a':= ?aqcb23) rfl rfl (by kernel_rfl) (by kernel_rfl) (by kernel_rfl) (fun _ _ _ h=>h) (Or.inr ⟨by rfl,rfl⟩) ?fqcb23 ?_
   case fqcb23=>(go_frame;rfl)
   refine ae (i:=24) (d:=(some 27)) (v:=undef) (a':= ?aqcb24) rfl rfl (by kernel_rfl) (by kernel_rfl) (by kernel_rfl) (fun _ _ _ h=>h) (Or.inr ⟨by rfl,rfl⟩) ?fqcb24 ?_
   case fqcb24=>(go_frame;rfl)
   refine ae (i:=25) (d:=(some 28)) (v:=undef) (a':= ?aqcb25) rfl rfl (by kernel_rfl) (by kernel_rfl) (by kernel_rfl) (fun _ _ _ h=>h) (Or.inr ⟨by rfl,rfl⟩) ?fqcb25 ?_
   case fqcb25=>(go_frame;rfl)
   refine ae (i:=26) (d:=(some 29)) (v:=undef) (a':= ?aqcb26) rfl rfl (by kernel_rfl) (by kernel_rfl) (by kernel_rfl) (fun _ _ _ h=>h) (Or.inr ⟨by rfl,rfl⟩) ?fqcb26 ?_
   case fqcb26=>(go_frame;rfl)
   refine aa (i:=27) (d:=some 30) rfl ?_;refine aa (i:=28) (d:=some 31) rfl ?_;refine ae (i:=29) (d:=(some 32)) (v:=undef) (a':= ?aqcb29) rfl rfl (by kernel_rfl) (by kernel_rfl) (by kernel_rfl) (fun _ _ _ h=>h) (Or.inr ⟨by rfl,rfl⟩) ?fqcb29 ?_
   case fqcb29=>(go_frame;rfl)
   refine ae (i:=30) (d:=(some 33)) (v:=undef) (a':= ?aqcb30) rfl rfl (by kernel_rfl) (by kernel_rfl) (by kernel_rfl) (fun _ _ _ h=>h) (Or.inr ⟨by rfl,rfl⟩) ?fqcb30 ?_
   case fqcb30=>(go_frame;rfl)
   refine ae (i:=31) (d:=(some 34)) (v:=undef) (a':= ?aqcb31) rfl rfl (by kernel_rfl) (by kernel_rfl) (by kernel_rfl) (fun _ _ _ h=>h) (Or.inr ⟨by rfl,rfl⟩) ?fqcb31 ?_
   case fqcb31=>(go_frame;rfl)
   refine ae (i:=32) (d:=(some 35)) (v:=undef) (a':= ?aqcb32) rfl rfl (by kernel_rfl) (by kernel_rfl) (by kernel_rfl) (fun _ _ _ h=>h) (Or.inr ⟨by rfl,rfl⟩) ?fqcb32 ?_
   case fqcb32=>(go_frame;rfl)
   refine ae (i:=33) (d:=(some 36)) (v:=undef) (a':= ?aqcb33) rfl rfl (by kernel_rfl) (by kernel_rfl) (by kernel_rfl) (fun _ _ _ h=>h) (Or.inr ⟨by rfl,rfl⟩) ?fqcb33 ?_
   case fqcb33=>(go_frame;rfl)
   refine ae (i:=34) (d:=(some 37)) (v:=undef) (a':= ?aqcb34) rfl rfl (by kernel_rfl) (by kernel_rfl) (by kernel_rfl) (fun _ _ _ h=>h) (Or.inr ⟨by rfl,rfl⟩) ?fqcb34 ?_
   case fqcb34=>(go_frame;rfl)
   refine aa (i:=35) (d:=some 38) rfl ?_;refine aa (i:=36) (d:=some 2) rfl ?_;refine aD hD (by kernel_rfl) ?_ _;go_wp2;go_ret;exact⟨by rw[HC.out,hs,hk];rfl,fQ.out _ hD⟩
  | true=>
   have pO:e.key.toList.isEmpty=true:=by simpa using hk
   cases hp:decide (e.prev.length=0)with
   | false=>
    have lQ:((e.prev.length:Int)==0)=false:=by simpa using hp
    have OW:(e.prev.length==0)=false:=by simpa using hp
    refine aa (i:=0) (d:=some 3) rfl ?_;refine az (i:=1) (d:=some 4) rfl (by(intro wq hq;have zf:=(HX.out wq hq).tu;go_simp;first| done| with_reducible rfl)) ?_;refine aa (i:=2) (d:=some 5) rfl ?_;refine aa (i:=3) (d:=some 6) rfl ?_;refine az (i:=4) (d:=some 7) rfl (by(intro wq hq;have zf:=(HX.out wq hq).key;go_simp;first| done| with_reducible rfl)) ?_;refine aa (i:=5) (d:=some 8) rfl ?_;refine aa (i:=6) (d:=some 9) rfl ?_;refine aa (i:=7) (d:=some 10) rfl ?_;refine aa (i:=8) (d:=some 11) rfl ?_;refine az (i:=9) (d:=some 12) rfl (by(intro wq hq;have zf:=(HX.out wq hq).prev;go_simp;first| done| with_reducible rfl)) ?_;refine aa (i:=10) (d:=some 13) rfl ?_;refine aa (i:=11) (d:=some 14) rfl ?_;refine aa (i:=12) (d:=some 15) rfl ?_;refine aa (i:=13) (d:=some 16) rfl ?_;refine ae (i:=14) (d:=(some 17)) (v:=undef) (a':= ?aqcc14) rfl rfl (by kernel_rfl) (by kernel_rfl) (by kernel_rfl) (fun _ _ _ h=>h) (Or.inr ⟨by rfl,rfl⟩) ?fqcc14 ?_
    case fqcc14=>(go_frame;rfl)
    refine ae (i:=15) (d:=(some 18)) (v:=undef) (a':= ?aqcc15) rfl rfl (by kernel_rfl) (by kernel_rfl) (by kernel_rfl) (fun _ _ _ h=>h) (Or.inr ⟨by rfl,rfl⟩) ?fqcc15 ?_
    case fqcc15=>(go_frame;rfl)
    refine ae (i:=16) (d:=(some 19)) (v:=undef) (a':= ?aqcc16) rfl rfl (by kernel_rfl) (by kernel_rfl) (by kernel_rfl) (fun _ _ _ h=>h) (Or.inr ⟨by rfl,rfl⟩) ?fqcc16 ?_
    case fqcc16=>(go_frame;rfl)
    refine ae (i:=17) (d:=(some 20)) (v:=undef) (a':= ?aqcc17) rfl rfl (by kernel_rfl) (by kernel_rfl) (by kernel_rfl) (fun _ _ _ h=>h) (Or.inr ⟨by rfl,rfl⟩) ?fqcc17 ?_
    case fqcc17=>(go_frame;rfl)
    refine aa (i:=18) (d:=some 21) rfl ?_;refine aa (i:=19) (d:=some 22) rfl ?_;refine ae (i:=20) (d:=(some 23)) (v:=undef) (a':= ?aqcc20) rfl rfl (by kernel_rfl) (by kernel_rfl) (by kernel_rfl) (fun _ _ _ h=>h) (Or.inr ⟨by rfl,rfl⟩) ?fqcc20 ?_
    case fqcc20=>(go_frame;rfl)
    refine ae (i:=21) (d:=(some 24)) (v:=undef) (a':= ?aqcc21) rfl rfl (by kernel_rfl) (by kernel_rfl) (by kernel_rfl) (fun _ _ _ h=>h) (Or.inr ⟨by rfl,rfl⟩) ?fqcc21 ?_
    case fqcc21=>(go_frame;rfl)
    refine ae (i:=22) (d:=(some 25)) (v:=undef) (a':= ?aqcc22) rfl rfl (by kernel_rfl) (by kernel_rfl) (by kernel_rfl) (fun _ _ _ h=>h) (Or.inr ⟨by rfl,rfl⟩) ?fqcc22 ?_
    case fqcc22=>(go_frame;rfl)
    refine ae (i:=23) (d:=(some 26)) (v:=undef) (a':= ?aqcc23) rfl rfl (by kernel_rfl) (by kernel_rfl) (by kernel_rfl) (fun _ _ _ h=>h) (Or.inr ⟨by rfl,rfl⟩) ?fqcc23 ?_
    case fqcc23=>(go_frame;rfl)
    refine ae (i:=24) (d:=(some 27)) (v:=undef) (a':= ?aqcc24) rfl rfl (by kernel_rfl) (by kernel_rfl) (by kernel_rfl) (fun _ _ _ h=>h) (Or.inr ⟨by rfl,rfl⟩) ?fqcc24 ?_
    case fqcc24=>(go_frame;rfl)
    refine ae (i:=25) (d:=(some 28)) (v:=undef) (a':= ?aqcc25) rfl rfl (by kernel_rfl) (by kernel_rfl) (by kernel_rfl) (fun _ _ _ h=>h) (Or.inr ⟨by rfl,rfl⟩) ?fqcc25 ?_
    case fqcc25=>(go_frame;rfl)
    refine ae (i:=26) (d:=(some 29)) (v:=undef) (a':= ?aqcc26) rfl rfl (by kernel_rfl) (by kernel_rfl) (by kernel_rfl) (fun _ _ _ h=>h) (Or.inr ⟨by rfl,rfl⟩) ?fqcc26 ?_
    case fqcc26=>(go_frame;rfl)
    refine aa (i:=27) (d:=some 30) rfl ?_;refine aa (i:=28) (d:=some 31) rfl ?_;refine ae (i:=29) (d:=(some 32)) (v:=undef) (a':= ?aqcc29) rfl rfl (by kernel_rfl) (by kernel_rfl) (by kernel_rfl) (fun _ _ _ h=>h) (Or.inr ⟨by rfl,rfl⟩) ?fqcc29 ?_
    case fqcc29=>(go_frame;rfl)
    refine ae (i:=30) (d:=(some 33)) (v:=undef) (a':= ?aqcc30) rfl rfl (by kernel_rfl) (by kernel_rfl) (by kernel_rfl) (fun _ _ _ h=>h) (Or.inr ⟨by rfl,rfl⟩) ?fqcc30 ?_
    case fqcc30=>(go_frame;rfl)
    refine ae (i:=31) (d:=(some 34)) (v:=undef) (a':= ?aqcc31) rfl rfl (by kernel_rfl) (by kernel_rfl) (by kernel_rfl) (fun _ _ _ h=>h) (Or.inr ⟨by rfl,rfl⟩) ?fqcc31 ?_
    case fqcc31=>(go_frame;rfl)
    refine ae (i:=32) (d:=(some 35)) (v:=undef) (a':= ?aqcc32) rfl rfl (by kernel_rfl) (by kernel_rfl) (by kernel_rfl) (fun _ _ _ h=>h) (Or.inr ⟨by rfl,rfl⟩) ?fqcc32 ?_
    case fqcc32=>(go_frame;rfl)
    refine ae (i:=33) (d:=(some 36)) (v:=undef) (a':= ?aqcc33) rfl rfl (by kernel_rfl) (by kernel_rfl) (by kernel_rfl) (fun _ _ _ h=>h) (Or.inr ⟨by rfl,rfl⟩) ?fqcc33 ?_
    case fqcc33=>(go_frame;rfl)
    refine ae (i:=34) (d:=(some 37)) (v:=undef) (a':= ?aqcc34) rfl rfl (by kernel_rfl) (by kernel_rfl) (by kernel_rfl) (fun _ _ _ h=>h) (Or.inr ⟨by rfl,rfl⟩) ?fqcc34 ?_
    case fqcc34=>(go_frame;rfl)
    refine aa (i:=35) (d:=some 38) rfl ?_;refine aa (i:=36) (d:=some 2) rfl ?_;refine aD hD (by kernel_rfl) ?_ _;go_wp2;go_ret;exact⟨by rw[HC.out,hs,hk,hp];rfl,fQ.out _ hD⟩
   | true=>
    have lQ:((e.prev.length:Int)==0)=true:=by simpa using hp
    have OW:(e.prev.length==0)=true:=by simpa using hp
    cases ha:decide (e.aA.length=0)with
    | false=>
     have ha2:((e.aA.length:Int)==0)=false:=by simpa using ha
     have ha3:(e.aA.length==0)=false:=by simpa using ha
     refine aa (i:=0) (d:=some 3) rfl ?_;refine az (i:=1) (d:=some 4) rfl (by(intro wq hq;have zf:=(HX.out wq hq).tu;go_simp;first| done| with_reducible rfl)) ?_;refine aa (i:=2) (d:=some 5) rfl ?_;refine aa (i:=3) (d:=some 6) rfl ?_;refine az (i:=4) (d:=some 7) rfl (by(intro wq hq;have zf:=(HX.out wq hq).key;go_simp;first| done| with_reducible rfl)) ?_;refine aa (i:=5) (d:=some 8) rfl ?_;refine aa (i:=6) (d:=some 9) rfl ?_;refine aa (i:=7) (d:=some 10) rfl ?_;refine aa (i:=8) (d:=some 11) rfl ?_;refine az (i:=9) (d:=some 12) rfl (by(intro wq hq;have zf:=(HX.out wq hq).prev;go_simp;first| done| with_reducible rfl)) ?_;refine aa (i:=10) (d:=some 13) rfl ?_;refine aa (i:=11) (d:=some 14) rfl ?_;refine aa (i:=12) (d:=some 15) rfl ?_;refine aa (i:=13) (d:=some 16) rfl ?_;refine aa (i:=14) (d:=some 17) rfl ?_;refine az (i:=15) (d:=some 18) rfl (by(intro wq hq;have zf:=(HX.out wq hq).Qy;go_simp;first| done| with_reducible rfl)) ?_;refine aa (i:=16) (d:=some 19) rfl ?_;refine aa (i:=17) (d:=some 20) rfl ?_;refine aa (i:=18) (d:=some 21) rfl ?_;refine aa (i:=19) (d:=some 22) rfl ?_;refine ae (i:=20) (d:=(some 23)) (v:=undef) (a':= ?aqcd20) rfl rfl (by kernel_rfl) (by kernel_rfl) (by kernel_rfl) (fun _ _ _ h=>h) (Or.inr ⟨by rfl,rfl⟩) ?fqcd20 ?_
     case fqcd20=>(go_frame;rfl)
     refine ae (i:=21) (d:=(some 24)) (v:=undef) (a':= ?aqcd21) rfl rfl (by kernel_rfl) (by kernel_rfl) (by kernel_rfl) (fun _ _ _ h=>h) (Or.inr ⟨by rfl,rfl⟩) ?fqcd21 ?_
     case fqcd21=>(go_frame;rfl)
     refine ae (i:=22) (d:=(some 25)) (v:=undef) (a':= ?aqcd22) rfl rfl (by kernel_rfl) (by kernel_rfl) (by kernel_rfl) (fun _ _ _ h=>h) (Or.inr ⟨by rfl,rfl⟩) ?fqcd22 ?_
     case fqcd22=>(go_frame;rfl)
     refine ae (i:=23) (d:=(some 26)) (v:=undef) (a':= ?aqcd23) rfl rfl (by kernel_rfl) (by kernel_rfl) (by kernel_rfl) (fun _ _ _ h=>h) (Or.inr ⟨by rfl,rfl⟩) ?fqcd23 ?_
     case fqcd23=>(go_frame;rfl)
     refine ae (i:=24) (d:=(some 27)) (v:=undef) (a':= ?aqcd24) rfl rfl (by kernel_rfl) (by kernel_rfl) (by kernel_rfl) (fun _ _ _ h=>h) (Or.inr ⟨by rfl,rfl⟩) ?fqcd24 ?_
     case fqcd24=>(go_frame;rfl)
     refine ae (i:=25) (d:=(some 28)) (v:=undef) (a':= ?aqcd25) rfl rfl (by kernel_rfl) (by kernel_rfl) (by kernel_rfl) (fun _ _ _ h=>h) (Or.inr ⟨by rfl,rfl⟩) ?fqcd25 ?_
     case fqcd25=>(go_frame;rfl)
     refine ae (i:=26) (d:=(some 29)) (v:=undef) (a':= ?aqcd26) rfl rfl (by kernel_rfl) (by kernel_rfl) (by kernel_rfl) (fun _ _ _ h=>h) (Or.inr ⟨by rfl,rfl⟩) ?fqcd26 ?_
     case fqcd26=>(go_frame;rfl)
     refine aa (i:=27) (d:=some 30) rfl ?_;refine aa (i:=28) (d:=some 31) rfl ?_;refine ae (i:=29) (d:=(some 32)) (v:=undef) (a':= ?aqcd29) rfl rfl (by kernel_rfl) (by kernel_rfl) (by kernel_rfl) (fun _ _ _ h=>h) (Or.inr ⟨by rfl,rfl⟩) ?fqcd29 ?_
     case fqcd29=>(go_frame;rfl)
     refine ae (i:=30) (d:=(some 33)) (v:=undef) (a':= ?aqcd30) rfl rfl (by kernel_rfl) (by kernel_rfl) (by kernel_rfl) (fun _ _ _ h=>h) (Or.inr ⟨by rfl,rfl⟩) ?fqcd30 ?_
     case fqcd30=>(go_frame;rfl)
     refine ae (i:=31) (d:=(some 34)) (v:=undef) (a':= ?aqcd31) rfl rfl (by kernel_rfl) (by kernel_rfl) (by kernel_rfl) (fun _ _ _ h=>h) (Or.inr ⟨by rfl,rfl⟩) ?fqcd31 ?_
     case fqcd31=>(go_frame;rfl)
     refine ae (i:=32) (d:=(some 35)) (v:=undef) (a':= ?aqcd32) rfl rfl (by kernel_rfl) (by kernel_rfl) (by kernel_rfl) (fun _ _ _ h=>h) (Or.inr ⟨by rfl,rfl⟩) ?fqcd32 ?_
     case fqcd32=>(go_frame;rfl)
     refine ae (i:=33) (d:=(some 36)) (v:=undef) (a':= ?aqcd33) rfl rfl (by kernel_rfl) (by kernel_rfl) (by kernel_rfl) (fun _ _ _ h=>h) (Or.inr ⟨by rfl,rfl⟩) ?fqcd33 ?_
     case fqcd33=>(go_frame;rfl)
     refine ae (i:=34) (d:=(some 37)) (v:=undef) (a':= ?aqcd34) rfl rfl (by kernel_rfl) (by kernel_rfl) (by kernel_rfl) (fun _ _ _ h=>h) (Or.inr ⟨by rfl,rfl⟩) ?fqcd34 ?_
     case fqcd34=>(go_frame;rfl)
     refine aa (i:=35) (d:=some 38) rfl ?_;refine aa (i:=36) (d:=some 2) rfl ?_;refine aD hD (by kernel_rfl) ?_ _;go_wp2;go_ret;exact⟨by rw[HC.out,hs,hk,hp,ha];rfl,fQ.out _ hD⟩
    | true=>
     have ha2:((e.aA.length:Int)==0)=true:=by simpa using ha
     have ha3:(e.aA.length==0)=true:=by simpa using ha
     cases hh:(r1.toList==r2.toList)with
     | false=>
      refine aa (i:=0) (d:=some 3) rfl ?_;refine az (i:=1) (d:=some 4) rfl (by(intro wq hq;have zf:=(HX.out wq hq).tu;go_simp;first| done| with_reducible rfl)) ?_;refine aa (i:=2) (d:=some 5) rfl ?_;refine aa (i:=3) (d:=some 6) rfl ?_;refine az (i:=4) (d:=some 7) rfl (by(intro wq hq;have zf:=(HX.out wq hq).key;go_simp;first| done| with_reducible rfl)) ?_;refine aa (i:=5) (d:=some 8) rfl ?_;refine aa (i:=6) (d:=some 9) rfl ?_;refine aa (i:=7) (d:=some 10) rfl ?_;refine aa (i:=8) (d:=some 11) rfl ?_;refine az (i:=9) (d:=some 12) rfl (by(intro wq hq;have zf:=(HX.out wq hq).prev;go_simp;first| done| with_reducible rfl)) ?_;refine aa (i:=10) (d:=some 13) rfl ?_;refine aa (i:=11) (d:=some 14) rfl ?_;refine aa (i:=12) (d:=some 15) rfl ?_;refine aa (i:=13) (d:=some 16) rfl ?_;refine aa (i:=14) (d:=some 17) rfl ?_;refine az (i:=15) (d:=some 18) rfl (by(intro wq hq;have zf:=(HX.out wq hq).Qy;go_simp;first| done| with_reducible rfl)) ?_;refine aa (i:=16) (d:=some 19) rfl ?_;refine aa (i:=17) (d:=some 20) rfl ?_;refine aa (i:=18) (d:=some 21) rfl ?_;refine aa (i:=19) (d:=some 22) rfl ?_;refine aa (i:=20) (d:=some 23) rfl ?_;refine az (i:=21) (d:=some 24) rfl (by(intro wq hq;have zf:=(HX.out wq hq).room;go_simp;first| done| with_reducible rfl)) ?_;refine aa (i:=23) (d:=some 26) rfl ?_;refine az (i:=24) (d:=some 27) rfl (by(intro wq hq;have zf:=(HX.out wq hq).ag;go_simp;first| done| with_reducible rfl)) ?_;refine ak (i:=22) hD rfl ?_;intro K hK;go_simp;go_wp2_with(go_at_call 80;refine(HH1.out _).mono ?_;rintro e w1 ⟨rfl,Jw⟩);have QL:Below W.heap.size W w1:=ah hD Jw;refine ak (i:=25) QL rfl ?_;intro K hK;go_simp;go_wp2_with(go_at_call 80;refine(HH2.out _).mono ?_;rintro e w2 ⟨rfl,rH⟩);have vz:Below W.heap.size W w2:=ah QL rH;refine aa (i:=26) (d:=some 29) rfl ?_;refine aa (i:=27) (d:=some 30) rfl ?_;refine aa (i:=28) (d:=some 31) rfl ?_;refine ae (i:=29) (d:=(some 32)) (v:=undef) (a':= ?aqce29) rfl rfl (by kernel_rfl) (by kernel_rfl) (by kernel_rfl) (fun _ _ _ h=>h) (Or.inr ⟨by rfl,rfl⟩) ?fqce29 ?_
      case fqce29=>(go_frame;rfl)
      refine ae (i:=30) (d:=(some 33)) (v:=undef) (a':= ?aqce30) rfl rfl (by kernel_rfl) (by kernel_rfl) (by kernel_rfl) (fun _ _ _ h=>h) (Or.inr ⟨by rfl,rfl⟩) ?fqce30 ?_
      case fqce30=>(go_frame;rfl)
      refine ae (i:=31) (d:=(some 34)) (v:=undef) (a':= ?aqce31) rfl rfl (by kernel_rfl) (by kernel_rfl) (by kernel_rfl) (fun _ _ _ h=>h) (Or.inr ⟨by rfl,rfl⟩) ?fqce31 ?_
      case fqce31=>(go_frame;rfl)
      refine ae (i:=32) (d:=(some 35)) (v:=undef) (a':= ?aqce32) rfl rfl (by kernel_rfl) (by kernel_rfl) (by kernel_rfl) (fun _ _ _ h=>h) (Or.inr ⟨by rfl,rfl⟩) ?fqce32 ?_
      case fqce32=>(go_frame;rfl)
      refine ae (i:=33) (d:=(some 36)) (v:=undef) (a':= ?aqce33) rfl rfl (by kernel_rfl) (by kernel_rfl) (by kernel_rfl) (fun _ _ _ h=>h) (Or.inr ⟨by rfl,rfl⟩) ?fqce33 ?_
      case fqce33=>(go_frame;rfl)
      refine ae (i:=34) (d:=(some 37)) (v:=undef) (a':= ?aqce34) rfl rfl (by kernel_rfl) (by kernel_rfl) (by kernel_rfl) (fun _ _ _ h=>h) (Or.inr ⟨by rfl,rfl⟩) ?fqce34 ?_
      case fqce34=>(go_frame;rfl)
      refine aa (i:=35) (d:=some 38) rfl ?_;refine aa (i:=36) (d:=some 2) rfl ?_;refine aD vz (by kernel_rfl) ?_ _;go_wp2;go_ret;exact⟨by rw[HC.out,hs,hk,hp,ha,hh];rfl,fQ.out _ vz⟩
     | true=>
      refine aa (i:=0) (d:=some 3) rfl ?_;refine az (i:=1) (d:=some 4) rfl (by(intro wq hq;have zf:=(HX.out wq hq).tu;go_simp;first| done| with_reducible rfl)) ?_;refine aa (i:=2) (d:=some 5) rfl ?_;refine aa (i:=3) (d:=some 6) rfl ?_;refine az (i:=4) (d:=some 7) rfl (by(intro wq hq;have zf:=(HX.out wq hq).key;go_simp;first| done| with_reducible rfl)) ?_;refine aa (i:=5) (d:=some 8) rfl ?_;refine aa (i:=6) (d:=some 9) rfl ?_;refine aa (i:=7) (d:=some 10) rfl ?_;refine aa (i:=8) (d:=some 11) rfl ?_;refine az (i:=9) (d:=some 12) rfl (by(intro wq hq;have zf:=(HX.out wq hq).prev;go_simp;first| done| with_reducible rfl)) ?_;refine aa (i:=10) (d:=some 13) rfl ?_;refine aa (i:=11) (d:=some 14) rfl ?_;refine aa (i:=12) (d:=some 15) rfl ?_;refine aa (i:=13) (d:=some 16) rfl ?_;refine aa (i:=14) (d:=some 17) rfl ?_;refine az (i:=15) (d:=some 18) rfl (by(intro wq hq;have zf:=(HX.out wq hq).Qy;go_simp;first| done| with_reducible rfl)) ?_;refine aa (i:=16) (d:=some 19) rfl ?_;refine aa (i:=17) (d:=some 20) rfl ?_;refine aa (i:=18) (d:=some 21) rfl ?_;refine aa (i:=19) (d:=some 22) rfl ?_;refine aa (i:=20) (d:=some 23) rfl ?_;refine az (i:=21) (d:=some 24) rfl (by(intro wq hq;have zf:=(HX.out wq hq).room;go_simp;first| done| with_reducible rfl)) ?_;refine aa (i:=23) (d:=some 26) rfl ?_;refine az (i:=24) (d:=some 27) rfl (by(intro wq hq;have zf:=(HX.out wq hq).ag;go_simp;first| done| with_reducible rfl)) ?_;refine ak (i:=22) hD rfl ?_;intro K hK;go_simp;go_wp2_with(go_at_call 80;refine(HH1.out _).mono ?_;rintro e w1 ⟨rfl,Jw⟩);have QL:Below W.heap.size W w1:=ah hD Jw;refine ak (i:=25) QL rfl ?_;intro K hK;go_simp;go_wp2_with(go_at_call 80;refine(HH2.out _).mono ?_;rintro e w2 ⟨rfl,rH⟩);have vz:Below W.heap.size W w2:=ah QL rH;refine aa (i:=26) (d:=some 29) rfl ?_;refine aa (i:=27) (d:=some 30) rfl ?_;refine aa (i:=28) (d:=some 31) rfl ?_;refine aa (i:=29) (d:=some 32) rfl ?_;refine ae (i:=30) (d:=(some 33)) (v:=(.agg #[.int .i64 e.content.kind,.int .i64 e.content.int,.string e.content.text,.slice p.pk e.content.keys.length p.ck,.slice p.pl e.content.list.length p.cl])) (a':= ?aqcf30) rfl rfl (by kernel_rfl) (by kernel_rfl) (by kernel_rfl) (fun _ _ _ h=>h) (Or.inl ⟨by rfl, ?yqcf30⟩) ?fqcf30 ?_
      case yqcf30=>exact fun wq hq=>b_ rfl rfl ((HX.out wq hq).Yd)
      case fqcf30=>(go_frame;rfl)
      refine aa (i:=32) (d:=some 35) rfl ?_;refine az (i:=33) (d:=some 36) rfl (by(intro wq hq;have zf:=(HX.out wq hq).ag;go_simp;first| done| with_reducible rfl)) ?_;refine ak (i:=31) vz rfl ?_;intro K hK;go_simp;go_wp2_with(go_at_call 31;refine(Rv.out _ vz).mono ?_;rintro e w3 ⟨rfl,qi⟩);have FD:Below W.heap.size W w3:=ah vz qi;refine aa (i:=34) (d:=some 37) rfl ?_;refine aa (i:=35) (d:=some 38) rfl ?_;refine aa (i:=36) (d:=some 2) rfl ?_;refine aD FD (by kernel_rfl) ?_ _;go_wp2;go_ret;exact⟨by rw[HC.out,hs,hk,hp,ha,hh];rfl,fQ.out _ FD⟩
theorem Cu(b:Bool)(w:World)(g:Nat)(v0:Value)(hg:w.heap[g]?=some (.cells #[v0] 32 (0,0))):
    CallsD Tryz.prog 25 #[.pointer (some ⟨g,0,none⟩)] (.panicking [{v:=.iface 84 (.agg #[.bool b]),recovered:=false}]) w fun e u' w'=>e=.returned (.tuple #[])/\u'=.panicking [{v:=.iface 84 (.agg #[.bool b]),recovered:=true}]/\w'.heap[g]?=some (.cells #[.int .i64 (if b=true then 0 else 110)] 32 (0,0))/\av (aQ g) w w':=by
 have hV:=Fv b w;refine callsD_of_wpS Tryz.func25 rfl fun c₀ cs hu=> ?_
 apply wpS_region
 simp[wpOpsS,go_sem,recoverD,hu,Tryz.ntmps25];refine hV.mono ?_;rintro e w1 ⟨rfl,aP⟩;have Uu:=(aP.block g (aO hg)).trans hg;have c0:=ay Uu 0 _ rfl;have z0:=ou Uu 0;have hk:av (aQ g) w (w1.setCell ⟨g,0,none⟩ (.int .i64 (if b=true then 0 else 110))):=av.setCell (S:=aQ g) (p:=⟨g,0,none⟩) (av.aW aP) (fun _=>(rfl:g=g)) _;have hh:(w1.setCell ⟨g,0,none⟩ (.int .i64 (if b=true then 0 else 110))).heap[g]?=some (.cells #[.int .i64 (if b=true then 0 else 110)] 32 (0,0)):=by rw[heap_setCell_same w1 g 0 _ _ _ Uu];rfl
 simp[go_sem,c0,z0,bodyPostS,results,Tryz.results25];exact⟨hh,hk⟩
theorem FE(e:Ev):(aG e=false/\lZ e=50)\/ (aG e=true/\(lZ e=0\/ lZ e=13)):=by
 unfold lZ
 cases aG e with
 | false=>exact .inl ⟨rfl,rfl⟩
 | true=>
  right
  refine⟨rfl, ?_⟩;rw[if_pos rfl]
  split
  ·exact .inr rfl
  ·exact .inl rfl
theorem QM{O:Nat->Prop}{w:World}{e:Ev}{p:Pt}{ps:Option Addr}{n cs:Nat}{b:Bool}(h:iL O w e p)(hO:∀k,O k->k<w.heap.size)(hz:xe e)(hT:uW w)
    (HA:∀X,Below w.heap.size w X->Calls Tryz.prog 27 #[dZ e p,.slice ps n cs] X fun x w'=>x=fO b/\Below X.heap.size X w'):
    Calls Tryz.prog 11 #[dZ e p,.slice ps n cs] w fun x w'=>x=.returned (.int .i64 (if aG e=true then(if b=true then 0 else 110)else 50))/\Below w.heap.size w w':=by
 obtain⟨W0,fw⟩:∃W0,W0=(w.alloc (.cells (aB e p).toArray 28)).alloc (.cells #[.int .i64 0] 32):=⟨_,rfl⟩;have dS:Below w.heap.size w W0:=by rw[fw];exact((Below.refl _ _).alloc (Nat.le_refl _) _).alloc (by simp) _
 have r9:W0.heap[w.heap.size]?=some (.cells (aB e p).toArray 28 (0,0)):=by rw[fw,Below.heap_alloc _ _ _ (by simp)];exact bR _
 have Yf:W0.heap[w.heap.size+1]?=some (.cells #[.int .i64 0] 32 (0,0)):=by
  rw[fw];have:=bR (w:=w.alloc (.cells (aB e p).toArray 28)) (.cells #[.int .i64 0] 32);rw[World.size_alloc]at this;exact this
 have hV:=kC h hO dS r9;have HX:Hid (∀X,Below W0.heap.size W0 X->X.rangeAt w.heap.size 0 (aB e p)/\X.heap[w.heap.size+1]?=some (.cells #[.int .i64 0] 32 (0,0))):=fun X hX=>⟨(hV.below hX).iW,(hX.block _ (aO Yf)).trans Yf⟩;have yK:=Jc e p W0 hV.ev (fun _ h=>h) hz (hT.below dS);have zdi:Hid (∀X,Below W0.heap.size W0 X->Calls Tryz.prog 27 #[dZ e p,.slice ps n cs] X fun x w'=>x=fO b/\Below X.heap.size X w'):=fun X hX=>HA X (ah dS hX);have hmf:∀(fn:Fn) (first cap:Array Value) (w:World),(Instr.makeFunc fn first cap).run Tryz.prog w=.ok (.func fn first cap) w:=fun _ _ _ _=>rfl;have C7:=(show Hid _ from(HX.out W0 (Below.refl _ _)).1);clear h hV HA r9 Yf;unfold dZ at yK zdi ⊢;obtain⟨r,hr⟩:∃r:Int,(if b=true then(0:Int)else 110)=r:=⟨_,rfl⟩;rw[hr];have HRR:Hid ((if b=true then(0:Int)else 110)=r):=hr;clear hr
 rcases FE e with⟨h1,h2⟩| ⟨h1,h2⟩
 ·rw[h2]at yK;rw[h1]
  go_enter_defers Tryz.func11,Tryz.ntmps11
  go_upto_region 1 with fail
  rw[<-fw];clear fw;go_wp2_with(first
   | (refine wpList_load_mid rfl 28 _ rfl w.heap.size 0 rfl (aB e p) _ C7.out Tryz.underlying28 rfl eQ ?_)
   | (go_at_call 24;refine yK.mono ?_;rintro x w1 ⟨rfl,aP⟩
      have hR1:=(HX.out w1 aP).2;have c0:=ay hR1 0 _ rfl;have z0:=ou hR1 0;have Vy:=(show Hid _ from hR1);clear hR1))
  have hh:(w1.setCell ⟨w.heap.size+1,0,none⟩ (.int .i64 50)).heap[w.heap.size+1]?=some (.cells #[.int .i64 50] 32 (0,0)):=by rw[heap_setCell_same w1 (w.heap.size+1) 0 _ _ _ Vy.out];rfl
  have hk:av (aQ (w.heap.size+1)) w1 (w1.setCell ⟨w.heap.size+1,0,none⟩ (.int .i64 50)):=av.setCell (S:=aQ (w.heap.size+1)) (p:=⟨w.heap.size+1,0,none⟩) (av.refl _ _) (fun _=>(rfl:w.heap.size+1=w.heap.size+1)) _;have c1:=ay hh 0 _ rfl;have lD:Below w.heap.size w w1:=ah dS aP;have SE:=lD.trans (hk.below lD.size fun k hk e=>by unfold aQ at e;omega);generalize w1.setCell ⟨w.heap.size+1,0,none⟩ (.int .i64 50)=w2 at c1 SE;simp[bodyPostD,Leaves,results,Tryz.results11,go_sem,c1];exact SE
 ·have hs:(lZ e==50)=false:=by rcases h2 with h| h<;>rw[h]<;>rfl
  generalize lZ e=sh at yK hs;clear h2;rw[h1]
  go_enter_defers Tryz.func11,Tryz.ntmps11
  go_upto_region 1 with fail
  rw[<-fw];clear fw
  go_upto_region 4 with(first
   | (refine wpList_load_mid rfl 28 _ rfl w.heap.size 0 rfl (aB e p) _ C7.out Tryz.underlying28 rfl eQ ?_)
   | (go_at_call 24;refine yK.mono ?_;rintro x w1 ⟨rfl,aP⟩))
  have zhE:=(show Hid _ from(HX.out w1 aP).1);have zhF:=zdi.out w1 aP;clear C7 yK;go_wp2_with(first
   | (refine wpList_load_mid rfl 28 _ rfl w.heap.size 0 rfl (aB e p) _ zhE.out Tryz.underlying28 rfl eQ ?_)
   | (go_at_call 27;refine zhF.mono ?_;rintro x w2 ⟨rfl,aT⟩))
  refine leaves_cons (f:=25) (args:=#[.pointer (some ⟨w.heap.size+1,0,none⟩)]) (by simp) (by simp[go_sem]) ?_;refine(Cu b w2 (w.heap.size+1) _ (HX.out w2 (ah aP aT)).2).mono ?_;rintro x u' w3 ⟨rfl,rfl,hh,hk⟩;rw[HRR.out]at hh;have c1:=ay hh 0 _ rfl;have lD:Below w.heap.size w w2:=ah dS (ah aP aT);have SE:=lD.trans (hk.below lD.size fun k hk e=>by unfold aQ at e;omega);simp[Leaves,settle,results,Tryz.results11,go_sem,c1];exact SE
end Go.Proofs.YtldegjjaknelgaaGreatDoor

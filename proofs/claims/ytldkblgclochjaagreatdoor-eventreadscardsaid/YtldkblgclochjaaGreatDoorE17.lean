/- A part. -/
import Derived.Test.YtldkblgclochjaaGreatDoorE16
set_option maxRecDepth 100000
set_option maxHeartbeats 16000000
namespace Go.Proofs.YtldkblgclochjaaGreatDoor
open Go.RowKit Go.Maps
theorem Bb{O:Nat->Prop}{w:World}{j:J}{k i:Int}{t:ByteArray}{pk pl:Option Addr}{nk ck nl cl:Nat}(hO:∀x,O x->x<w.heap.size)(hj:isJ O w j [.int .i64 k,.int .i64 i,.string t,.slice pk nk ck,.slice pl nl cl])(gZ:j.keys.length<=j.list.length)(hd:j.keys.Pairwise (· ≠ ·))(hn:j.keys.length<=80000)(hl:j.list.length<=100000)(qE:∀x∈j.keys,x.size<=1000000000)(hv:∀x∈j.list,zl x)(lM:BC j=true)(jF:EO j=false):
    Calls Tryz.prog 15 #[.agg #[.int .i64 k,.int .i64 i,.string t,.slice pk nk ck,.slice pl nl cl]] w fun x w'=>(∃p,x=.returned (.tuple #[fA (bM j) p,.bool (fO j)])/\mY (fun q=>O q\/ gH w w' q) w' (bM j) p)/\Below w.heap.size w w':=by
 obtain⟨R,hR⟩:∃R,R=w.heap.size+1+1+1:=⟨_,rfl⟩;obtain⟨M,hM⟩:∃M,M=w.heap.size+1+1:=⟨_,rfl⟩;obtain⟨WB,eY⟩:∃WB,WB=(((w.alloc (.cells #[.int .i64 k,.int .i64 i,.string t,.slice pk nk ck,.slice pl nl cl] 25)).alloc (.cells #[.string ⟨#[]⟩,.string ⟨#[]⟩,.string ⟨#[]⟩,.bool false,.string ⟨#[]⟩,.int .i64 0,.int .i64 0,.string ⟨#[]⟩,.slice none 0 0,.slice none 0 0,.slice none 0 0,.slice none 0 0,.int .i64 0,.int .i64 0,.string ⟨#[]⟩,.slice none 0 0] 29)).alloc (.map #[] 0)).alloc (.cells #[.map (some M),.bool false] 67):=⟨_,rfl⟩;have dK:Below w.heap.size w WB:=by rw[eY];exact((((Below.refl _ _).alloc (Nat.le_refl _) _).alloc (by simp) _).alloc (by simp<;>omega) _).alloc (by simp<;>omega) _
 have EP:WB.heap.size=w.heap.size+4:=by rw[eY];simp
 have yR:WB.heap[R]?=some (.cells #[.map (some M),.bool false] 67 (0,0)):=by
  rw[eY];have:=heap_alloc_new (((w.alloc (.cells #[.int .i64 k,.int .i64 i,.string t,.slice pk nk ck,.slice pl nl cl] 25)).alloc (.cells #[.string ⟨#[]⟩,.string ⟨#[]⟩,.string ⟨#[]⟩,.bool false,.string ⟨#[]⟩,.int .i64 0,.int .i64 0,.string ⟨#[]⟩,.slice none 0 0,.slice none 0 0,.slice none 0 0,.slice none 0 0,.int .i64 0,.int .i64 0,.string ⟨#[]⟩,.slice none 0 0] 29)).alloc (.map #[] 0)) (.cells #[.map (some M),.bool false] 67);rw[hR];simpa using this
 have vV:WB.heap[w.heap.size]?=some (.cells #[.int .i64 k,.int .i64 i,.string t,.slice pk nk ck,.slice pl nl cl] 25 (0,0)):=by
  rw[eY,Below.heap_alloc _ _ _ (by simp<;>omega),Below.heap_alloc _ _ _ (by simp<;>omega)];exact kV _ _
 have pX:WB.heap[w.heap.size+1]?=some (.cells #[.string ⟨#[]⟩,.string ⟨#[]⟩,.string ⟨#[]⟩,.bool false,.string ⟨#[]⟩,.int .i64 0,.int .i64 0,.string ⟨#[]⟩,.slice none 0 0,.slice none 0 0,.slice none 0 0,.slice none 0 0,.int .i64 0,.int .i64 0,.string ⟨#[]⟩,.slice none 0 0] 29 (0,0)):=by
  rw[eY,Below.heap_alloc _ _ _ (by simp<;>omega),Below.heap_alloc _ _ _ (by simp)];exact jm _ _
 have uQ:fU WB M []:=by
  have h1:=fU.made ((w.alloc (.cells #[.int .i64 k,.int .i64 i,.string t,.slice pk nk ck,.slice pl nl cl] 25)).alloc (.cells #[.string ⟨#[]⟩,.string ⟨#[]⟩,.string ⟨#[]⟩,.bool false,.string ⟨#[]⟩,.int .i64 0,.int .i64 0,.string ⟨#[]⟩,.slice none 0 0,.slice none 0 0,.slice none 0 0,.slice none 0 0,.int .i64 0,.int .i64 0,.string ⟨#[]⟩,.slice none 0 0] 29));have h2:((w.alloc (.cells #[.int .i64 k,.int .i64 i,.string t,.slice pk nk ck,.slice pl nl cl] 25)).alloc (.cells #[.string ⟨#[]⟩,.string ⟨#[]⟩,.string ⟨#[]⟩,.bool false,.string ⟨#[]⟩,.int .i64 0,.int .i64 0,.string ⟨#[]⟩,.slice none 0 0,.slice none 0 0,.slice none 0 0,.slice none 0 0,.int .i64 0,.int .i64 0,.string ⟨#[]⟩,.slice none 0 0] 29)).heap.size=M:=by rw[hM];simp
  rw[h2]at h1;rw[eY];exact h1.bf (S:=fun _=>False) ((ag.refl _ _).alloc _) (fun h=>h)
 have Uv:ER O WB R M [] false:=⟨yR,⟨[],uQ,rfl⟩,by omega,fun q z=>by have:=hO q z;omega⟩;have nP:=(bC hj).2.2.2.1;have mo:=(bC hj).2.2.2.2.1;have ll:=(bC hj).2.2.2.2.2.1;have Ed:=(bC hj).2.2.2.2.2.2.1;have mf:=(bC hj).2.2.2.2.2.2.2;have Bj:=ll.1;have jd:Hid (nk=j.keys.length):=nP;have nH:Hid (nl=j.list.length):=mo;have Ec:Hid (j.keys.length<=j.list.length):=gZ;have HD:Hid (j.keys.Pairwise (· ≠ ·)):=hd;have WW:Hid (∀x∈j.keys,x.size<=1000000000):=qE;rw[<-nP]at hn Bj gZ;rw[<-mo]at hl Ed gZ;have Ba:Hid (R=w.heap.size+3/\M=w.heap.size+2):=⟨by omega,by omega⟩;have vv:Hid (BC j=true):=lM;have Dg:Hid (EO j=false):=jF;have oo:Hid (Below w.heap.size w WB):=dK;have HMM:=jb Tryz.underlying65;have T0:=yn hv;have T1:=bP T0 eu;have T2:=bP T1 fE;have T3:=bP T2 bN;have T4:=bP T3 aS;have T5:=bP T4 dL;have T6:=bP T5 dG;have T7:=bP T6 dw;have T8:=bP T7 qQ;have T9:=bP T8 ed;have T10:=bP T9 dV;have C0:Hid (∀W,ER O W R M (mg j) (rB0 j)->Calls Tryz.prog 35 #[.pointer (some ⟨R,0,none⟩),.string eu] W fun x w'=>x=.returned (.string (qa j).text)/\ER O w' R M (FY j) (QF j)/\ag (dU R M) W w'):=fun W h=>eZ h eu (dO (by decide));have C1:Hid (∀W,ER O W R M (FY j) (QF j)->Calls Tryz.prog 35 #[.pointer (some ⟨R,0,none⟩),.string fE] W fun x w'=>x=.returned (.string (qm j).text)/\ER O w' R M (H_ j) (Tz j)/\ag (dU R M) W w'):=fun W h=>eZ h fE (dO (by decide));have C2:Hid (∀W,ER O W R M (H_ j) (Tz j)->Calls Tryz.prog 35 #[.pointer (some ⟨R,0,none⟩),.string bN] W fun x w'=>x=.returned (.string (qo j).text)/\ER O w' R M (IU j) (TA j)/\ag (dU R M) W w'):=fun W h=>eZ h bN (dO (by decide));have C3:Hid (∀W,ER O W R M (IU j) (TA j)->Calls Tryz.prog 36 #[.pointer (some ⟨R,0,none⟩),.string aS,.int .i64 5] W fun x w'=>(∃k i t pk nk ck pl nl cl,x=.returned (.agg #[.int .i64 k,.int .i64 i,.string t,.slice pk nk ck,.slice pl nl cl])/\isJ O w' (rG3 j) [.int .i64 k,.int .i64 i,.string t,.slice pk nk ck,.slice pl nl cl])/\ER O w' R M (Kz j) (TB j)/\ag (dU R M) W w'):=fun W h=>nC h aS (dO (by decide)) 5;have C4:Hid (∀W,ER O W R M (Kz j) (TB j)->Calls Tryz.prog 37 #[.pointer (some ⟨R,0,none⟩),.string dL] W fun x w'=>(∃q c,x=.returned (.slice q (nU j).list.length c)/\j5 (gH W w') w' q c ((nU j).list.map J.text))/\ER O w' R M (Mg j) (TC j)/\ag (dU R M) W w'):=fun W h=>jV h dL (dO (by decide)) (gP T4 _).1;have C5:Hid (∀W,ER O W R M (Mg j) (TC j)->Calls Tryz.prog 37 #[.pointer (some ⟨R,0,none⟩),.string dG] W fun x w'=>(∃q c,x=.returned (.slice q (nV j).list.length c)/\j5 (gH W w') w' q c ((nV j).list.map J.text))/\ER O w' R M (OA j) (TD j)/\ag (dU R M) W w'):=fun W h=>jV h dG (dO (by decide)) (gP T5 _).1;have C6:Hid (∀W,ER O W R M (OA j) (TD j)->Calls Tryz.prog 38 #[.pointer (some ⟨R,0,none⟩),.string dw] W fun x w'=>x=.returned (.int .i64 (qp j).int)/\ER O w' R M (QE j) (TE j)/\ag (dU R M) W w'):=fun W h=>jh h dw (dO (by decide));have C7:Hid (∀W,ER O W R M (QE j) (TE j)->Calls Tryz.prog 38 #[.pointer (some ⟨R,0,none⟩),.string qQ] W fun x w'=>x=.returned (.int .i64 (qw j).int)/\ER O w' R M (Ty j) (TF j)/\ag (dU R M) W w'):=fun W h=>jh h qQ (dO (by decide));have C8:Hid (∀W,ER O W R M (Ty j) (TF j)->Calls Tryz.prog 35 #[.pointer (some ⟨R,0,none⟩),.string ed] W fun x w'=>x=.returned (.string (qx j).text)/\ER O w' R M (UF j) (TG j)/\ag (dU R M) W w'):=fun W h=>eZ h ed (dO (by decide));have C9:Hid (∀W,ER O W R M (UF j) (TG j)->Calls Tryz.prog 39 #[.pointer (some ⟨R,0,none⟩),.string dV] W fun x w'=>(∃q c,x=.returned (.slice q (aT (nI j)).length c)/\FK (gH W w') w' q c (aT (nI j)))/\ER O w' R M (ym j) (t_ j)/\ag (dU R M) W w'):=fun W h=>vK h dV (dO (by decide)) (gP T9 _).1 (gP T9 _).2;have C10:Hid (∀W,ER O W R M (ym j) (t_ j)->Calls Tryz.prog 35 #[.pointer (some ⟨R,0,none⟩),.string kK] W fun x w'=>x=.returned (.string (nO j).text)/\ER O w' R M (OB j) (EO j)/\ag (dU R M) W w'):=fun W h=>eZ h kK (dO (by decide));clear lM jF hj nP mo hv hd qE dK yR uQ T0 T1 T2 T3 T4 T5 T6 T7 T8 T9 T10;go_enter Tryz.func15,Tryz.ntmps15;go_wp2;rw[<-hR,<-hM,<-eY];have hR1:w.heap.size+3<=R:=by omega
 have hR2:R<=w.heap.size+3:=by omega
 have hM1:w.heap.size+2<=M:=by omega
 have hM2:M<=w.heap.size+2:=by omega
 have Qx:WB.heap.size<=w.heap.size+4:=by omega
 have YP:w.heap.size+4<=WB.heap.size:=by omega
 clear eY HMM hR hM EP
 go_loopw [18] (fun v wr=>∃m:Nat,v=.int .i64 m/\m<=nk/\ER O wr R M ((mg j).take m) false/\ag (One M) WB wr) (fun v _=>nk - (intOf v).toNat)
 case atStart=>exact⟨0,rfl,Nat.zero_le _,by rw[List.take_zero];exact Uv,ag.refl _ _⟩
 case round=>
  obtain⟨m,rfl,hm,H,rT⟩:=hrel;have fI:=rT.size;have gV:=(rT.block w.heap.size (by omega) (by unfold One;omega)).trans vV;obtain⟨es,xP,hrel⟩:=H.map;have zV:=H.c0
  by_cases lG:m<nk
  ·have oH:(m:Int)<(nk:Int):=by omega
   have Tx:(m:Int)<(nl:Int):=by omega
   have uN:m<j.keys.length:=by rw[<-jd.out];exact lG
   have gX:m<j.list.length:=by rw[<-nH.out];omega
   obtain⟨ka,Ct,WN,Dh⟩:=ll.2 m uN;subst Ct;have jW:∀q,O q->wr.heap[q]?=w.heap[q]?:=fun q z=>(rT.block q (by have:=hO q z;omega) (by unfold One;have:=hO q z;omega)).trans (oo.out.block q (hO q z));have JC:wr.cell? (ka.add m)=some (.string (j.keys.getD m aH)):=(World.cell?_of_block (by rw[bu];exact jW _ WN)).trans Dh;obtain⟨lb,lo,cs,rO,uq,bL,iV⟩:=isJs.at j.list 0 m mf gX;subst rO;obtain⟨x0,x1,x2,p3,n3,c3,p4,n4,c4,rfl⟩:=dD iV;have gT:=jW lb uq;have jr:j.keys.getD m aH∈j.keys:=by rw[List.getD_eq_getElem?_getD,List.getElem?_eq_getElem uN];exact List.getElem_mem _
   have xO:vw (j.keys.getD m aH):=dO (WW.out _ jr);have sO:=BF Ec.out HD.out uN;rw[<-hrel.keys]at sO;have OD:es.length<90000:=by
    have:=congrArg List.length hrel.keys;rw[List.length_map,List.length_map,List.length_take]at this;omega
   have WX:Hid ((mg j).take (m+1)=(mg j).take m++ [(j.keys.getD m aH,j.list.getD m J.zero)]):=yo Ec.out uN;obtain⟨u,hu⟩:∃u,j.keys.getD m aH=u:=⟨_,rfl⟩;rw[hu]at JC xO sO WX;have WY:vJ O wr (j.list.getD m J.zero) (.agg #[.int .i64 x0,.int .i64 x1,.string x2,.slice p3 n3 c3,.slice p4 n4 c4]):=⟨_,_,_,_,_,_,_,_,_,rfl,iV.carry fun q z=>⟨z,jW q z⟩⟩;have HVJ:Hid _:=WY;have N_:Hid (lb<w.heap.size):=hO lb uq;have hC:∀W:World,(∀q,q<wr.heap.size->q≠M->W.heap[q]?=wr.heap[q]?)->W.cell? ⟨R,0,none⟩=some (.map (some M))/\W.cell? ⟨w.heap.size,4,none⟩=some (.slice (some ⟨lb,lo,none⟩) nl cl)/\∀n v, [Value.int .i64 x0,.int .i64 x1,.string x2,.slice p3 n3 c3,.slice p4 n4 c4][n]?=some v->W.cell? ⟨lb,lo+m*5+n,none⟩=some v:=fun W hW=>by
    have Vf:=hO lb uq;refine⟨(World.cell?_of_block (a:=⟨R,0,none⟩) (hW R (by omega) (by omega))).trans zV,(World.cell?_of_block (a:=⟨w.heap.size,4,none⟩) (hW w.heap.size (by omega) (by omega))).trans (aZ gV),fun n v h=> ?_⟩;have:=bL n v h;rw[Nat.zero_add]at this;exact(World.cell?_of_block (a:=⟨lb,lo+m*5+n,none⟩) ((hW lb (by omega) (by omega)).trans gT)).trans this
   have HC:Hid _:=hC;have b3:=fV gV;have Di:fU wr.drew M es:=xP.bf (S:=fun _=>False) (ag.refl _ _).drew (fun h=>h);have fM:∀q,q<wr.heap.size->q≠M->wr.drew.heap[q]?=wr.heap[q]?:=fun q _ _=>rfl;clear hC WY bL iV jW hu Dh jr gT zV;go_wp2;refine aD (by kernel_rfl) (fun W=>∀q,q<wr.heap.size->q≠M->W.heap[q]?=wr.heap[q]?) ?_;change wpIn _ _ _ _ _ _ _ _ (World.drew _);refine aa (i:=0) (d:=some 23) rfl ?_;refine aC (i:=1) (d:=some 24) rfl (by(intro wq z;have q0:=(HC.out wq z).1;go_simp;first| done| with_reducible rfl)) ?_;refine aa (i:=2) (d:=some 25) rfl ?_;refine aa (i:=3) (d:=some 26) rfl ?_;refine aC (i:=4) (d:=some 27) rfl (by(intro wq z;have q0:=(HC.out wq z).2.1;go_simp;first| done| with_reducible rfl)) ?_;refine aa (i:=5) (d:=some 28) rfl ?_;refine aa (i:=6) (d:=some 29) rfl ?_;refine aC (i:=7) (d:=some 30) rfl (by(intro wq z;have qq:=(HC.out wq z).2.2;have q0:=qq 0 _ rfl;rw[Nat.add_zero]at q0;have q1:=qq 1 _ rfl;have q2:=qq 2 _ rfl;have q3:=qq 3 _ rfl;have V:=qq 4 _ rfl;clear qq;go_simp;first| done| with_reducible rfl)) ?_;refine av (i:=8) fM rfl ?_;intro K hK;refine BB _ _ _ rfl (.agg #[.int .i64 x0,.int .i64 x1,.string x2,.slice p3 n3 c3,.slice p4 n4 c4]) rfl rfl rfl Di xO sO OD ?_;intro W2 Tu nM;refine hK _ _ ?_;clear hK K;have oM:ag (One M) wr.drew W2:=ag.dt nM fun _ _ e=>(Option.some.inj e).symm;have jP:ag (One M) wr W2:=⟨oM.os,oM.tape,oM.output,oM.size,oM.block⟩;have iI:∀q,q<wr.heap.size->q≠M->W2.heap[q]?=wr.heap[q]?:=fun q z hn=>jP.block q z hn;have AZ:ER O W2 R M ((mg j).take m++ [(u,j.list.getD m J.zero)]) false:=⟨(jP.block R (by have:=Ba.out;omega) H.ne).trans H.obj,⟨_,Tu,oL.snoc (vJ.carry HVJ.out fun q z=>⟨z,jP.block q (H.low q z).2.2 (H.low q z).2.1⟩) (hrel.carry fun q z=>⟨z,jP.block q (H.low q z).2.2 (H.low q z).2.1⟩)⟩,H.ne,fun q z=>⟨(H.low q z).1,(H.low q z).2.1,Nat.lt_of_lt_of_le (H.low q z).2.2 jP.size⟩⟩;refine aB iI (by kernel_rfl) ?_ _;go_wp2;go_roundw
   case rel=>exact⟨m+1,by go_num,lG,by rw[WX.out];exact AZ,rT.then jP⟩
   case measure=>simp[intOf];omega
  ·obtain rfl:m=nk:=by omega
   have xW:(mg j).take m=mg j:=List.take_of_length_le (by unfold mg;rw[List.length_zip,<-jd.out];omega);rw[xW]at H hrel;clear xW;obtain⟨⟨kz,iz,tz,pz,nz,cz,OE,OG,OH,hvz,_⟩,uR⟩:=hrel.look kK;have KC:(lookE es ⟨#[107,101,121]⟩).isSome=true:=uR.trans vv.out;clear uR;have Am:=H.below ((Below.refl _ _).alloc (Nat.le_refl _) (.cells #[.int .i64 kz,.int .i64 iz,.string tz,.slice pz nz cz,.slice OE OG OH] 25));have D0:=C0.out _ Am;have Dj:ag (dU R M) WB (wr.alloc (.cells #[.int .i64 kz,.int .i64 iz,.string tz,.slice pz nz cz,.slice OE OG OH] 25)):=(rT.mono fun q _ e=>.inr e).alloc _;have HW0:Hid (ag (dU R M) WB (wr.alloc (.cells #[.int .i64 kz,.int .i64 iz,.string tz,.slice pz nz cz,.slice OE OG OH] 25))):=Dj;clear Dj;go_wp2_with(first
    | (go_at_call 35;have _g:=D10;refine D10.mono ?_;rintro x KE ⟨rfl,Xd,OQ⟩
       have Dn:=(OQ.block E.heap.size (by simp) (by unfold dU;have:=sQ.out.size;omega)).trans OT;have Xe:Hid (ag (dU R M) WB KE):=(sQ.out.alloc _).then OQ;clear D10;have K4:ag (One E.heap.size) KE (KE.setCell ⟨E.heap.size,4,none⟩ (.string (nO j).text)):=ag.setCell (ag.refl _ _) (fun _=>(rfl:E.heap.size=E.heap.size)) _;have G:(KE.setCell ⟨E.heap.size,4,none⟩ (.string (nO j).text)).heap[E.heap.size]?=some (.cells #[.string (qa j).text,.string (qm j).text,.string (qo j).text,.bool true,.string (nO j).text,.int .i64 kC,.int .i64 iC,.string tC,.slice I qZ T,.slice N rf U,.slice V (nU j).list.length c4,.slice X (nV j).list.length c5,.int .i64 (qp j).int,.int .i64 (qw j).int,.string (qx j).text,.slice Z (aT (nI j)).length Y] 29 (0,0)):=by rw[heap_setCell_same _ E.heap.size 4 _ _ _ Dn];rfl
       have g4:=az Dn 4 _ rfl;have gf4:=aW Dn 4;have Ib:=Xd.bf K4 (by unfold One;have:=sQ.out.size;omega) (by unfold One;have:=sQ.out.size;omega) (fun q z=>by unfold One;have:=(Xd.low q z).2.2;have:=(Ia.low q z).2.2;omega);have e1:=Ib.c1;rw[Dg.out]at e1;have e0:=Ib.c0;obtain⟨W_,Dk,Dl⟩:=Ib.map;obtain⟨n9,OL⟩:∃n,W_.length=n:=⟨_,rfl⟩;have cB:=Dk.len;simp only[OL]at cB;have HN9:Hid (W_.length=n9):=OL;clear OL;have A:=(K4.block (w.heap.size+1) (by have:=Xe.out.size;omega) (by unfold One;have:=sQ.out.size;omega)).trans ((Xe.out.block (w.heap.size+1) (by omega) (by unfold dU;omega)).trans pX);have l0:=az G 0 _ rfl;have l1:=az G 1 _ rfl;have l2:=az G 2 _ rfl;have l3:=az G 3 _ rfl;have l4:=az G 4 _ rfl;have l5:=az G 5 _ rfl;have l6:=az G 6 _ rfl;have l7:=az G 7 _ rfl;have l8:=az G 8 _ rfl;have l9:=az G 9 _ rfl;have l10:=az G 10 _ rfl;have l11:=az G 11 _ rfl;have l12:=az G 12 _ rfl;have l13:=az G 13 _ rfl;have l14:=az G 14 _ rfl;have l15:=az G 15 _ rfl;have i0:=az A 0 _ rfl;have i1:=az A 1 _ rfl;have i2:=az A 2 _ rfl;have i3:=az A 3 _ rfl;have i4:=az A 4 _ rfl;have i5:=az A 5 _ rfl;have i6:=az A 6 _ rfl;have i7:=az A 7 _ rfl;have i8:=az A 8 _ rfl;have i9:=az A 9 _ rfl;have i10:=az A 10 _ rfl;have i11:=az A 11 _ rfl;have i12:=az A 12 _ rfl;have i13:=az A 13 _ rfl;have i14:=az A 14 _ rfl;have i15:=az A 15 _ rfl;have z0:=aW A 0;have z1:=aW A 1;have z2:=aW A 2;have z3:=aW A 3;have z4:=aW A 4;have z5:=aW A 5;have z6:=aW A 6;have z7:=aW A 7;have z8:=aW A 8;have z9:=aW A 9;have z10:=aW A 10;have z11:=aW A 11;have z12:=aW A 12;have z13:=aW A 13;have z14:=aW A 14;have z15:=aW A 15)
    | (go_at_call 39;have _g:=D9;refine D9.mono ?_;rintro x E ⟨⟨Z,Y,rfl,hq9⟩,Ia,uo⟩
       have sQ:Hid (ag (dU R M) WB E):=WZ.out.then uo;clear D9;have Ib:=Ia.below ((Below.refl _ _).alloc (Nat.le_refl _) (.cells #[.string (qa j).text,.string (qm j).text,.string (qo j).text,.bool true,.string ⟨#[]⟩,.int .i64 kC,.int .i64 iC,.string tC,.slice I qZ T,.slice N rf U,.slice V (nU j).list.length c4,.slice X (nV j).list.length c5,.int .i64 (qp j).int,.int .i64 (qw j).int,.string (qx j).text,.slice Z (aT (nI j)).length Y] 29));have D10:=C10.out _ Ib;have OT:=heap_alloc_new E (.cells #[.string (qa j).text,.string (qm j).text,.string (qo j).text,.bool true,.string ⟨#[]⟩,.int .i64 kC,.int .i64 iC,.string tC,.slice I qZ T,.slice N rf U,.slice V (nU j).list.length c4,.slice X (nV j).list.length c5,.int .i64 (qp j).int,.int .i64 (qw j).int,.string (qx j).text,.slice Z (aT (nI j)).length Y] 29))
    | (go_at_call 35;have _g:=D8;refine D8.mono ?_;rintro x w9 ⟨rfl,hE9,OM⟩
       have WZ:Hid (ag (dU R M) WB w9):=HW8.out.then OM;clear D8;have D9:=C9.out w9 hE9)
    | (go_at_call 38;have _g:=D7;refine D7.mono ?_;rintro x w8 ⟨rfl,hE8,qi⟩
       have HW8:Hid (ag (dU R M) WB w8):=HW7.out.then qi;clear D7;have D8:=C8.out w8 hE8)
    | (go_at_call 38;have _g:=D6;refine D6.mono ?_;rintro x w7 ⟨rfl,hE7,o_⟩
       have HW7:Hid (ag (dU R M) WB w7):=HW6.out.then o_;clear D6;have D7:=C7.out w7 hE7)
    | (go_at_call 37;have _g:=D5;refine D5.mono ?_;rintro x w6 ⟨⟨X,c5,rfl,ZB⟩,hE6,nG⟩
       have HW6:Hid (ag (dU R M) WB w6):=Xa.out.then nG;clear D5;have D6:=C6.out w6 hE6)
    | (go_at_call 37;have _g:=D4;refine D4.mono ?_;rintro x w5 ⟨⟨V,c4,rfl,UH⟩,xc,uF⟩
       have Xa:Hid (ag (dU R M) WB w5):=OO.out.then uF;clear D4;have D5:=C5.out w5 xc)
    | (go_at_call 36;have _g:=D3;refine D3.mono ?_;rintro x w4 ⟨⟨kC,iC,tC,I,qZ,T,N,rf,U,rfl,OP⟩,WM,fB⟩
       have OO:Hid (ag (dU R M) WB w4):=HW3.out.then fB;clear D3;have D4:=C4.out w4 WM)
    | (go_at_call 35;have _g:=D2;refine D2.mono ?_;rintro x w3 ⟨rfl,Z_,jk⟩
       have HW3:Hid (ag (dU R M) WB w3):=HW2.out.then jk;clear D2;have D3:=C3.out w3 Z_)
    | (go_at_call 35;have _g:=D1;refine D1.mono ?_;rintro x w2 ⟨rfl,AZ,kD⟩
       have HW2:Hid (ag (dU R M) WB w2):=HW1.out.then kD;clear D1;have D2:=C2.out w2 AZ)
    | (go_at_call 35;have _g:=D0;refine D0.mono ?_;rintro x w1 ⟨rfl,Ae,yK⟩
       have HW1:Hid (ag (dU R M) WB w1):=HW0.out.then yK;clear D0;have D1:=C1.out w1 Ae)
    | (at_lookup;refine m_ rfl _ _ rfl rfl rfl xP (dO (s:=⟨#[107,101,121]⟩) (by decide)) _ hvz ?_;rw[KC]))
   have F:=jX A (.string (qa j).text) (.string (qm j).text) (.string (qo j).text) (.bool true) (.string (nO j).text) (.int .i64 kC) (.int .i64 iC) (.string tC) (.slice I qZ T) (.slice N rf U) (.slice V (nU j).list.length c4) (.slice X (nV j).list.length c5) (.int .i64 (qp j).int) (.int .i64 (qw j).int) (.string (qx j).text) (.slice Z (aT (nI j)).length Y);have mR:ag (One (w.heap.size+1)) _ _:=jY (KE.setCell ⟨E.heap.size,4,none⟩ (.string (nO j).text)) (w.heap.size+1) (.string (qa j).text) (.string (qm j).text) (.string (qo j).text) (.bool true) (.string (nO j).text) (.int .i64 kC) (.int .i64 iC) (.string tC) (.slice I qZ T) (.slice N rf U) (.slice V (nU j).list.length c4) (.slice X (nV j).list.length c5) (.int .i64 (qp j).int) (.int .i64 (qw j).int) (.string (qx j).text) (.slice Z (aT (nI j)).length Y);obtain⟨WE,l_⟩:∃WE,WE=mq (KE.setCell ⟨E.heap.size,4,none⟩ (.string (nO j).text)) (w.heap.size+1) (.string (qa j).text) (.string (qm j).text) (.string (qo j).text) (.bool true) (.string (nO j).text) (.int .i64 kC) (.int .i64 iC) (.string tC) (.slice I qZ T) (.slice N rf U) (.slice V (nU j).list.length c4) (.slice X (nV j).list.length c5) (.int .i64 (qp j).int) (.int .i64 (qw j).int) (.string (qx j).text) (.slice Z (aT (nI j)).length Y):=⟨_,rfl⟩;rw[<-l_]at F mR;unfold mq at l_;rw[<-l_];clear l_;have k0:=az F 0 _ rfl;have k1:=az F 1 _ rfl;have k2:=az F 2 _ rfl;have k3:=az F 3 _ rfl;have k4:=az F 4 _ rfl;have k5:=az F 5 _ rfl;have k6:=az F 6 _ rfl;have k7:=az F 7 _ rfl;have k8:=az F 8 _ rfl;have k9:=az F 9 _ rfl;have Mh:=az F 10 _ rfl;have WQ:=az F 11 _ rfl;have OC:=az F 12 _ rfl;have WR:=az F 13 _ rfl;have WT:=az F 14 _ rfl;have WU:=az F 15 _ rfl;refine bodyPost_ret (v:=.tuple #[.agg #[.string (qa j).text,.string (qm j).text,.string (qo j).text,.bool true,.string (nO j).text,.int .i64 kC,.int .i64 iC,.string tC,.slice I qZ T,.slice N rf U,.slice V (nU j).list.length c4,.slice X (nV j).list.length c5,.int .i64 (qp j).int,.int .i64 (qw j).int,.string (qx j).text,.slice Z (aT (nI j)).length Y],.bool (((n9:Int)==0))]) (by simp[results,Tryz.results15,go_sem,k0,k1,k2,k3,k4,k5,k6,k7,k8,k9,Mh,WQ,OC,WR,WT,WU]) rfl ?_;have jA:=sQ.out;have Xb:=jA.size;have kX:ag (fun q=>q=R\/ q=M\/ q=w.heap.size+1\/ E.heap.size<=q) E WE:=(((((ag.refl (fun q=>q=R\/ q=M\/ q=w.heap.size+1\/ E.heap.size<=q) E).alloc (.cells #[.string (qa j).text,.string (qm j).text,.string (qo j).text,.bool true,.string ⟨#[]⟩,.int .i64 kC,.int .i64 iC,.string tC,.slice I qZ T,.slice N rf U,.slice V (nU j).list.length c4,.slice X (nV j).list.length c5,.int .i64 (qp j).int,.int .i64 (qw j).int,.string (qx j).text,.slice Z (aT (nI j)).length Y] 29))).then (OQ.mono fun q _ e=>e.elim .inl fun e=>.inr (.inl e))).then (K4.mono fun q _ e=>.inr (.inr (.inr (by unfold One at e;omega))))).then (mR.mono fun q _ e=>.inr (.inr (.inl e)));have Xc:=kX.size;have cN:∀q,WB.heap.size<=q->q<E.heap.size->(O q\/ gH w WE q)/\WE.heap[q]?=E.heap[q]?:=fun q h1 h2=>⟨.inr ⟨by omega,Nat.lt_of_lt_of_le h2 Xc⟩,kX.block q h2 (fun e=>by rcases e with e| e| e| e<;>omega)⟩;have cO:∀q,O q->(O q\/ gH w WE q)/\WE.heap[q]?=w4.heap[q]?:=fun q z=>⟨.inl z,by
    have h0:=hO q z;have h1:=OO.out.block q (by omega) (by unfold dU;omega);have h2:=jA.block q (by omega) (by unfold dU;omega);have h3:=kX.block q (by omega) (fun e=>by rcases e with e| e| e| e<;>omega);exact h3.trans (h2.trans h1.symm)⟩
   have t4:ag (dU R M) w5 E:=nG.then (o_.then (qi.then (OM.then uo)));have t5:ag (dU R M) w6 E:=o_.then (qi.then (OM.then uo));have s4:=OO.out.size;have s5:=Xa.out.size;have s9:=WZ.out.size;refine⟨⟨⟨I,T,N,U,V,c4,X,c5,Z,Y⟩, ?_, ?_⟩, ?_⟩
   ·have f:=bC OP;have KD:n9=(OB j).length:=by have:=congrArg List.length Dl.keys;rw[List.length_map,List.length_map]at this;exact HN9.out.symm.trans this
    unfold fO;rw[vv.out,Dg.out];simp only[fA,iN,bM,vv.out,f.1,f.2.1,f.2.2.1,<-f.2.2.2.1,<-f.2.2.2.2.1,List.length_map];rw[<-KD];have hz:((n9:Int)==0)=decide (n9=0):=by rw[Bool.eq_iff_iff];simp
    rw[hz]
    rfl
   ·refine⟨?_, ?_, ?_, ?_⟩
    ·have f:=bC OP;have e:qC (bM j).content ⟨I,T,N,U,V,c4,X,c5,Z,Y⟩= [.int .i64 kC,.int .i64 iC,.string tC,.slice I qZ T,.slice N rf U]:=by
      simp only[qC,bM,f.1,f.2.1,f.2.2.1,<-f.2.2.2.1,<-f.2.2.2.2.1]
     rw[e];exact OP.carry cO
    ·exact UH.carry fun q z=>⟨(cN q (by have:=z.1;omega) (Nat.lt_of_lt_of_le z.2 t4.size)).1,(cN q (by have:=z.1;omega) (Nat.lt_of_lt_of_le z.2 t4.size)).2.trans (t4.block q z.2 (by unfold dU;have:=z.1;omega))⟩
    ·exact ZB.carry fun q z=>⟨(cN q (by have:=z.1;omega) (Nat.lt_of_lt_of_le z.2 t5.size)).1,(cN q (by have:=z.1;omega) (Nat.lt_of_lt_of_le z.2 t5.size)).2.trans (t5.block q z.2 (by unfold dU;have:=z.1;omega))⟩
    ·exact hq9.carry fun q z=>cN q (by have:=z.1;omega) z.2
   ·refine oo.out.trans ⟨kX.os.trans jA.os,kX.tape.trans jA.tape,kX.output.trans jA.output,Nat.le_trans jA.size Xc,fun q z=> ?_⟩;have h2:=jA.block q (by omega) (by unfold dU;omega);exact(kX.block q (by omega) (fun e=>by rcases e with e| e| e| e<;>omega)).trans h2
open Go.RowKit
theorem Xf{d:Nat}{ks:List ByteArray}{l:List J}(k:ks.length=l.length)(f:ks.all letters=true)(E:ks.Pairwise (· ≠ ·))(j:l.all (goodJ d)=true):goodJ (d+1) (mapOf ks l)=true:=by
 have pk:=nu k;have m:=jg k;unfold mapOf;rw[goodJ];have u:((fT (ks.zip l)).map (·.1)).all letters=true:=by
  rw[List.all_eq_true]at f ⊢;exact fun x c=>f x (pk.mem_iff.1 c)
 have A:noKeyTwice ((fT (ks.zip l)).map (·.1))=true:=gU (pk.symm.pairwise E fun{_ _} h=>h.symm);have z:((fT (ks.zip l)).map (·.2)).all (goodJ d)=true:=by
  rw[List.all_eq_true]at j ⊢;exact fun x c=>j x (m.mem_iff.1 c)
 rw[u,A,z];simp[bare,aH,ByteArray.size]
theorem TJ{ks:List ByteArray}{l:List J}(h:ks.length=l.length)(j:ks.Pairwise (· ≠ ·))(f:∀x∈l,inOrd x=true):inOrd (mapOf ks l)=true:=by
 have c:=jg h;unfold mapOf;rw[inOrd,Bool.and_eq_true,mJ];refine⟨lK _ ?_,fun x d=>f x (c.mem_iff.1 d)⟩;have:((ks.zip l).map (·.1)).Pairwise (· ≠ ·):=by rw[List.map_fst_zip (by omega)];exact j
 exact List.pairwise_map.1 this
theorem zb0{d:Nat}{ks:List ByteArray}{l:List J}(j:ks.length=l.length)(m:ks.all (fun k=>decide (k.size<=1000000000))=true)(h:l.all (szJ d)=true)(A:l.length<=100000):szJ (d+1) (mapOf ks l)=true:=by
 have pk:=nu j;have f:=jg j;unfold mapOf szJ;have u:((fT (ks.zip l)).map (·.1)).all (fun k=>decide (k.size<=1000000000))=true:=by
  rw[List.all_eq_true]at m ⊢;exact fun x c=>m x (pk.mem_iff.1 c)
 have z:((fT (ks.zip l)).map (·.2)).all (szJ d)=true:=by
  rw[List.all_eq_true]at h ⊢;exact fun x c=>h x (f.mem_iff.1 c)
 rw[u,z,pk.length_eq,f.length_eq,decide_eq_true A,decide_eq_true (by omega:ks.length<=100000)]
 rfl
def Fit(d:Nat)(j:J):Prop:=goodJ d j=true/\inOrd j=true/\szJ d j=true
theorem Fit.list{d:Nat}{l:List J}(h:∀x∈l,Fit d x)(f:l.length<=100000):Fit (d+1) (.mk 4 0 aH [] l):=by
 refine⟨?_, ?_, ?_⟩
 ·rw[goodJ];have:l.all (goodJ d)=true:=List.all_eq_true.2 fun x c=>(h x c).1;rw[this];simp[bare,aH,ByteArray.size]
 ·rw[inOrd,Bool.and_eq_true,mJ];exact⟨rfl,fun x c=>(h x c).2.1⟩
 ·unfold szJ;have:l.all (szJ d)=true:=List.all_eq_true.2 fun x c=>(h x c).2.2;rw[this,decide_eq_true f]
  rfl
theorem Fit.map{d:Nat}{ks:List ByteArray}{l:List J}(f:ks.length=l.length)(m:∀k∈ks,letters k=true/\k.size<=1000000000)(u:ks.Pairwise (· ≠ ·))(h:∀x∈l,Fit d x)(z:l.length<=100000):Fit (d+1) (mapOf ks l):=
 ⟨Xf f (List.all_eq_true.2 fun k j=>(m k j).1) u (List.all_eq_true.2 fun x c=>(h x c).1),TJ f u fun x c=>(h x c).2.1,
  zb0 f (List.all_eq_true.2 fun k j=>decide_eq_true (m k j).2) (List.all_eq_true.2 fun x c=>(h x c).2.2) z⟩
theorem KF{t:List Int}{d:Nat}{f:Nat->Res J}(u:∀p j q,Fair t p->f p=.ok j q->Fit d j/\Fair t q):
    ∀(m p:Nat) (dF:List J) (j:J) (q:Nat),Fair t p->(∀x∈dF,Fit d x)->dF.length+m<=100000->listL t f m p dF=.ok j q->Fit (d+1) j/\Fair t q
 | 0,_,_,_,_,_,_,_,h=>by unfold listL at h;cases h
 | m+1,p,dF,j,q,hp,ha,hn,h=>by
  rw[Ch]at h
  cases hv:f (aF t p)with
  | bad e a=>rw[hv]at h;cases h
  | ok v r=>
   rw[hv]at h;obtain⟨E,A⟩:=u _ v r hp.aF hv;have z:=A.aF;have k:∀x∈dF++ [v],Fit d x:=fun x c=>by
    rcases List.mem_append.1 c with c| c
    ·exact ha x c
    ·rw[List.mem_singleton.1 c];exact E
   simp only[Res.bind]at h
   split at h
   ·rename_i YJ
    cases h
    exact⟨Fit.list k (by simp;omega),z.one (by omega)⟩
   ·split at h
    ·exact KF u m _ (dF++ [v]) j q (z.one (by omega)) k (by simp;omega) h
    ·cases h
theorem zab{t:List Int}(f:Bytes t)(m:t.length<=20000){ks:List ByteArray}{p q:Nat}{k:ByteArray}(j:Fair t p)(h:ku t ks p=.ok k q):letters k=true/\k.size<=1000000000/\(∀x∈ks,x≠k)/\Fair t q:=by
 unfold ku at h
 split at h
 ·rename_i hb
  cases hq:quoted t p with
  | bad e a=>rw[hq]at h;cases h
  | ok s r=>
   rw[hq]at h;obtain⟨h1,h2,h3⟩:=uO f j hb hq;simp only[Res.bind]at h
   split at h
   ·cases h
   ·rename_i hany
    cases hm:qz t 58 (aF t r)with
    | bad e a=>rw[hm]at h;cases h
    | ok u r2=>
     rw[hm]at h
     cases h
     refine⟨h1,by omega,fun x d c=>hany ?_,(FQ h2.aF (by omega) hm).aF⟩;exact List.any_eq_true.2 ⟨x,d,decide_eq_true (by rw[c])⟩
 ·cases h
theorem FZ{t:List Int}(A:Bytes t)(u:t.length<=20000){d:Nat}{f:Nat->Res J}(I:∀p j q,Fair t p->f p=.ok j q->Fit d j/\Fair t q):
    ∀(m p:Nat) (ks:List ByteArray) (dF:List J) (j:J) (q:Nat),Fair t p->ks.length=dF.length->(∀k∈ks,letters k=true/\k.size<=1000000000)->ks.Pairwise (· ≠ ·)->(∀x∈dF,Fit d x)->dF.length+m<=100000->pairsL t f m p ks dF=.ok j q->Fit (d+1) j/\Fair t q
 | 0,_,_,_,_,_,_,_,_,_,_,_,h=>by unfold pairsL at h;cases h
 | m+1,p,ks,dF,j,q,hp,cB,hk,hd,ha,hn,h=>by
  rw[Ab]at h
  cases jr:ku t ks (aF t p)with
  | bad e a=>rw[jr]at h;cases h
  | ok k r0=>
   rw[jr]at h;obtain⟨V,T,U,X⟩:=zab A u hp.aF jr;simp only[Res.bind]at h
   cases hv:f r0 with
   | bad e a=>rw[hv]at h;cases h
   | ok v r=>
    rw[hv]at h;obtain⟨S,K⟩:=I _ v r X hv;have F:=K.aF;have H:∀x∈dF++ [v],Fit d x:=fun x c=>by
     rcases List.mem_append.1 c with c| c
     ·exact ha x c
     ·rw[List.mem_singleton.1 c];exact S
    have G:∀x∈ks++ [k],letters x=true/\x.size<=1000000000:=fun x c=>by
     rcases List.mem_append.1 c with c| c
     ·exact hk x c
     ·rw[List.mem_singleton.1 c];exact⟨V,T⟩
    have z:(ks++ [k]).Pairwise (· ≠ ·):=by
     rw[List.pairwise_append];exact⟨hd,List.pairwise_singleton _ _,fun x c y N=>by rw[List.mem_singleton.1 N];exact U x c⟩
    have E:(ks++ [k]).length=(dF++ [v]).length:=by simp;exact cB
    simp only at h
    split at h
    ·cases h
     exact⟨Fit.map E G z H (by simp;omega),F.one (by omega)⟩
    ·split at h
     ·exact FZ A u I m _ (ks++ [k]) (dF++ [v]) j q (F.one (by omega)) E G z H (by simp;omega) h
     ·cases h
theorem QG(d:Nat)(k i:Int):szJ (d+1) (.mk k i aH [] [])=true:=by
 unfold szJ;rw[decide_eq_true (show aH.size<=1000000000 by decide)]
 rfl
theorem QH:∀(l:List Int) (n:Int),0<=n->(∀c∈l,df c=true)->0<=l.foldl (fun n c=>if n<=bI then n*10+(c - 48)else n) n
 | [],n,h,_=>h
 | c::l,n,h,hl=>by
  rw[List.foldl_cons];refine QH l _ ?_ fun x d=>hl x (List.mem_cons_of_mem _ d);have:=hl c (List.mem_cons_self ..);unfold df at this;simp only[Bool.and_eq_true,decide_eq_true_eq]at this
  split
  ·omega
  ·exact h
theorem OU{t:List Int}{p q:Nat}{j:J}(d:Nat)(u:Fair t p)(h:number t p=.ok j q):Fit (d+1) j/\Fair t q:=by
 unfold number at h;have m:Fair t (if ah t p=45 then p+1 else p):=by
  split
  ·exact u.one (by omega)
  ·exact u
 generalize z:(if ah t p=45 then p+1 else p)=s at h m
 split at h
 ·rename_i hdig;simp only at h
  split at h
  ·cases h
  ·rename_i hno
   cases h
   have A:0<=(digits t s).1:=by
    unfold digits
    split
    ·exact Int.le_refl _
    ·refine QH _ 0 (Int.le_refl _) fun c x=> ?_;exact List.all_eq_true.1 List.all_takeWhile c x
   have k:Fair t (digits t s).2:=by
    unfold digits
    split
    ·exact m.one (by omega)
    ·exact m.oD
   have f: -bI<=(if ah t p=45 then -(digits t s).1 else(digits t s).1)/\(if ah t p=45 then -(digits t s).1 else(digits t s).1)<=bI:=by
    unfold bI at hno ⊢
    split<;>omega
   refine⟨⟨?_,rfl,QG d _ _⟩,k⟩;generalize (if ah t p=45 then -(digits t s).1 else(digits t s).1)=n at f;rw[goodJ,if_neg (by decide),if_neg (by decide),if_pos rfl,decide_eq_true f.1,decide_eq_true f.2];simp[bare,aH,ByteArray.size]
 ·cases h
theorem Dp(d:Nat)(k i:Int)(h:k=0/\i=0\/ k=1/\(i=0\/ i=1)):Fit (d+1) (.mk k i aH [] []):=by
 refine⟨?_,rfl,QG d k i⟩;rw[goodJ]
 rcases h with⟨rfl,rfl⟩| ⟨rfl,rfl| rfl⟩<;>simp[bare,aH,ByteArray.size]
theorem F3{t:List Int}(m:Bytes t)(k:t.length<=20000):∀(d p:Nat) (j:J) (q:Nat),Fair t p->value t d p=.ok j q->Fit d j/\Fair t q
 | 0,p,j,q,_,h=>by
  unfold value at h
  split at h<;>cases h
 | d+1,p,j,q,hp,h=>by
  have x:=fun p' z A=>F3 m k d p' z A;unfold value at h
  split at h
  ·split at h
   ·cases hw:word t [110,117,108,108] p with
    | bad e a=>rw[hw]at h;cases h
    | ok u r=>rw[hw]at h;cases h;exact⟨Dp d 0 0 (.inl ⟨rfl,rfl⟩),vI _ _ _ u hp (by intro c f;simp at f;omega) hw⟩
   split at h
   ·cases hw:word t [116,114,117,101] p with
    | bad e a=>rw[hw]at h;cases h
    | ok u r=>rw[hw]at h;cases h;exact⟨Dp d 1 1 (.inr ⟨rfl,.inr rfl⟩),vI _ _ _ u hp (by intro c f;simp at f;omega) hw⟩
   split at h
   ·cases hw:word t [102,97,108,115,101] p with
    | bad e a=>rw[hw]at h;cases h
    | ok u r=>rw[hw]at h;cases h;exact⟨Dp d 1 0 (.inr ⟨rfl,.inl rfl⟩),vI _ _ _ u hp (by intro c f;simp at f;omega) hw⟩
   split at h
   ·rename_i hb
    cases hq:quoted t p with
    | bad e a=>rw[hq]at h;cases h
    | ok s r=>
     rw[hq]at h
     cases h
     obtain⟨h1,h2,h3⟩:=uO m hp hb hq;refine⟨⟨?_,rfl, ?_⟩,h2⟩
     ·rw[goodJ,if_neg (by decide),if_neg (by decide),if_neg (by decide),if_pos rfl,h1];simp[bare]
     ·unfold szJ;rw[decide_eq_true (by omega:(strOfNums s).size<=1000000000)]
      rfl
   split at h
   ·unfold lI at h;have h1:Fair t (aF t (p+1)):=(hp.one (by omega)).aF
    split at h
    ·cases h
     exact⟨Fit.list (by simp) (by simp),h1.one (by omega)⟩
    ·exact KF x _ _ [] j q h1 (by simp) (by simp;omega) h
   split at h
   ·unfold iT at h;have h1:Fair t (aF t (p+1)):=(hp.one (by omega)).aF
    split at h
    ·cases h
     have:=Fit.map (d:=d) (ks:= []) (l:= []) rfl (by simp) List.Pairwise.nil (by simp) (by simp);exact⟨this,h1.one (by omega)⟩
    ·exact FZ m k x _ _ [] [] j q h1 rfl (by simp) List.Pairwise.nil (by simp) (by simp;omega) h
   ·exact OU d hp h
  ·cases h
theorem OV{t:List Int}(c:Bytes t){j:J}{q:Nat}(h:decode t=.ok j q):Fit 12 j:=by
 unfold decode at h
 split at h
 ·cases h
 ·rename_i cB
  split at h
  ·cases h
  ·rename_i hs;unfold whole at h
   cases hv:value t 12 (aF t 0)with
   | bad e a=>rw[hv]at h;cases h
   | ok v r=>
    rw[hv]at h;simp only[Res.bind]at h
    split at h
    ·cases h
    ·cases h
     exact(F3 c (by omega) 12 _ _ _ (EM hs).aF hv).1
theorem zo{w:World}{O:Nat->Prop}{j:J}{k i:Int}{t:ByteArray}{pk pl:Option Addr}{nk ck nl cl:Nat}(hO:∀x,O x->x<w.heap.size)(fI:szJ 12 j=true)
    (hj:isJ O w j [.int .i64 k,.int .i64 i,.string t,.slice pk nk ck,.slice pl nl cl]):
    Calls Tryz.prog 16 #[.agg #[.int .i64 k,.int .i64 i,.string t,.slice pk nk ck,.slice pl nl cl]] w fun x w'=>(∃F I S K T E N G A,x=.returned (.agg #[.int .i64 F,.int .i64 I,.string S,.slice K T E,.slice N G A])/\isJ (fun b=>O b\/ gH w w' b) w' (dX j) [.int .i64 F,.int .i64 I,.string S,.slice K T E,.slice N G A])/\Below w.heap.size w w':=by
 have z:Below w.heap.size w ((w.alloc (.cells #[.int .i64 k,.int .i64 i,.string t,.slice pk nk ck,.slice pl nl cl] 25)).alloc (.cells #[.int .i64 0,.int .i64 0,.string ⟨#[]⟩,.slice none 0 0,.slice none 0 0] 25)):=((Below.refl _ _).alloc (Nat.le_refl _) _).alloc (by simp) _;obtain⟨wB,u⟩:∃wB,wB=((w.alloc (.cells #[.int .i64 k,.int .i64 i,.string t,.slice pk nk ck,.slice pl nl cl] 25)).alloc (.cells #[.int .i64 0,.int .i64 0,.string ⟨#[]⟩,.slice none 0 0,.slice none 0 0] 25)):=⟨_,rfl⟩;have hA:wB.heap[w.heap.size]?=some (.cells #[.int .i64 k,.int .i64 i,.string t,.slice pk nk ck,.slice pl nl cl] 25 (0,0)):=by
  rw[u,Below.heap_alloc _ _ _ (by simp)];exact heap_alloc_new _ _
 have hR:wB.heap[w.heap.size+1]?=some (.cells #[.int .i64 0,.int .i64 0,.string ⟨#[]⟩,.slice none 0 0,.slice none 0 0] 25 (0,0)):=by rw[u];exact ZI _ _
 rw[<-u]at z;have OW:∀x,O x->x<wB.heap.size:=fun x c=>Nat.lt_of_lt_of_le (hO x c) z.size;have Y:=hj.carry (O':=O) (w':=wB) fun x c=>⟨c,z.block x (hO x c)⟩;have H:=Cw OW fI Y;have FM:w.heap.size<wB.heap.size:=(Array.getElem?_eq_some_iff.1 hA).1;have U:w.heap.size+1<wB.heap.size:=(Array.getElem?_eq_some_iff.1 hR).1;have c0:=rX hA
 cases hg:goodJ 12 j with
 | false=>
  have HZ:Hid (dX j=J.zero):=by show _=_;unfold dX;rw[hg];rfl
  rw[hg]at H;rw[u]at H;clear hj Y c0;go_enter Tryz.func16,Tryz.ntmps16;go_wp2_with(go_at_call 40;refine H.mono ?_;rintro x X ⟨rfl,d⟩;rw[<-u]at d;have m:=(d.block _ U).trans hR;obtain⟨i0,i1,i2,i3,i4⟩:=aj m;obtain⟨z0,z1,z2,z3,z4⟩:=aN m);have h5:=aK m (.int .i64 0) (.int .i64 0) (.string ⟨#[]⟩) (.slice none 0 0) (.slice none 0 0);have f:ag (One (w.heap.size+1)) X _:=aI X (w.heap.size+1) (.int .i64 0) (.int .i64 0) (.string ⟨#[]⟩) (.slice none 0 0) (.slice none 0 0);unfold di at h5 f;obtain⟨k0,k1,k2,k3,k4⟩:=aj h5;refine bodyPost_ret (v:=.agg #[.int .i64 0,.int .i64 0,.string ⟨#[]⟩,.slice none 0 0,.slice none 0 0]) (by simp[results,Tryz.results16,go_sem,k0,k1,k2,k3,k4]) rfl ?_;refine⟨⟨_,_,_,_,_,_,_,_,_,rfl, ?_⟩,Ai (ae z d) f⟩;rw[HZ.out];exact uz _ _
 | true=>
  have HZ:Hid (dX j=ord j):=by show _=_;unfold dX;rw[hg];rfl
  have Z:Hid (goodJ 12 j=true):=hg;have HJ:Hid (isJ O wB j [.int .i64 k,.int .i64 i,.string t,.slice pk nk ck,.slice pl nl cl]):=Y;rw[hg]at H;rw[u]at H;clear hj Y hg c0;go_enter Tryz.func16,Tryz.ntmps16;go_wp2_with(first
   | (go_at_call 40;refine H.mono ?_;rintro x X ⟨rfl,d⟩
      rw[<-u]at d;have hA2:=(d.block _ FM).trans hA;obtain⟨c0,c1,c2,c3,c4⟩:=aj hA2;have zb1:=ZG 12 X O j k i t pk pl nk ck nl cl (fun x c=>Nat.lt_of_lt_of_le (OW x c) d.size) Z.out fI (HJ.out.carry fun x c=>⟨c,d.block x (OW x c)⟩))
   | (go_at_call 41;refine zb1.mono ?_;rintro x w4 ⟨F,I,S,K,T,E,N,G,A,rfl,Mf,eQ⟩
      have V:=ae d eQ;have m:=(V.block _ U).trans hR;obtain⟨i0,i1,i2,i3,i4⟩:=aj m;obtain⟨z0,z1,z2,z3,z4⟩:=aN m))
  have h5:=aK m (.int .i64 F) (.int .i64 I) (.string S) (.slice K T E) (.slice N G A);have f:ag (One (w.heap.size+1)) w4 _:=aI w4 (w.heap.size+1) (.int .i64 F) (.int .i64 I) (.string S) (.slice K T E) (.slice N G A);unfold di at h5 f;obtain⟨k0,k1,k2,k3,k4⟩:=aj h5;refine bodyPost_ret (v:=.agg #[.int .i64 F,.int .i64 I,.string S,.slice K T E,.slice N G A]) (by simp[results,Tryz.results16,go_sem,k0,k1,k2,k3,k4]) rfl ?_;refine⟨⟨_,_,_,_,_,_,_,_,_,rfl, ?_⟩,Ai (ae z V) f⟩;rw[HZ.out];refine Mf.carry fun x c=> ?_;have bQ:x<w4.heap.size/\x≠w.heap.size+1:=by
   have s2:=d.size;have s4:=eQ.size
   rcases c with c| c
   ·have:=hO x c;exact⟨by have:=z.size;omega,by omega⟩
   ·have:=c.1;exact⟨c.2,by omega⟩
  have Ut:O x\/ w.heap.size<=x:=by
   rcases c with c| c
   ·exact .inl c
   ·have:=c.1;have:=d.size;have:=z.size;exact .inr (by omega)
  exact⟨Ut.elim .inl fun h=>.inr ⟨h,Nat.lt_of_lt_of_le bQ.1 f.size⟩,f.block x bQ.1 (by unfold One;exact bQ.2)⟩
open Go.RowKit Go.Maps
theorem QI{d:Nat}(c:∀j,goodJ d j=true->szJ d j=true->szJ d (ord j)=true):∀l:List J,l.all (goodJ d)=true->l.all (szJ d)=true->(ordL l).all (szJ d)=true
 | [],_,_=>rfl
 | j::r,hg,hs=>by
  rw[List.all_cons,Bool.and_eq_true]at hg hs;rw[ordL,List.all_cons,c j hg.1 hs.1,QI c r hg.2 hs.2]
  rfl
theorem Ic:∀(d:Nat) (j:J),goodJ d j=true->szJ d j=true->szJ d (ord j)=true
 | 0,j,_,_=>by unfold szJ;rfl
 | d+1,.mk k i t ks l,hg,hs=>by
  obtain⟨F,G,K⟩:=iF hg;unfold szJ at hs;simp only[Bool.and_eq_true,decide_eq_true_eq]at hs;obtain⟨H,I,u,A,E⟩:=hs;have f:=QI (Ic d) l F E
  by_cases h5:k=5
  ·subst h5;have z:ks.length=(ordL l).length:=by rw[dI];exact(G rfl).1
   have h:=nu z;have m:=jg z;rw[ord,if_pos rfl];unfold mapOf szJ;simp only[Bool.and_eq_true,decide_eq_true_eq];refine⟨by decide,by rw[h.length_eq];exact I, ?_,by rw[m.length_eq,dI];exact A, ?_⟩
   ·rw[List.all_eq_true]at u ⊢;exact fun x c=>u x (h.subset c)
   ·rw[List.all_eq_true]at f ⊢;exact fun x c=>f x (m.subset c)
  ·rw[ord,if_neg h5];unfold szJ;simp only[Bool.and_eq_true,decide_eq_true_eq];exact⟨H,by simp,by rfl,by rw[dI];exact A,f⟩
theorem QJ:∀(d:Nat) (j:J),goodJ d j=true->szJ d j=true->szJ (d+1) j=true
 | 0,j,h,_=>by unfold goodJ at h;cases h
 | d+1,.mk k i t ks l,h,hs=>by
  unfold goodJ at h;rw[Bool.and_eq_true]at h;unfold szJ at hs ⊢;simp only[Bool.and_eq_true]at hs ⊢;refine⟨hs.1,hs.2.1,hs.2.2.1,hs.2.2.2.1, ?_⟩;rw[List.all_eq_true];intro x f;have m:=List.all_eq_true.1 hs.2.2.2.2 x f;refine QJ d x ?_ m;have c:=h.1;unfold bare at c;simp only[Bool.and_eq_true,Bool.or_eq_true,decide_eq_true_eq]at c
  rcases c.2 with(c| c)| c
  ·rw[List.eq_nil_of_length_eq_zero c]at f;cases f
  ·subst c;have h2:=h.2;simp only[show(4:Int)=0↔False by decide,show(4:Int)=1↔False by decide,show(4:Int)=2↔False by decide,show(4:Int)=3↔False by decide,if_false,if_true]at h2;exact List.all_eq_true.1 h2 x f
  ·subst c;have h2:=h.2;simp only[show(5:Int)=0↔False by decide,show(5:Int)=1↔False by decide,show(5:Int)=2↔False by decide,show(5:Int)=3↔False by decide,show(5:Int)=4↔False by decide,if_false,if_true,Bool.and_eq_true]at h2;exact List.all_eq_true.1 h2.2 x f
theorem il{d:Nat}{j:J}(h:goodJ (d+1) j=true):j.keys.length<=j.list.length/\j.keys.Pairwise (· ≠ ·)/\(∀x∈j.list,goodJ d x=true)/\(j.kind≠5->j.keys= []):=by
 cases j with
 | mk k i t ks l=>
  unfold goodJ at h;rw[Bool.and_eq_true]at h;have c:=h.1;unfold bare at c;simp only[Bool.and_eq_true,Bool.or_eq_true,decide_eq_true_eq]at c;simp only[J.keys,J.list,J.kind];have m:k≠5->ks= []:=fun u=>by
   rcases c.1.2 with e| e
   ·exact List.eq_nil_of_length_eq_zero e
   ·exact absurd e u
  by_cases h5:k=5
  ·subst h5;have h2:=h.2;simp only[show(5:Int)=0↔False by decide,show(5:Int)=1↔False by decide,show(5:Int)=2↔False by decide,show(5:Int)=3↔False by decide,show(5:Int)=4↔False by decide,if_false,if_true,Bool.and_eq_true,decide_eq_true_eq]at h2;exact⟨by omega,iD h2.1.2.2,List.all_eq_true.1 h2.2,m⟩
  ·rw[m h5];refine⟨by simp,List.Pairwise.nil,fun x f=> ?_,fun _=>rfl⟩
   rcases c.2 with(e| e)| e
   ·rw[List.eq_nil_of_length_eq_zero e]at f;cases f
   ·subst e;have h2:=h.2;simp only[show(4:Int)=0↔False by decide,show(4:Int)=1↔False by decide,show(4:Int)=2↔False by decide,show(4:Int)=3↔False by decide,if_false,if_true]at h2;exact List.all_eq_true.1 h2 x f
   ·exact absurd e h5
theorem iH{d:Nat}{j:J}(h:szJ (d+1) j=true):j.text.size<=1000000000/\j.keys.length<=100000/\(∀x∈j.keys,x.size<=1000000000)/\j.list.length<=100000/\∀x∈j.list,szJ d x=true:=by
 cases j with
 | mk k i t ks l=>
  unfold szJ at h;simp only[Bool.and_eq_true,decide_eq_true_eq]at h;obtain⟨h1,h2,h3,h4,h5⟩:=h;exact⟨h1,h2,fun x c=>of_decide_eq_true (List.all_eq_true.1 h3 x c),h4,fun x c=>List.all_eq_true.1 h5 x c⟩
def zq(d:Nat)(j:J):Prop:=goodJ d j=true/\szJ d j=true
theorem zt(d:Nat):zq (d+1) J.zero:=⟨by unfold J.zero goodJ bare;simp[show aH.size=0 from rfl],by unfold J.zero szJ;rfl⟩
theorem lX{d:Nat}{ps:List (ByteArray×J)}(h:∀x∈ps.map (·.2),zq (d+1) x)(s:ByteArray):zq (d+1) (gz ps s):=by
 unfold gz
 cases e:lookJ ps s with
 | none=>exact zt d
 | some j=>exact h j (BD e)
theorem kM{d:Nat}{ps:List (ByteArray×J)}(h:∀x∈ps.map (·.2),zq (d+1) x)(s:ByteArray):∀x∈(jJ ps s).map (·.2),zq (d+1) x:=fun x c=>h x (((KA ps s).map _).subset c)
theorem TK{d:Nat}{j:J}(h:zq (d+1) j):zl j:=⟨(iH h.2).2.2.2.1,(il h.1).1⟩
theorem rh{j:J}(K:goodJ 12 j=true)(U:szJ 12 j=true):Ee (bM j):=by
 have F:∀x∈(mg j).map (·.2),zq 11 x:=fun x c=>by
  obtain⟨p,N,rfl⟩:=List.mem_map.1 c;have:=(List.of_mem_zip N).2;exact⟨(il K).2.2.1 _ this,(iH U).2.2.2.2 _ this⟩
 have A:=kM F eu;have E:=kM A fE;have u:=kM E bN;have k:=kM u aS;have G:=kM k dL;have T:=kM G dG;have V:=kM T dw;have H:=kM V qQ;have I:=kM H ed;have h:=kM I dV;have f:∀{x:J},zq 11 x->(∀y∈x.list.map J.text,y.size<=1000000000):=fun{x} c y hy=>by
  obtain⟨z,S,rfl⟩:=List.mem_map.1 hy;exact(iH ((iH c.2).2.2.2.2 z S)).1
 have g4:zq 11 (nU j):=lX k dL;have m:zq 11 (nV j):=lX G dG;have d:zq 11 (nI j):=lX I dV;have g3:zq 11 (rG3 j):=lX u aS;refine⟨(iH (lX F eu).2).1,(iH (lX A fE).2).1,(iH (lX E bN).2).1, ?_,(iH (lX H ed).2).1,QJ 11 _ g3.1 g3.2, ?_,f g4, ?_,f m, ?_,fun x c=> ?_⟩
 ·show(if BC j=true then(nO j).text else aH).size<=1000000000
  split
  ·exact(iH (lX h kK).2).1
  ·decide
 ·show((nU j).list.map J.text).length<=100000
  rw[List.length_map];exact(iH g4.2).2.2.2.1
 ·show((nV j).list.map J.text).length<=100000
  rw[List.length_map];exact(iH m.2).2.2.2.1
 ·show(aT (nI j)).length<=100000
  rw[Df (il d.1).1];exact(iH d.2).2.1
 ·have c:x∈(nI j).keys.zip ((nI j).list.map J.text):=c;exact⟨(iH d.2).2.2.1 _ (List.of_mem_zip c).1,f d _ (List.of_mem_zip c).2⟩
theorem Dq{O:Nat->Prop}{w:World}{j:J}{k i:Int}{t:ByteArray}{pk pl:Option Addr}{nk ck nl cl:Nat}(c:∀x,O x->x<w.heap.size)(f:isJ O w j [.int .i64 k,.int .i64 i,.string t,.slice pk nk ck,.slice pl nl cl])(A:goodJ 12 j=true)(E:szJ 12 j=true)(h:j.keys.length<=80000):
    Calls Tryz.prog 15 #[.agg #[.int .i64 k,.int .i64 i,.string t,.slice pk nk ck,.slice pl nl cl]] w fun x w'=>(∃p,x=.returned (.tuple #[fA (bM j) p,.bool (fO j)])/\mY (fun q=>O q\/ gH w w' q) w' (bM j) p)/\Below w.heap.size w w':=by
 have g:=il A;have z:=iH E;have m:∀x∈j.list,zl x:=fun x u=>TK (d:=10) ⟨g.2.2.1 x u,z.2.2.2.2 x u⟩
 cases lM:BC j with
 | false=>
  cases hb:t_ j with
  | true=>exact A_ c f g.1 g.2.1 h z.2.2.2.1 z.2.2.1 m lM hb
  | false=>exact zn c f g.1 g.2.1 h z.2.2.2.1 z.2.2.1 m lM hb
 | true=>
  cases hb:EO j with
  | true=>exact Dm c f g.1 g.2.1 h z.2.2.2.1 z.2.2.1 m lM hb
  | false=>exact Bb c f g.1 g.2.1 h z.2.2.2.1 z.2.2.1 m lM hb
def dz(j:J):Ev×Int:=if fO j=true then(if dR (bM j)=0 then(bM j,0)else(Ev.zero,dR (bM j)))else(Ev.zero,50)
theorem vL{j:J}(c:szJ 12 j=true):zq 12 (dX j):=by
 unfold dX
 split
 ·rename_i h;exact⟨ig 12 j h,Ic 12 j h c⟩
 ·exact zt 11
theorem oq:∀{d:Nat} {j:J},goodJ d j=true->goodJ (d+1) j=true
 | 0,j,h=>by unfold goodJ at h;cases h
 | d+1,.mk k i t ks l,h=>by
  unfold goodJ at h ⊢;rw[Bool.and_eq_true]at h ⊢;refine⟨h.1, ?_⟩;have h2:=h.2;have up:l.all (goodJ d)=true->l.all (goodJ (d+1))=true:=fun f=>List.all_eq_true.2 fun x c=>oq (List.all_eq_true.1 f x c)
  split at h2
  ·rw[if_pos ‹_›]
  ·rw[if_neg ‹_›]
   split at h2
   ·rw[if_pos ‹_›];exact h2
   ·rw[if_neg ‹_›]
    split at h2
    ·rw[if_pos ‹_›];exact h2
    ·rw[if_neg ‹_›]
     split at h2
     ·rw[if_pos ‹_›];exact h2
     ·rw[if_neg ‹_›]
      split at h2
      ·rw[if_pos ‹_›];exact up h2
      ·rw[if_neg ‹_›]
       split at h2
       ·rw[if_pos ‹_›];rw[Bool.and_eq_true]at h2 ⊢;exact⟨h2.1,up h2.2⟩
       ·cases h2
def gJ(e:Ev):Ev:=⟨e.room,e.aU,e.ai,e.st,e.key,ord e.content,e.prev,e.aA,e.depth,e.ts,e.hash,e.sigs⟩
theorem Dr:∀l:List ByteArray,ordL (l.map aR)=l.map aR
 | []=>rfl
 | a::r=>by
  rw[List.map_cons,ordL,Dr r]
  rfl
theorem F4(l:List ByteArray):ord (dH l)=dH l:=by
 show J.mk 4 0 aH [] (ordL (l.map aR))=_
 rw[Dr]
 rfl
theorem n_:∀l:List ByteArray,inOrdL (l.map aR)=true
 | []=>rfl
 | a::r=>by
  rw[List.map_cons,inOrdL,n_ r]
  rfl
theorem OX:∀l:List (ByteArray×ByteArray),riseS l=true->rises (l.map (·.1))=true:=by
 intro l h;have c:=zi l h;clear h
 induction l with
 | nil=>rfl
 | cons a r ih=>
  rw[List.pairwise_cons]at c;rw[List.map_cons];unfold rises;rw[ih c.2,Bool.and_true,List.all_eq_true];intro x d;obtain⟨y,f,rfl⟩:=List.mem_map.1 d;exact c.1 y f
theorem zu(l:List (ByteArray×ByteArray)):(l.map fun s=>aR s.2)=(l.map (·.2)).map aR:=by rw[List.map_map];rfl
theorem yr{l:List (ByteArray×ByteArray)}(h:riseS l=true):inOrd (fH l)=true:=by
 unfold fH inOrd;rw[OX l h,zu,n_]
 rfl
theorem OY{l:List (ByteArray×ByteArray)}(h:riseS l=true)(c:∀x∈l,letters x.1=true/\letters x.2=true):ord (fH l)=fH l:=
 lT 2 _ (Ap (d:=0) c h) (yr h)
theorem F5{e:Ev}(c:riseS e.sigs=true)(d:∀x∈e.sigs,letters x.1=true/\letters x.2=true):ordL ((gW e).map (·.2))=(gW (gJ e)).map (·.2):=by
 have h1:=F4 e.aA;have h2:=F4 e.prev;have h3:=OY c d;obtain⟨room,aU,ai,st,key,content,prev,aA,depth,ts,hash,sigs⟩:=e;simp only at h1 h2 h3
 cases st
 ·show [ord (dH aA),ord content,ord (kg depth),ord (aR hash),ord (dH prev),ord (aR room),ord (aR ai),ord (fH sigs),ord (kg ts),ord (aR aU)]=_
  rw[h1,h2,h3]
  rfl
 ·show [ord (dH aA),ord content,ord (kg depth),ord (aR hash),ord (aR key),ord (dH prev),ord (aR room),ord (aR ai),ord (fH sigs),ord (kg ts),ord (aR aU)]=_
  rw[h1,h2,h3]
  rfl
theorem TL(e:Ev):(gW (gJ e)).map (·.1)=(gW e).map (·.1):=by
 rw[qU,qU]
 rfl
theorem KG(b:Bool):rises (if b=true then [dG,aS,dw,ed,kK,dL,eu,bN,dV,qQ,fE]else [dG,aS,dw,ed,dL,eu,bN,dV,qQ,fE])=true:=by
 cases b<;>kernel_rfl
theorem OZ{e:Ev}(h:riseS e.sigs=true)(c:inOrd e.content=true):inOrd (dW e)=true:=by
 unfold dW inOrd;rw[qU,KG,Bool.true_and];have h1:=n_ e.aA;have h2:=n_ e.prev;have h3:=yr h;obtain⟨room,aU,ai,st,key,content,prev,aA,depth,ts,hash,sigs⟩:=e;simp only at h1 h2 h3 c;have d:inOrd (dH aA)=true:=by unfold dH inOrd;rw[h1];rfl
 have f:inOrd (dH prev)=true:=by unfold dH inOrd;rw[h2];rfl
 cases st
 ·show(inOrd (dH aA)&&(inOrd content&&(inOrd (kg depth)&&(inOrd (aR hash)&&(inOrd (dH prev)&&(inOrd (aR room)&&(inOrd (aR ai)&&(inOrd (fH sigs)&&(inOrd (kg ts)&&(inOrd (aR aU)&&true))))))))))=true
  rw[d,f,h3,c]
  rfl
 ·show(inOrd (dH aA)&&(inOrd content&&(inOrd (kg depth)&&(inOrd (aR hash)&&(inOrd (aR key)&&(inOrd (dH prev)&&(inOrd (aR room)&&(inOrd (aR ai)&&(inOrd (fH sigs)&&(inOrd (kg ts)&&(inOrd (aR aU)&&true)))))))))))=true
  rw[d,f,h3,c]
  rfl
theorem nD{e:Ev}(h:aO e=true):aO (gJ e)=true:=by
 obtain⟨d,f,z,A,u,H,m,c,x⟩:=iG h;have g:=jU z;have E:(ord e.content).kind=5:=by
  obtain⟨room,aU,ai,st,key,⟨k,i,t,ks,l⟩,prev,aA,depth,ts,hash,sigs⟩:=e;obtain rfl:k=5:=g.2
  rfl
 have G:fG (ord e.content)=true:=by
  have:=ig 11 _ g.1;unfold fG;rw[E,decide_eq_true rfl,Bool.true_and];unfold goodJ;simp[this,bare,show aH.size=0 from rfl]
 have j:gu (gJ e)=true:=d;have F:iO (gJ e)=true:=f;unfold aO;rw[j,F]
 show(true&&true&&fG (ord e.content)&&bZ 20 e.prev&&bZ 10 e.aA&&eG e.depth 1099511627776&&eG e.ts bI&&(decide (e.hash.size=0) || iX e.hash)&&dE e.sigs)=true
 rw[G,A,u,H,m,x]
 rcases c with c| c
 ·rw[decide_eq_true c];rfl
 ·rw[c,Bool.or_true];rfl
theorem Xg{e:Ev}(h:aO e=true):ord (dW e)=dW (gJ e):=by
 obtain⟨_,_,_,_,_,f,c⟩:=FV h;have u:=nD h;have d:=jU (iG h).2.2.1;have k:ord (dW e)=ord (dW (gJ e)):=by
  have x:ordL ((gW (gJ e)).map (·.2))=ordL ((gW e).map (·.2)):=by
   have m:=F5 (e:=gJ e) c f;rw[m,F5 c f];have j:ord (ord e.content)=ord e.content:=lT 11 _ (ig 11 _ d.1) (mK 11 _ d.1);unfold gJ;rw[j]
  show mapOf ((gW e).map (·.1)) (ordL ((gW e).map (·.2)))=mapOf ((gW (gJ e)).map (·.1)) (ordL ((gW (gJ e)).map (·.2)))
  rw[x,TL]
 rw[k];exact lT 12 _ (g_ u) (OZ c (mK 11 _ d.1))
theorem og:∀l:List ByteArray,b_ (l.map aR)=false
 | []=>rfl
 | a::r=>by
  have:=og r;unfold b_ at this ⊢;rw[List.map_cons,List.any_cons,this]
  rfl
theorem Au{l:List J}(h:b_ l=false)(n:Nat):b_ (l.take n)=false:=by
 unfold b_ at h ⊢;rw[List.any_eq_false]at h ⊢;intro x c;exact h x (List.mem_of_mem_take c)
theorem Xh(room aU ai key:ByteArray)(content:J)(prev aA:List ByteArray)(depth ts:Int)(hash:ByteArray)(sigs:List (ByteArray×ByteArray)):fO (dW ⟨room,aU,ai,false,key,content,prev,aA,depth,ts,hash,sigs⟩)=(!(((((((((((false || false) || false) || false) || decide (content.kind≠5)) || false || b_ (prev.map aR)) || false || b_ (aA.map aR)) || false) || false) || false) || false || b_ ((sigs.map fun s=>aR s.2).take (sigs.map (·.1)).length)))&&true):=by kernel_rfl
theorem Xi(room aU ai key:ByteArray)(content:J)(prev aA:List ByteArray)(depth ts:Int)(hash:ByteArray)(sigs:List (ByteArray×ByteArray)):fO (dW ⟨room,aU,ai,true,key,content,prev,aA,depth,ts,hash,sigs⟩)=(!((((((((((((false || false) || false) || false) || decide (content.kind≠5)) || false || b_ (prev.map aR)) || false || b_ (aA.map aR)) || false) || false) || false) || false || b_ ((sigs.map fun s=>aR s.2).take (sigs.map (·.1)).length)) || false))&&true):=by kernel_rfl
theorem QK{e:Ev}(c:e.content.kind=5):fO (dW e)=true:=by
 have h1:=og e.prev;have h2:=og e.aA;have h3:=Au (og (e.sigs.map (·.2))) (e.sigs.map (·.1)).length;rw[<-zu]at h3;obtain⟨room,aU,ai,st,key,content,prev,aA,depth,ts,hash,sigs⟩:=e;simp only at h1 h2 h3 c
 cases st
 ·rw[Xh,h1,h2,h3,decide_eq_false (by simp[c])]
  rfl
 ·rw[Xi,h1,h2,h3,decide_eq_false (by simp[c])]
  rfl
theorem TM{e:Ev}(h:aO e=true):dX (ord (dW e))=ord (dW e):=by
 have d:=g_ h;have c:=ig 12 _ d;unfold dX;rw[if_pos c];exact lT 12 _ c (mK 12 _ d)
end Go.Proofs.YtldkblgclochjaaGreatDoor

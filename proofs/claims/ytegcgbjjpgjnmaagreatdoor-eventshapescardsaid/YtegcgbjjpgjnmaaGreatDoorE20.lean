/- A part. -/
import Derived.Test.YtegcgbjjpgjnmaaGreatDoorE19
import Derived.Laws.BitsAllLaws
set_option maxRecDepth 100000
set_option maxHeartbeats 16000000
namespace Go.Proofs.YtegcgbjjpgjnmaaGreatDoor
open Go.RowKit Go.Maps
theorem WS{O:Nat->Prop}{w:World}{j:J}{k i:Int}{t:ByteArray}{pk pl:Option Addr}{nk ck nl cl:Nat}(hO:∀x,O x->x<w.heap.size)(hj:isJ O w j [.int .i64 k,.int .i64 i,.string t,.slice pk nk ck,.slice pl nl cl])(hs:szJ 12 j=true)(hn:(fM j).keys.length<=80000)(hT:kM w)(hr:jP (fM j)=true)(hx:gL (dG (fM j))=0):
    Calls Tryz.prog 17 #[.agg #[.int .i64 k,.int .i64 i,.string t,.slice pk nk ck,.slice pl nl cl]] w fun x w'=>(∃p,x=.returned (.tuple #[ed (iU (fM j)).1 p,.int .i64 (iU (fM j)).2])/\mF (fun q=>O q\/ fB w w' q) w' (iU (fM j)).1 p)/\Below w.heap.size w w':=by
 have hN:=xU hs;have Ot:=xS hN.1 hN.2;have HF:Hid (iU (fM j)=(dG (fM j),0)):=by
  show _=_
  unfold iU;rw[if_pos hr,if_pos hx]
 obtain⟨J1,Vi⟩:∃J1,fM j=J1:=⟨_,rfl⟩;obtain⟨WB,dw⟩:∃WB,WB=(w.alloc (.cells #[.int .i64 k,.int .i64 i,.string t,.slice pk nk ck,.slice pl nl cl] 25)).alloc (.cells #[.string ⟨#[]⟩,.string ⟨#[]⟩,.string ⟨#[]⟩,.bool false,.string ⟨#[]⟩,.int .i64 0,.int .i64 0,.string ⟨#[]⟩,.slice none 0 0,.slice none 0 0,.slice none 0 0,.slice none 0 0,.int .i64 0,.int .i64 0,.string ⟨#[]⟩,.slice none 0 0] 28):=⟨_,rfl⟩;have cK:Below w.heap.size w WB:=by rw[dw];exact((Below.refl _ _).alloc (Nat.le_refl _) _).alloc (by simp) _
 have mo:WB.heap[w.heap.size+1]?=some (.cells #[.string ⟨#[]⟩,.string ⟨#[]⟩,.string ⟨#[]⟩,.bool false,.string ⟨#[]⟩,.int .i64 0,.int .i64 0,.string ⟨#[]⟩,.slice none 0 0,.slice none 0 0,.slice none 0 0,.slice none 0 0,.int .i64 0,.int .i64 0,.string ⟨#[]⟩,.slice none 0 0] 28 (0,0)):=by rw[dw];exact iq _ _
 have zao:w.heap.size+2<=WB.heap.size:=by rw[dw];simp
 have Ka:=ui (w:=WB) (O:=O) (fun x hx=>Nat.lt_of_lt_of_le (hO x hx) cK.size) hs (hj.carry fun x hx=>⟨hx,cK.block x (hO x hx)⟩);rw[Vi]at Ka hN Ot hr hn HF ⊢;rw[Vi]at hx;have HTB:Hid (kM w):=hT;have ll:Hid (Below w.heap.size w WB):=cK;have Uh:Hid (∀W k i t pk nk ck pl nl cl,Below WB.heap.size WB W->isJ (fun b=>O b\/ fB WB W b) W J1 [.int .i64 k,.int .i64 i,.string t,.slice pk nk ck,.slice pl nl cl]->Calls Tryz.prog 34 #[.agg #[.int .i64 k,.int .i64 i,.string t,.slice pk nk ck,.slice pl nl cl]] W fun x w'=>(∃p,x=.returned (.tuple #[ed (dG J1) p,.bool (jP J1)])/\mF (fun q=>(O q\/ fB WB W q)\/ fB W w' q) w' (dG J1) p)/\Below W.heap.size W w'):=fun W k i t pk nk ck pl nl cl hb h=>BA (fun x hx=>hx.elim (fun hx=>Nat.lt_of_lt_of_le (hO x hx) (Nat.le_trans cK.size hb.size)) fun hx=>hx.2) h hN.1 hN.2 hn;have Yf:Hid (∀W p,mF (fun q=>q<W.heap.size) W (dG J1) p->Below w.heap.size w W->Calls Tryz.prog 10 #[ed (dG J1) p] W fun x w'=>x=.returned (.int .i64 (gL (dG J1)))/\Below W.heap.size W w'):=fun W p h hb=>jM _ p W h (fun _ h=>h) Ot (hT.below hb);obtain⟨E1,DD⟩:∃E1,dG J1=E1:=⟨_,rfl⟩;rw[DD]at Uh Yf HF hx;rw[hr]at Uh;have HO:Hid (∀k,O k->k<w.heap.size):=hO;clear hj hs hN Ot hT hO cK Vi DD hr hn;rw[dw]at Ka;have Vj:Hid (WB=(w.alloc (.cells #[.int .i64 k,.int .i64 i,.string t,.slice pk nk ck,.slice pl nl cl] 25)).alloc (.cells #[.string ⟨#[]⟩,.string ⟨#[]⟩,.string ⟨#[]⟩,.bool false,.string ⟨#[]⟩,.int .i64 0,.int .i64 0,.string ⟨#[]⟩,.slice none 0 0,.slice none 0 0,.slice none 0 0,.slice none 0 0,.int .i64 0,.int .i64 0,.string ⟨#[]⟩,.slice none 0 0] 28)):=dw;clear dw;go_enter Tryz.func17,Tryz.ntmps17;go_wp2_with(first
  | (go_at_call 10;refine vR.mono ?_;rintro x w4 ⟨rfl,dN⟩
     have wW:=(dN.block (w.heap.size+1) (by omega)).trans Jc;have Ui:=(dN.block w2.heap.size (by simp)).trans KL;have lc:=pg Ui;have ic:=pg wW;have zc:=aU wW)
  | (go_at_call 34;refine hRd.mono ?_;rintro x w2 ⟨⟨p2,rfl,hI2⟩,bM⟩
     obtain⟨a0,a1,a2,b3,a4,n5,n6,a7,p8,n8,c8,p9,n9,c9,ov,oF,gI,oz,oG,kW,mU,oH,jk,oC,oI,kX,hv⟩:=Bn E1 p2;have HV:Hid (ed E1 p2=.agg #[.string a0,.string a1,.string a2,.bool b3,.string a4,.int .i64 n5,.int .i64 n6,.string a7,.slice p8 n8 c8,.slice p9 n9 c9,.slice ov oF gI,.slice oz oG kW,.int .i64 mU,.int .i64 oH,.string jk,.slice oC oI kX]):=hv;rw[hv];have Ib:=ae ll.out (ae bI bM);have s2:=(ae bI bM).size;have zbQ:=bI.size;have zbR:=bM.size;have hI3:=hI2.carry (O':=fun q=>O q\/ (WB.heap.size<=q/\q<(w2.alloc (.cells #[.string a0,.string a1,.string a2,.bool b3,.string a4,.int .i64 n5,.int .i64 n6,.string a7,.slice p8 n8 c8,.slice p9 n9 c9,.slice ov oF gI,.slice oz oG kW,.int .i64 mU,.int .i64 oH,.string jk,.slice oC oI kX] 28)).heap.size)) (w':=w2.alloc (.cells #[.string a0,.string a1,.string a2,.bool b3,.string a4,.int .i64 n5,.int .i64 n6,.string a7,.slice p8 n8 c8,.slice p9 n9 c9,.slice ov oF gI,.slice oz oG kW,.int .i64 mU,.int .i64 oH,.string jk,.slice oC oI kX] 28)) fun q hq=>by
      have bJ:q<w2.heap.size/\(O q\/ WB.heap.size<=q):=by
       rcases hq with(h| h)| h
       ·exact⟨by have:=HO.out q h;omega,.inl h⟩
       ·exact⟨by have:=h.2;omega,.inr h.1⟩
       ·exact⟨h.2,.inr (by have:=h.1;omega)⟩
      exact⟨bJ.2.elim .inl fun h=>.inr ⟨h,by simp;omega⟩,Below.heap_alloc _ _ _ bJ.1⟩
     have a_:Below w.heap.size w (w2.alloc (.cells #[.string a0,.string a1,.string a2,.bool b3,.string a4,.int .i64 n5,.int .i64 n6,.string a7,.slice p8 n8 c8,.slice p9 n9 c9,.slice ov oF gI,.slice oz oG kW,.int .i64 mU,.int .i64 oH,.string jk,.slice oC oI kX] 28)):=Ib.alloc Ib.size _;have vR:=Yf.out _ _ (hI3.carry fun q hq=>⟨hq.elim (fun h=>by have:=HO.out q h;simp;omega) fun h=>h.2,rfl⟩) a_;have KL:=heap_alloc_new w2 (.cells #[.string a0,.string a1,.string a2,.bool b3,.string a4,.int .i64 n5,.int .i64 n6,.string a7,.slice p8 n8 c8,.slice p9 n9 c9,.slice ov oF gI,.slice oz oG kW,.int .i64 mU,.int .i64 oH,.string jk,.slice oC oI kX] 28);have Jc:=((ae bI bM).alloc (Nat.le_trans (Nat.le_refl _) s2) (.cells #[.string a0,.string a1,.string a2,.bool b3,.string a4,.int .i64 n5,.int .i64 n6,.string a7,.slice p8 n8 c8,.slice p9 n9 c9,.slice ov oF gI,.slice oz oG kW,.int .i64 mU,.int .i64 oH,.string jk,.slice oC oI kX] 28)).block (w.heap.size+1) (by omega) |>.trans mo;have zbS:w.heap.size+2<=(w2.alloc (.cells #[.string a0,.string a1,.string a2,.bool b3,.string a4,.int .i64 n5,.int .i64 n6,.string a7,.slice p8 n8 c8,.slice p9 n9 c9,.slice ov oF gI,.slice oz oG kW,.int .i64 mU,.int .i64 oH,.string jk,.slice oC oI kX] 28)).heap.size:=by simp;omega
     rw[hv]at vR;clear hv
     skip)
  | (go_at_call 32;refine Ka.mono ?_;rintro x w1 ⟨⟨kr,ir,tr,pr,nr,cr,qr,mr,dr,rfl,Jd⟩,bI⟩
     rw[<-Vj.out]at bI;have hRd:=Uh.out w1 kr ir tr pr nr cr qr mr dr bI (by rw[<-Vj.out]at Jd;exact Jd)))
 have iF:=jQ wW (.string a0) (.string a1) (.string a2) (.bool b3) (.string a4) (.int .i64 n5) (.int .i64 n6) (.string a7) (.slice p8 n8 c8) (.slice p9 n9 c9) (.slice ov oF gI) (.slice oz oG kW) (.int .i64 mU) (.int .i64 oH) (.string jk) (.slice oC oI kX);have mD:aj (One (w.heap.size+1)) _ _:=jR w4 (w.heap.size+1) (.string a0) (.string a1) (.string a2) (.bool b3) (.string a4) (.int .i64 n5) (.int .i64 n6) (.string a7) (.slice p8 n8 c8) (.slice p9 n9 c9) (.slice ov oF gI) (.slice oz oG kW) (.int .i64 mU) (.int .i64 oH) (.string jk) (.slice oC oI kX);obtain⟨WE,jr⟩:∃WE,WE=lQ w4 (w.heap.size+1) (.string a0) (.string a1) (.string a2) (.bool b3) (.string a4) (.int .i64 n5) (.int .i64 n6) (.string a7) (.slice p8 n8 c8) (.slice p9 n9 c9) (.slice ov oF gI) (.slice oz oG kW) (.int .i64 mU) (.int .i64 oH) (.string jk) (.slice oC oI kX):=⟨_,rfl⟩;rw[<-jr]at iF mD;unfold lQ at jr;rw[<-jr];clear jr;refine bodyPost_ret (results_cell_tmp rfl _ _ _ rfl (I5 iF)) rfl ?_;have Yg:Below w.heap.size w w4:=ae a_ dN;have zbT:=Yg.size;have Cf:Below w.heap.size w WE:=Yg.trans (mD.below (by omega) fun q hq=>by unfold One;omega);rw[HF.out];refine⟨⟨p2,by rw[HV.out];rfl,hI3.carry fun q hq=> ?_⟩,Cf⟩;have Rb:=dN.size;have hse:=mD.size;have hq3:q<(w2.alloc (.cells #[.string a0,.string a1,.string a2,.bool b3,.string a4,.int .i64 n5,.int .i64 n6,.string a7,.slice p8 n8 c8,.slice p9 n9 c9,.slice ov oF gI,.slice oz oG kW,.int .i64 mU,.int .i64 oH,.string jk,.slice oC oI kX] 28)).heap.size:=by rcases hq with h| h;have:=HO.out q h;simp;omega;exact h.2
 refine⟨?_,(mD.block q (by omega) (by unfold One;rcases hq with h| h;have:=HO.out q h;omega;have:=h.1;omega)).trans (dN.block q hq3)⟩
 rcases hq with h| h
 ·exact .inl h
 ·exact .inr ⟨by have:=h.1;omega,by omega⟩
theorem FH{O:Nat->Prop}{w:World}{j:J}{k i:Int}{t:ByteArray}{pk pl:Option Addr}{nk ck nl cl:Nat}(hO:∀x,O x->x<w.heap.size)(hj:isJ O w j [.int .i64 k,.int .i64 i,.string t,.slice pk nk ck,.slice pl nl cl])(hs:szJ 12 j=true)(hn:(fM j).keys.length<=80000)(hT:kM w):
    Calls Tryz.prog 17 #[.agg #[.int .i64 k,.int .i64 i,.string t,.slice pk nk ck,.slice pl nl cl]] w fun x w'=>(∃p,x=.returned (.tuple #[ed (iU (fM j)).1 p,.int .i64 (iU (fM j)).2])/\mF (fun q=>O q\/ fB w w' q) w' (iU (fM j)).1 p)/\Below w.heap.size w w':=by
 cases hr:jP (fM j)with
 | false=>exact WR hO hj hs hn hT hr
 | true=>
  by_cases hx:gL (dG (fM j))=0
  ·exact WS hO hj hs hn hT hr hx
  ·exact Uj hO hj hs hn hT hr hx
theorem MK{w:World}{p:Option Addr}{c:Nat}{rs:List Int}{j:J}{q0:Nat}(l_:Rd w.heap.size w p c rs)(hn:rs.length<=1000000)(hd:decode rs=.ok j q0)(hb:Bytes rs)(hk:(fM j).keys.length<=80000)(hT:kM w):
    Calls Tryz.prog 21 #[.slice p rs.length c] w fun x w'=>(∃pt,x=.returned (.tuple #[ed (iU (fM j)).1 pt,.int .i64 (iU (fM j)).2])/\mF (fB w w') w' (iU (fM j)).1 pt)/\Below w.heap.size w w':=by
 have uA:=ME hb hd;obtain⟨WB,dw⟩:∃WB,WB=w.alloc (.cells #[.string ⟨#[]⟩,.string ⟨#[]⟩,.string ⟨#[]⟩,.bool false,.string ⟨#[]⟩,.int .i64 0,.int .i64 0,.string ⟨#[]⟩,.slice none 0 0,.slice none 0 0,.slice none 0 0,.slice none 0 0,.int .i64 0,.int .i64 0,.string ⟨#[]⟩,.slice none 0 0] 28):=⟨_,rfl⟩;have cK:Below w.heap.size w WB:=by rw[dw];exact(Below.refl _ _).alloc (Nat.le_refl _) _
 have mo:WB.heap[w.heap.size]?=some (.cells #[.string ⟨#[]⟩,.string ⟨#[]⟩,.string ⟨#[]⟩,.bool false,.string ⟨#[]⟩,.int .i64 0,.int .i64 0,.string ⟨#[]⟩,.slice none 0 0,.slice none 0 0,.slice none 0 0,.slice none 0 0,.int .i64 0,.int .i64 0,.string ⟨#[]⟩,.slice none 0 0] 28 (0,0)):=by rw[dw];exact heap_alloc_new _ _
 have zao:w.heap.size+1<=WB.heap.size:=by rw[dw];simp
 have hrB:Rd WB.heap.size WB p c rs:=⟨l_.1,l_.2.1,fun j hj=>by
  obtain⟨a,e1,e2,e3⟩:=l_.2.2 j hj;exact⟨a,e1,by omega,(World.cell?_of_block (by rw[aY];exact cK.block _ e2)).trans e3⟩⟩
 have hDe:=KZ hrB hn;rw[hd]at hDe;have HFr:Hid (∀W W1 k i t pk nk ck pl nl cl,Below WB.heap.size WB W->Below W.heap.size W W1->isJ (fB WB W) W j [.int .i64 k,.int .i64 i,.string t,.slice pk nk ck,.slice pl nl cl]->Calls Tryz.prog 17 #[.agg #[.int .i64 k,.int .i64 i,.string t,.slice pk nk ck,.slice pl nl cl]] W1 fun x w'=>(∃p,x=.returned (.tuple #[ed (iU (fM j)).1 p,.int .i64 (iU (fM j)).2])/\mF (fun q=>fB WB W q\/ fB W1 w' q) w' (iU (fM j)).1 p)/\Below W1.heap.size W1 w'):=fun W W1 k i t pk nk ck pl nl cl h1 h2 hj=>
  FH (fun x hx=>Nat.lt_of_lt_of_le hx.2 h2.size) (hj.carry fun x hx=>⟨hx,h2.block x hx.2⟩) uA.2.2 hk (hT.below (ae cK (ae h1 h2)))
 obtain⟨F,hF⟩:∃F,iU (fM j)=F:=⟨_,rfl⟩;rw[hF]at HFr ⊢;obtain⟨E1,er⟩:=F;simp only at HFr ⊢;have ll:Hid (Below w.heap.size w WB):=cK;have Vj:Hid (WB=w.alloc (.cells #[.string ⟨#[]⟩,.string ⟨#[]⟩,.string ⟨#[]⟩,.bool false,.string ⟨#[]⟩,.int .i64 0,.int .i64 0,.string ⟨#[]⟩,.slice none 0 0,.slice none 0 0,.slice none 0 0,.slice none 0 0,.int .i64 0,.int .i64 0,.string ⟨#[]⟩,.slice none 0 0] 28)):=dw;rw[dw]at hDe;clear hF hd hb hk hT uA hrB l_ cK dw;go_enter Tryz.func21,Tryz.ntmps21;go_wp2_with(first
  | (go_at_call 17;refine hFr.mono ?_;rintro x w4 ⟨⟨p4,rfl,hI4⟩,dN⟩
     obtain⟨a0,a1,a2,b3,a4,n5,n6,a7,p8,n8,c8,p9,n9,c9,ov,oF,gI,oz,oG,kW,mU,oH,jk,oC,oI,kX,hv⟩:=Bn E1 p4;have HV:Hid (ed E1 p4=.agg #[.string a0,.string a1,.string a2,.bool b3,.string a4,.int .i64 n5,.int .i64 n6,.string a7,.slice p8 n8 c8,.slice p9 n9 c9,.slice ov oF gI,.slice oz oG kW,.int .i64 mU,.int .i64 oH,.string jk,.slice oC oI kX]):=hv;rw[hv];clear hv;have wW:=(dN.block w.heap.size (by simp;omega)).trans ((Below.heap_alloc w1 _ w.heap.size (by omega)).trans ((bI.block w.heap.size (by omega)).trans mo));have ic:=pg wW;have zc:=aU wW)
  | (go_at_call 40;refine hDe.mono ?_;rintro x w1 ⟨⟨k1,i1,t1,pk1,nk1,ck1,pl1,nl1,cl1,rfl,Jd⟩,bI⟩
     rw[<-Vj.out]at bI Jd;have NG:=bI.size;have hFr:=HFr.out w1 (w1.alloc (.cells #[.int .i64 k1,.int .i64 i1,.string t1,.slice pk1 nk1 ck1,.slice pl1 nl1 cl1] 25)) k1 i1 t1 pk1 nk1 ck1 pl1 nl1 cl1 bI ((Below.refl _ _).alloc (Nat.le_refl _) _) Jd))
 have iF:=jQ wW (.string a0) (.string a1) (.string a2) (.bool b3) (.string a4) (.int .i64 n5) (.int .i64 n6) (.string a7) (.slice p8 n8 c8) (.slice p9 n9 c9) (.slice ov oF gI) (.slice oz oG kW) (.int .i64 mU) (.int .i64 oH) (.string jk) (.slice oC oI kX);have mD:aj (One w.heap.size) _ _:=jR w4 w.heap.size (.string a0) (.string a1) (.string a2) (.bool b3) (.string a4) (.int .i64 n5) (.int .i64 n6) (.string a7) (.slice p8 n8 c8) (.slice p9 n9 c9) (.slice ov oF gI) (.slice oz oG kW) (.int .i64 mU) (.int .i64 oH) (.string jk) (.slice oC oI kX);obtain⟨WE,jr⟩:∃WE,WE=lQ w4 w.heap.size (.string a0) (.string a1) (.string a2) (.bool b3) (.string a4) (.int .i64 n5) (.int .i64 n6) (.string a7) (.slice p8 n8 c8) (.slice p9 n9 c9) (.slice ov oF gI) (.slice oz oG kW) (.int .i64 mU) (.int .i64 oH) (.string jk) (.slice oC oI kX):=⟨_,rfl⟩;rw[<-jr]at iF mD;unfold lQ at jr;rw[<-jr];clear jr;refine bodyPost_ret (results_cell_tmp rfl _ _ _ rfl (I5 iF)) rfl ?_;have F5:Below w.heap.size w w4:=ae ll.out (ae bI (ae ((Below.refl _ _).alloc (Nat.le_refl _) _) dN));have Rb:=dN.size;simp at Rb;have hse:=mD.size;have Cf:Below w.heap.size w WE:=F5.trans (mD.below F5.size fun q hq=>by unfold One;omega);refine⟨⟨p4,by rw[HV.out];rfl,hI4.carry fun q hq=> ?_⟩,Cf⟩;have WI:q<w4.heap.size/\WB.heap.size<=q:=by
  rcases hq with h| h
  ·exact⟨by have:=h.2;omega,h.1⟩
  ·exact⟨h.2,by have:=h.1;simp at this;omega⟩
 exact⟨⟨by omega,by omega⟩,mD.block q WI.1 (by unfold One;omega)⟩
theorem dV{fn:Func}{a:Tmp}{t:TypeId}(h:fn.results=#[.cell a t])(tmps:Array Value)(P:Program)(w:World){ad:Addr}{v:Value}(hp:tmps.getD a undef=.pointer (some ad))(hl:(loadVar t ad).run P w=.ok v w):
    (results fn tmps).run P w=.ok v w:=by
 rw[Array.getD_eq_getD_getElem?]at hp;simp[results,h,hp,hl,asAddr]
theorem ML(w:World):Calls Tryz.prog 26 #[] w fun x w'=>x=.returned (ed fZ Pt.zero)/\Below w.heap.size w w':=by
 have iF:=heap_alloc_new w (.cells #[.string fQ,.string fT,.string cZ,.bool false,.string ⟨#[]⟩,.int .i64 5,.int .i64 0,.string ⟨#[]⟩,.slice none 0 0,.slice none 0 0,.slice none 0 0,.slice none 0 0,.int .i64 0,.int .i64 0,.string ⟨#[]⟩,.slice none 0 0] 28);go_enter Tryz.func26,Tryz.ntmps26;go_wp2;refine bodyPost_ret (dV rfl _ _ _ rfl (I5 iF)) rfl ?_;exact⟨rfl,(Below.refl _ _).alloc (Nat.le_refl _) _⟩
open Go.RowKit
theorem wX(a:Nat)(ha:a<18446744073709551616):(BitVec.ofInt 64 (a:Int)).toNat=a:=by
 rw[BitVec.ofInt_natCast,BitVec.toNat_ofNat];exact Nat.mod_eq_of_lt (by omega)
theorem tF(n:Int)(h0:0<=n)(h1:n<9223372036854775808):IntKind.i64.wrap n=n:=by
 simp[IntKind.wrap,IntKind.bits,IntKind.signed];omega
theorem tH(a b:Nat)(ha:a<9223372036854775808)(hb:b<9223372036854775808):bits .and .i64 (a:Int) (b:Int)=((a&&&b:Nat):Int):=by
 have h1:a&&&b<=a:=Nat.and_le_left
 show IntKind.i64.wrap ((BitVec.ofInt 64 (a:Int)&&&BitVec.ofInt 64 (b:Int)).toNat:Int)=_
 rw[BitVec.toNat_and,wX a (by omega),wX b (by omega)];exact tF _ (by omega) (by omega)
theorem MM(a b:Nat)(ha:a<4611686018427387904)(hb:b<4611686018427387904):bits .or .i64 (a:Int) (b:Int)=((a ||| b:Nat):Int):=by
 have h1:a ||| b<2 ^ 62:=Nat.or_lt_two_pow (by omega) (by omega)
 show IntKind.i64.wrap ((BitVec.ofInt 64 (a:Int) ||| BitVec.ofInt 64 (b:Int)).toNat:Int)=_
 rw[BitVec.toNat_or,wX a (by omega),wX b (by omega)];exact tF _ (by omega) (by omega)
theorem zaq(c:Int)(h0:0<=c)(h1:c<=255):bits .and .i64 c 31=c % 32:=by
 obtain⟨n,rfl⟩:=Int.eq_ofNat_of_zero_le h0;have:=tH n 31 (by omega) (by omega);rw[show((31:Nat):Int)=31 from rfl]at this;rw[this,show(31:Nat)=2 ^ 5 - 1 from rfl,Nat.and_two_pow_sub_one_eq_mod];omega
theorem zar(c:Int)(h0:0<=c)(h1:c<=255):bits .and .i64 c 15=c % 16:=by
 obtain⟨n,rfl⟩:=Int.eq_ofNat_of_zero_le h0;have:=tH n 15 (by omega) (by omega);rw[show((15:Nat):Int)=15 from rfl]at this;rw[this,show(15:Nat)=2 ^ 4 - 1 from rfl,Nat.and_two_pow_sub_one_eq_mod];omega
theorem zbU(c:Int)(h0:0<=c)(h1:c<=255):bits .and .i64 c 7=c % 8:=by
 obtain⟨n,rfl⟩:=Int.eq_ofNat_of_zero_le h0;have:=tH n 7 (by omega) (by omega);rw[show((7:Nat):Int)=7 from rfl]at this;rw[this,show(7:Nat)=2 ^ 3 - 1 from rfl,Nat.and_two_pow_sub_one_eq_mod];omega
theorem MN(c:Int)(h0:0<=c)(h1:c<=255):bits .and .u8 c 63=c % 64:=by
 obtain⟨n,rfl⟩:=Int.eq_ofNat_of_zero_le h0;have:=u8_and_nat n 63 (by omega) (by omega);rw[show((63:Nat):Int)=63 from rfl]at this;rw[this,show(63:Nat)=2 ^ 6 - 1 from rfl,Nat.and_two_pow_sub_one_eq_mod];omega
theorem Je:∀n:Fin 256,(n:Nat)&&&192=(n:Nat) / 64*64:=by decide+kernel
theorem FI(c:Int)(h0:0<=c)(h1:c<=255):bits .and .u8 c 192=c / 64*64:=by
 obtain⟨n,rfl⟩:=Int.eq_ofNat_of_zero_le h0;have:=u8_and_nat n 192 (by omega) (by omega);rw[show((192:Nat):Int)=192 from rfl]at this;rw[this];have h:=Je ⟨n,by omega⟩;simp only at h;rw[h];omega
theorem Uk(c x:Int)(h0:0<=c)(h1:c<=1000000)(h2:0<=x)(h3:x<64):bits .or .i64 (c*64) x=c*64+x:=by
 obtain⟨n,rfl⟩:=Int.eq_ofNat_of_zero_le h0;obtain⟨m,rfl⟩:=Int.eq_ofNat_of_zero_le h2;have:=MM (n*64) m (by omega) (by omega);rw[show((n*64:Nat):Int)=(n:Int)*64 by omega]at this;rw[this];have h:=Nat.two_pow_add_eq_or_of_lt (i:=6) (b:=m) (by omega) n;rw[show n*64=2 ^ 6*n by omega,<-h];omega
theorem Jf(s:ByteArray)(p:Nat)(hp:p<s.size):((s[p]'hp).toNat:Int)=ag (ints s) p:=by
 unfold ag;rw[dH s p hp]
theorem qx{b:Int}(h:0<=b/\b<=255):wrap64 b=b:=by
 unfold wrap64;omega
def accU(t:List Int)(p:Nat)(c:Int):Nat->Int
 | 0=>c
 | k+1=>accU t p c k*64+ag t (p+(k+1)) % 64
theorem xV(t:List Int)(p:Nat)(c:Int)(h:0<=c/\c<=31):∀n,n<=3->0<=accU t p c n/\accU t p c n<=32*64 ^ n - 1:=by
 have e1:accU t p c 1=c*64+ag t (p+1) % 64:=rfl;have e2:accU t p c 2=(c*64+ag t (p+1) % 64)*64+ag t (p+2) % 64:=rfl;have e3:accU t p c 3=((c*64+ag t (p+1) % 64)*64+ag t (p+2) % 64)*64+ag t (p+3) % 64:=rfl;intro n hn
 match n,hn with
 | 0,_=>exact⟨h.1,by show c<=_;omega⟩
 | 1,_=>rw[e1];omega
 | 2,_=>rw[e2];omega
 | 3,_=>rw[e3];omega
def eG(t:List Int)(p:Nat)(many:Nat)(least c:Int):Int×Nat:=
 if(∀k,k<many->b_ t (p+(k+1))=true)/\least<=accU t p c many/\dK (accU t p c many)=true then(accU t p c many,many+1)else(0,0)
theorem QE(s:ByteArray)(p:Nat)(w:World)(hp:p<s.size)(b:Int)(hb:ag (ints s) p=b)(h0:0<=b/\b<=255)(sF:b<128):
    Calls Tryz.prog 81 #[.string s,.int .i64 p] w fun x w'=>x=.returned (.tuple #[.int .i64 b,.int .i64 1])/\w=w':=by
 have e0:=Jf s p hp;rw[hb]at e0;have e1:=qx h0;have U0:(p:Int)<s.size:=by omega
 go_enter Tryz.func81,Tryz.ntmps81;go_wp2;go_ret2;exact⟨rfl,rfl⟩
theorem QF(s:ByteArray)(p:Nat)(w:World)(hp:p<s.size)(b:Int)(hb:ag (ints s) p=b)(h0:0<=b/\b<=255)(sF:128<=b)(jm:b<192\/ 248<=b):
    Calls Tryz.prog 81 #[.string s,.int .i64 p] w fun x w'=>x=.returned (.tuple #[.int .i64 0,.int .i64 0])/\w=w':=by
 have e0:=Jf s p hp;rw[hb]at e0;have e1:=qx h0;have U0:(p:Int)<s.size:=by omega
 rcases jm with jm| jm
 ·go_enter Tryz.func81,Tryz.ntmps81;go_wp2;go_ret2;exact⟨rfl,rfl⟩
 ·go_enter Tryz.func81,Tryz.ntmps81;go_wp2;go_ret2;exact⟨rfl,rfl⟩
theorem MO(s:ByteArray)(p:Nat)(w:World)(hp:p<s.size)(hs:s.size<=1000000000)(b:Int)(hb:ag (ints s) p=b)(h0:0<=b/\b<=255)(V4:192<=b)(hhi:b<224):
    Calls Tryz.prog 81 #[.string s,.int .i64 p] w fun x w'=>x=.returned (.tuple #[.int .i64 (eG (ints s) p 1 128 (b % 32)).1,.int .i64 ((eG (ints s) p 1 128 (b % 32)).2:Nat)])/\w=w':=by
 have e0:=Jf s p hp;rw[hb]at e0;have e1:=qx h0;have U0:(p:Int)<s.size:=by omega
 have em:bits .and .i64 b 31=b % 32:=zaq b h0.1 h0.2;have oK:∀i,0<=ag (ints s) i/\ag (ints s) i<=255:=jV s;have HB:Hid (∀i,0<=ag (ints s) i/\ag (ints s) i<=255):=oK;clear oK;obtain⟨c0,Q5⟩:∃c,b % 32=c:=⟨_,rfl⟩;have BV:0<=c0/\c0<=31:=by omega
 rw[Q5]at em ⊢;go_enter Tryz.func81,Tryz.ntmps81;go_wp2
 go_loopw [6,9] (fun c i wr=>∃n:Nat,i=.int .i64 ((n:Int)+1)/\n<=1/\c=.int .i64 (accU (ints s) p c0 n)/\Hid (∀k,k<n->b_ (ints s) (p+(k+1))=true)/\wr=w) (fun c i _=>1+1 - (intOf i).toNat)
 case atStart=>exact⟨0,rfl,by omega,rfl,fun k hk=>absurd hk (by omega),rfl⟩
 case round=>
  obtain⟨n,rfl,hn,rfl,HC,rfl⟩:=hrel;have Cs:=xV (ints s) p c0 BV n (by omega);have BF:0<=accU (ints s) p c0 n/\accU (ints s) p c0 n<=10000000:=by
   refine⟨Cs.1, ?_⟩;have:(64:Int) ^ n<=64 ^ 3:=by
    have:=Nat.pow_le_pow_right (n:=64) (by decide) (show n<=3 by omega)
    exact_mod_cast this
   omega
  obtain⟨A,hA⟩:∃A,accU (ints s) p c0 n=A:=⟨_,rfl⟩;rw[hA]at BF ⊢;have HA:Hid (accU (ints s) p c0 n=A):=hA;clear Cs hA
  by_cases Yh:n<1
  ·have Ul:A<=131071:=by
     have h1:=xV (ints s) p c0 BV n (by omega);rw[HA.out]at h1;have:(64:Int) ^ n<=64 ^ 2:=by
      have:=Nat.pow_le_pow_right (n:=64) (by decide) (show n<=2 by omega)
      exact_mod_cast this
     omega
   have hM1:(n:Int)+1<=1:=by omega
   have Rf:Hid (n<1):=Yh;clear Yh
   by_cases Q4:p+(n+1)<s.size
   ·have Um:(p:Int)+((n:Int)+1)<s.size:=by omega
    have e2:=Jf s (p+(n+1)) Q4;obtain⟨b1,bI⟩:∃b1,ag (ints s) (p+(n+1))=b1:=⟨_,rfl⟩;have rJ:=HB.out (p+(n+1));rw[bI]at e2 rJ;have a1:=FI b1 rJ.1 rJ.2;have a2:=MN b1 rJ.1 rJ.2;have a3:=Uk A (b1 % 64) BF.1 (by omega) (by omega) (by omega)
    by_cases Jg:b1 / 64*64=128
    ·have Ct:Hid (b_ (ints s) (p+(n+1))=true):=by show _=_;unfold b_;rw[bI];exact decide_eq_true (by omega)
     go_wp2;go_roundw
     case rel=>
      refine⟨n+1,by go_num,by omega, ?_,fun k hk=> ?_,trivial⟩
      ·rw[accU,HA.out,bI]
      ·rcases Nat.lt_or_ge k n with h| h
       ·exact HC.out k h
       ·obtain rfl:k=n:=by omega
        exact Ct.out
     case measure=>simp[intOf];omega
    ·have HR:Hid (eG (ints s) p 1 128 c0=(0,0)):=by
       show _=_
       unfold eG;refine if_neg fun h=> ?_;have:=h.1 n Rf.out;unfold b_ at this;rw[bI]at this;have:=of_decide_eq_true this;omega
     have B_:(b1 / 64*64 !=128)=true:=by simp[Jg]
     go_wp2;go_ret2;rw[HR.out];exact⟨rfl,rfl⟩
   ·have Um:¬((p:Int)+((n:Int)+1)<s.size):=by omega
    have HR:Hid (eG (ints s) p 1 128 c0=(0,0)):=by
     show _=_
     unfold eG;refine if_neg fun h=> ?_;have h1:=h.1 n Rf.out;have h2:ag (ints s) (p+(n+1))=0:=lS s (p+(n+1)) (by omega);unfold b_ at h1;rw[h2]at h1;exact absurd (of_decide_eq_true h1) (by decide)
    go_wp2;go_ret2;rw[HR.out];exact⟨rfl,rfl⟩
  ·obtain rfl:n=1:=by omega
   have JW:=lW A BF.1
   by_cases hl:128<=A
   ·cases oN:dK A with
    | true=>
     have HR:Hid (eG (ints s) p 1 128 c0=(A,1+1)):=by
      show _=_
      unfold eG;rw[HA.out,if_pos ⟨HC.out,hl,oN⟩]
     rw[oN]at JW;go_wp2_with(go_at_call 117;refine(JW _).mono ?_;rintro x w' ⟨rfl,rfl⟩);go_ret2;rw[HR.out];exact⟨rfl,rfl⟩
    | false=>
     have HR:Hid (eG (ints s) p 1 128 c0=(0,0)):=by
      show _=_
      unfold eG;rw[HA.out,if_neg (fun h=>by rw[oN]at h;cases h.2.2)]
     rw[oN]at JW;go_wp2_with(go_at_call 117;refine(JW _).mono ?_;rintro x w' ⟨rfl,rfl⟩);go_ret2;rw[HR.out];exact⟨rfl,rfl⟩
   ·have HR:Hid (eG (ints s) p 1 128 c0=(0,0)):=by
      show _=_
      unfold eG;rw[HA.out,if_neg (fun h=>hl h.2.1)]
    go_wp2;go_ret2;rw[HR.out];exact⟨rfl,rfl⟩
theorem MP(s:ByteArray)(p:Nat)(w:World)(hp:p<s.size)(hs:s.size<=1000000000)(b:Int)(hb:ag (ints s) p=b)(h0:0<=b/\b<=255)(V4:224<=b)(hhi:b<240):
    Calls Tryz.prog 81 #[.string s,.int .i64 p] w fun x w'=>x=.returned (.tuple #[.int .i64 (eG (ints s) p 2 2048 (b % 16)).1,.int .i64 ((eG (ints s) p 2 2048 (b % 16)).2:Nat)])/\w=w':=by
 have e0:=Jf s p hp;rw[hb]at e0;have e1:=qx h0;have U0:(p:Int)<s.size:=by omega
 have em:bits .and .i64 b 15=b % 16:=zar b h0.1 h0.2;have oK:∀i,0<=ag (ints s) i/\ag (ints s) i<=255:=jV s;have HB:Hid (∀i,0<=ag (ints s) i/\ag (ints s) i<=255):=oK;clear oK;obtain⟨c0,Q5⟩:∃c,b % 16=c:=⟨_,rfl⟩;have BV:0<=c0/\c0<=31:=by omega
 rw[Q5]at em ⊢;go_enter Tryz.func81,Tryz.ntmps81;go_wp2
 go_loopw [6,9] (fun c i wr=>∃n:Nat,i=.int .i64 ((n:Int)+1)/\n<=2/\c=.int .i64 (accU (ints s) p c0 n)/\Hid (∀k,k<n->b_ (ints s) (p+(k+1))=true)/\wr=w) (fun c i _=>2+1 - (intOf i).toNat)
 case atStart=>exact⟨0,rfl,by omega,rfl,fun k hk=>absurd hk (by omega),rfl⟩
 case round=>
  obtain⟨n,rfl,hn,rfl,HC,rfl⟩:=hrel;have Cs:=xV (ints s) p c0 BV n (by omega);have BF:0<=accU (ints s) p c0 n/\accU (ints s) p c0 n<=10000000:=by
   refine⟨Cs.1, ?_⟩;have:(64:Int) ^ n<=64 ^ 3:=by
    have:=Nat.pow_le_pow_right (n:=64) (by decide) (show n<=3 by omega)
    exact_mod_cast this
   omega
  obtain⟨A,hA⟩:∃A,accU (ints s) p c0 n=A:=⟨_,rfl⟩;rw[hA]at BF ⊢;have HA:Hid (accU (ints s) p c0 n=A):=hA;clear Cs hA
  by_cases Yh:n<2
  ·have Ul:A<=131071:=by
     have h1:=xV (ints s) p c0 BV n (by omega);rw[HA.out]at h1;have:(64:Int) ^ n<=64 ^ 2:=by
      have:=Nat.pow_le_pow_right (n:=64) (by decide) (show n<=2 by omega)
      exact_mod_cast this
     omega
   have hM1:(n:Int)+1<=2:=by omega
   have Rf:Hid (n<2):=Yh;clear Yh
   by_cases Q4:p+(n+1)<s.size
   ·have Um:(p:Int)+((n:Int)+1)<s.size:=by omega
    have e2:=Jf s (p+(n+1)) Q4;obtain⟨b1,bI⟩:∃b1,ag (ints s) (p+(n+1))=b1:=⟨_,rfl⟩;have rJ:=HB.out (p+(n+1));rw[bI]at e2 rJ;have a1:=FI b1 rJ.1 rJ.2;have a2:=MN b1 rJ.1 rJ.2;have a3:=Uk A (b1 % 64) BF.1 (by omega) (by omega) (by omega)
    by_cases Jg:b1 / 64*64=128
    ·have Ct:Hid (b_ (ints s) (p+(n+1))=true):=by show _=_;unfold b_;rw[bI];exact decide_eq_true (by omega)
     go_wp2;go_roundw
     case rel=>
      refine⟨n+1,by go_num,by omega, ?_,fun k hk=> ?_,trivial⟩
      ·rw[accU,HA.out,bI]
      ·rcases Nat.lt_or_ge k n with h| h
       ·exact HC.out k h
       ·obtain rfl:k=n:=by omega
        exact Ct.out
     case measure=>simp[intOf];omega
    ·have HR:Hid (eG (ints s) p 2 2048 c0=(0,0)):=by
       show _=_
       unfold eG;refine if_neg fun h=> ?_;have:=h.1 n Rf.out;unfold b_ at this;rw[bI]at this;have:=of_decide_eq_true this;omega
     have B_:(b1 / 64*64 !=128)=true:=by simp[Jg]
     go_wp2;go_ret2;rw[HR.out];exact⟨rfl,rfl⟩
   ·have Um:¬((p:Int)+((n:Int)+1)<s.size):=by omega
    have HR:Hid (eG (ints s) p 2 2048 c0=(0,0)):=by
     show _=_
     unfold eG;refine if_neg fun h=> ?_;have h1:=h.1 n Rf.out;have h2:ag (ints s) (p+(n+1))=0:=lS s (p+(n+1)) (by omega);unfold b_ at h1;rw[h2]at h1;exact absurd (of_decide_eq_true h1) (by decide)
    go_wp2;go_ret2;rw[HR.out];exact⟨rfl,rfl⟩
  ·obtain rfl:n=2:=by omega
   have JW:=lW A BF.1
   by_cases hl:2048<=A
   ·cases oN:dK A with
    | true=>
     have HR:Hid (eG (ints s) p 2 2048 c0=(A,2+1)):=by
      show _=_
      unfold eG;rw[HA.out,if_pos ⟨HC.out,hl,oN⟩]
     rw[oN]at JW;go_wp2_with(go_at_call 117;refine(JW _).mono ?_;rintro x w' ⟨rfl,rfl⟩);go_ret2;rw[HR.out];exact⟨rfl,rfl⟩
    | false=>
     have HR:Hid (eG (ints s) p 2 2048 c0=(0,0)):=by
      show _=_
      unfold eG;rw[HA.out,if_neg (fun h=>by rw[oN]at h;cases h.2.2)]
     rw[oN]at JW;go_wp2_with(go_at_call 117;refine(JW _).mono ?_;rintro x w' ⟨rfl,rfl⟩);go_ret2;rw[HR.out];exact⟨rfl,rfl⟩
   ·have HR:Hid (eG (ints s) p 2 2048 c0=(0,0)):=by
      show _=_
      unfold eG;rw[HA.out,if_neg (fun h=>hl h.2.1)]
    go_wp2;go_ret2;rw[HR.out];exact⟨rfl,rfl⟩
theorem MQ(s:ByteArray)(p:Nat)(w:World)(hp:p<s.size)(hs:s.size<=1000000000)(b:Int)(hb:ag (ints s) p=b)(h0:0<=b/\b<=255)(V4:240<=b)(hhi:b<248):
    Calls Tryz.prog 81 #[.string s,.int .i64 p] w fun x w'=>x=.returned (.tuple #[.int .i64 (eG (ints s) p 3 65536 (b % 8)).1,.int .i64 ((eG (ints s) p 3 65536 (b % 8)).2:Nat)])/\w=w':=by
 have e0:=Jf s p hp;rw[hb]at e0;have e1:=qx h0;have U0:(p:Int)<s.size:=by omega
 have em:bits .and .i64 b 7=b % 8:=zbU b h0.1 h0.2;have oK:∀i,0<=ag (ints s) i/\ag (ints s) i<=255:=jV s;have HB:Hid (∀i,0<=ag (ints s) i/\ag (ints s) i<=255):=oK;clear oK;obtain⟨c0,Q5⟩:∃c,b % 8=c:=⟨_,rfl⟩;have BV:0<=c0/\c0<=31:=by omega
 rw[Q5]at em ⊢;go_enter Tryz.func81,Tryz.ntmps81;go_wp2
 go_loopw [6,9] (fun c i wr=>∃n:Nat,i=.int .i64 ((n:Int)+1)/\n<=3/\c=.int .i64 (accU (ints s) p c0 n)/\Hid (∀k,k<n->b_ (ints s) (p+(k+1))=true)/\wr=w) (fun c i _=>3+1 - (intOf i).toNat)
 case atStart=>exact⟨0,rfl,by omega,rfl,fun k hk=>absurd hk (by omega),rfl⟩
 case round=>
  obtain⟨n,rfl,hn,rfl,HC,rfl⟩:=hrel;have Cs:=xV (ints s) p c0 BV n (by omega);have BF:0<=accU (ints s) p c0 n/\accU (ints s) p c0 n<=10000000:=by
   refine⟨Cs.1, ?_⟩;have:(64:Int) ^ n<=64 ^ 3:=by
    have:=Nat.pow_le_pow_right (n:=64) (by decide) (show n<=3 by omega)
    exact_mod_cast this
   omega
  obtain⟨A,hA⟩:∃A,accU (ints s) p c0 n=A:=⟨_,rfl⟩;rw[hA]at BF ⊢;have HA:Hid (accU (ints s) p c0 n=A):=hA;clear Cs hA
  by_cases Yh:n<3
  ·have Ul:A<=131071:=by
     have h1:=xV (ints s) p c0 BV n (by omega);rw[HA.out]at h1;have:(64:Int) ^ n<=64 ^ 2:=by
      have:=Nat.pow_le_pow_right (n:=64) (by decide) (show n<=2 by omega)
      exact_mod_cast this
     omega
   have hM1:(n:Int)+1<=3:=by omega
   have Rf:Hid (n<3):=Yh;clear Yh
   by_cases Q4:p+(n+1)<s.size
   ·have Um:(p:Int)+((n:Int)+1)<s.size:=by omega
    have e2:=Jf s (p+(n+1)) Q4;obtain⟨b1,bI⟩:∃b1,ag (ints s) (p+(n+1))=b1:=⟨_,rfl⟩;have rJ:=HB.out (p+(n+1));rw[bI]at e2 rJ;have a1:=FI b1 rJ.1 rJ.2;have a2:=MN b1 rJ.1 rJ.2;have a3:=Uk A (b1 % 64) BF.1 (by omega) (by omega) (by omega)
    by_cases Jg:b1 / 64*64=128
    ·have Ct:Hid (b_ (ints s) (p+(n+1))=true):=by show _=_;unfold b_;rw[bI];exact decide_eq_true (by omega)
     go_wp2;go_roundw
     case rel=>
      refine⟨n+1,by go_num,by omega, ?_,fun k hk=> ?_,trivial⟩
      ·rw[accU,HA.out,bI]
      ·rcases Nat.lt_or_ge k n with h| h
       ·exact HC.out k h
       ·obtain rfl:k=n:=by omega
        exact Ct.out
     case measure=>simp[intOf];omega
    ·have HR:Hid (eG (ints s) p 3 65536 c0=(0,0)):=by
       show _=_
       unfold eG;refine if_neg fun h=> ?_;have:=h.1 n Rf.out;unfold b_ at this;rw[bI]at this;have:=of_decide_eq_true this;omega
     have B_:(b1 / 64*64 !=128)=true:=by simp[Jg]
     go_wp2;go_ret2;rw[HR.out];exact⟨rfl,rfl⟩
   ·have Um:¬((p:Int)+((n:Int)+1)<s.size):=by omega
    have HR:Hid (eG (ints s) p 3 65536 c0=(0,0)):=by
     show _=_
     unfold eG;refine if_neg fun h=> ?_;have h1:=h.1 n Rf.out;have h2:ag (ints s) (p+(n+1))=0:=lS s (p+(n+1)) (by omega);unfold b_ at h1;rw[h2]at h1;exact absurd (of_decide_eq_true h1) (by decide)
    go_wp2;go_ret2;rw[HR.out];exact⟨rfl,rfl⟩
  ·obtain rfl:n=3:=by omega
   have JW:=lW A BF.1
   by_cases hl:65536<=A
   ·cases oN:dK A with
    | true=>
     have HR:Hid (eG (ints s) p 3 65536 c0=(A,3+1)):=by
      show _=_
      unfold eG;rw[HA.out,if_pos ⟨HC.out,hl,oN⟩]
     rw[oN]at JW;go_wp2_with(go_at_call 117;refine(JW _).mono ?_;rintro x w' ⟨rfl,rfl⟩);go_ret2;rw[HR.out];exact⟨rfl,rfl⟩
    | false=>
     have HR:Hid (eG (ints s) p 3 65536 c0=(0,0)):=by
      show _=_
      unfold eG;rw[HA.out,if_neg (fun h=>by rw[oN]at h;cases h.2.2)]
     rw[oN]at JW;go_wp2_with(go_at_call 117;refine(JW _).mono ?_;rintro x w' ⟨rfl,rfl⟩);go_ret2;rw[HR.out];exact⟨rfl,rfl⟩
   ·have HR:Hid (eG (ints s) p 3 65536 c0=(0,0)):=by
      show _=_
      unfold eG;rw[HA.out,if_neg (fun h=>hl h.2.1)]
    go_wp2;go_ret2;rw[HR.out];exact⟨rfl,rfl⟩
theorem WT{t:List Int}{p:Nat}(hb:∀i,0<=ag t i/\ag t i<=255)(h1:192<=ag t p)(h2:ag t p<224):bL t p=eG t p 1 128 (ag t p % 32):=by
 have e1:accU t p (ag t p % 32) 1=ag t p % 32*64+ag t (p+1) % 64:=rfl;have q1:=hb (p+1);unfold bL eG;rw[e1,if_neg (by omega)]
 by_cases c1:b_ t (p+1)=true
 ·rw[if_pos (by rw[c1,decide_eq_true (show ag t p / 32=6 by omega)];rfl)]
  split
  ·rename_i hl;have oN:dK (ag t p % 32*64+ag t (p+1) % 64)=true:=by
    unfold dK;simp only[Bool.and_eq_true,Bool.or_eq_true,decide_eq_true_eq];omega
   rw[if_pos ⟨fun k hk=>(by obtain rfl:k=0:=(by omega);exact c1),hl,oN⟩]
  ·rename_i hl;rw[if_neg fun h=>hl h.2.1]
 ·rw[if_neg (fun h=>c1 (Bool.and_eq_true _ _ ▸ h:_/\_).2),decide_eq_false (show¬ag t p / 16=14 by omega),decide_eq_false (show¬ag t p / 8=30 by omega)];rw[if_neg (by simp),if_neg (by simp),if_neg fun h=>c1 (h.1 0 (by omega))]
theorem WU{t:List Int}{p:Nat}(h1:224<=ag t p)(h2:ag t p<240):bL t p=eG t p 2 2048 (ag t p % 16):=by
 have e1:accU t p (ag t p % 16) 2=ag t p % 16*4096+ag t (p+1) % 64*64+ag t (p+2) % 64:=by
  show(ag t p % 16*64+ag t (p+1) % 64)*64+ag t (p+2) % 64=_
  omega
 unfold bL eG;rw[e1,if_neg (by omega),decide_eq_false (show¬ag t p / 32=6 by omega),decide_eq_true (show ag t p / 16=14 by omega),decide_eq_false (show¬ag t p / 8=30 by omega),if_neg (by simp)];generalize ag t p % 16*4096+ag t (p+1) % 64*64+ag t (p+2) % 64=A
 by_cases c1:b_ t (p+1)=true/\b_ t (p+2)=true
 ·rw[if_pos (by rw[c1.1,c1.2];rfl)]
  by_cases hl:2048<=A/\dK A=true
  ·rw[if_pos (by rw[hl.2,decide_eq_true hl.1];rfl),if_pos ⟨fun k hk=>by
     match k,hk with
     | 0,_=>exact c1.1
     | 1,_=>exact c1.2,hl.1,hl.2⟩]
  ·rw[if_neg (fun h=>hl (by simpa using h)),if_neg fun h=>hl h.2]
 ·rw[if_neg (fun h=>c1 (by simpa using h)),if_neg (by simp),if_neg fun h=>c1 ⟨h.1 0 (by omega),h.1 1 (by omega)⟩]
theorem WW{t:List Int}{p:Nat}(h1:240<=ag t p)(h2:ag t p<248):bL t p=eG t p 3 65536 (ag t p % 8):=by
 have e1:accU t p (ag t p % 8) 3=ag t p % 8*262144+ag t (p+1) % 64*4096+ag t (p+2) % 64*64+ag t (p+3) % 64:=by
  show((ag t p % 8*64+ag t (p+1) % 64)*64+ag t (p+2) % 64)*64+ag t (p+3) % 64=_
  omega
 unfold bL eG;rw[e1,if_neg (by omega),decide_eq_false (show¬ag t p / 32=6 by omega),decide_eq_false (show¬ag t p / 16=14 by omega),decide_eq_true (show ag t p / 8=30 by omega),if_neg (by simp),if_neg (by simp)];generalize ag t p % 8*262144+ag t (p+1) % 64*4096+ag t (p+2) % 64*64+ag t (p+3) % 64=A
 by_cases c1:b_ t (p+1)=true/\b_ t (p+2)=true/\b_ t (p+3)=true
 ·rw[if_pos (by rw[c1.1,c1.2.1,c1.2.2];rfl)]
  by_cases hl:65536<=A/\dK A=true
  ·rw[if_pos (by rw[hl.2,decide_eq_true hl.1];rfl),if_pos ⟨fun k hk=>by
     match k,hk with
     | 0,_=>exact c1.1
     | 1,_=>exact c1.2.1
     | 2,_=>exact c1.2.2,hl.1,hl.2⟩]
  ·rw[if_neg (fun h=>hl (by simpa using h)),if_neg fun h=>hl h.2]
 ·rw[if_neg (fun h=>c1 (by simp at h;exact⟨h.1.1,h.1.2,h.2⟩)),if_neg fun h=>c1 ⟨h.1 0 (by omega),h.1 1 (by omega),h.1 2 (by omega)⟩]
theorem QG{t:List Int}{p:Nat}(h1:128<=ag t p)(h2:ag t p<192\/ 248<=ag t p):bL t p=(0,0):=by
 unfold bL;rw[if_neg (by omega),decide_eq_false (show¬ag t p / 32=6 by omega),decide_eq_false (show¬ag t p / 16=14 by omega),decide_eq_false (show¬ag t p / 8=30 by omega),if_neg (by simp),if_neg (by simp),if_neg (by simp)]
theorem Un:Runes:=fun s p w hp hs=>by
 have oK:=jV s;have h0:=oK p
 by_cases c1:ag (ints s) p<128
 ·have e:bL (ints s) p=(ag (ints s) p,1):=by unfold bL;rw[if_pos c1]
  rw[e];exact QE s p w hp _ rfl h0 c1
 by_cases c2:ag (ints s) p<192\/ 248<=ag (ints s) p
 ·rw[QG (by omega) c2];exact QF s p w hp _ rfl h0 (by omega) c2
 by_cases c3:ag (ints s) p<224
 ·rw[WT oK (by omega) c3];exact MO s p w hp hs _ rfl h0 (by omega) c3
 by_cases c4:ag (ints s) p<240
 ·rw[WU (by omega) c4];exact MP s p w hp hs _ rfl h0 (by omega) c4
 ·rw[WW (by omega) (by omega)];exact MQ s p w hp hs _ rfl h0 (by omega) (by omega)
theorem Uo{ks:List ByteArray}(h1:∀m,m<ks.length->letters (aN ks m)=true)(h2:∀b,b<ks.length->∀a,a<b->aN ks a≠aN ks b):gX ks=true:=by
 unfold gX;rw[Bool.and_eq_true]
 constructor
 ·rw[List.all_eq_true];intro x hx;obtain⟨n,hn,rfl⟩:=List.getElem_of_mem hx;rw[<-fw hn];exact h1 n hn
 ·apply gB
  rw[List.pairwise_iff_getElem];intro a b ha hb Cs;rw[<-fw ha,<-fw hb];exact h2 b hb a Cs
theorem MR{ks:List ByteArray}{m:Nat}(hm:m<ks.length)(h:letters (aN ks m)=false):gX ks=false:=by
 cases hg:gX ks with
 | false=>rfl
 | true=>
  unfold gX at hg;rw[Bool.and_eq_true,List.all_eq_true]at hg;rw[fw hm,hg.1 _ (List.getElem_mem hm)]at h
  cases h
theorem MS{ks:List ByteArray}{a b:Nat}(hb:b<ks.length)(Cs:a<b)(h:aN ks b=aN ks a):gX ks=false:=by
 cases hg:gX ks with
 | false=>rfl
 | true=>
  unfold gX at hg;rw[Bool.and_eq_true]at hg;have hp:=List.pairwise_iff_getElem.1 (gW hg.2) a b (by omega) hb Cs;rw[<-fw (by omega),<-fw hb]at hp;exact absurd h.symm hp
theorem jl{s:ByteArray}:(letters s=true->DW (gU (ints s))= -1)/\(letters s=false->∃p:Nat,DW (gU (ints s))=p):=by
 unfold letters
 cases gU (ints s)with
 | none=>exact⟨fun _=>rfl,fun h=>(by cases h)⟩
 | some p=>exact⟨fun h=>(by cases h),fun _=>⟨p,rfl⟩⟩
theorem QH{O:Nat->Prop}{ks:List ByteArray}{p:Option Addr}{c:Nat}{w:World}(l_:jT O w p c ks)(hO:∀k,O k->k<w.heap.size)(hl:ks.length<=100000)(CB:∀k∈ks,k.size<=1000000000):
    Calls Tryz.prog 132 #[.slice p ks.length c] w fun x w'=>x=.returned (.bool (gX ks))/\Below w.heap.size w w':=by
 obtain⟨n,hn⟩:∃n,ks.length=n:=⟨_,rfl⟩;have HN:Hid (ks.length=n):=hn;have VC:=l_.1;rw[hn]at hl VC ⊢;clear hn;go_enter Tryz.func132,Tryz.ntmps132;go_wp2
 go_loopw [3] (fun v wr=>∃m:Nat,v=.int .i64 m/\m<=n/\Hid ((∀x,x<m->letters (aN ks x)=true)/\∀b,b<m->∀a,a<b->aN ks a≠aN ks b)/\Below w.heap.size w wr) (fun v _=>n - (intOf v).toNat)
 case atStart=>exact⟨0,rfl,Nat.zero_le _,⟨fun x hx=>absurd hx (by omega),fun x hx=>absurd hx (by omega)⟩,Below.refl _ _⟩
 case round=>
  obtain⟨m,rfl,hm,HI,iB⟩:=hrel
  by_cases Jh:m<n
  ·have oL:(m:Int)<(n:Int):=by omega
   have sD:m<ks.length:=by rw[HN.out];exact Jh
   have HMK:Hid (m<ks.length):=sD;obtain⟨ka,Cy,uC,Jb⟩:=l_.2 m sD;subst Cy;have Yc:wr.cell? (ka.add m)=some (.string (aN ks m)):=(World.cell?_of_block (by rw[aY];exact iB.block _ (hO _ uC))).trans Jb;have Rh:Hid (∀x,x<n->∀W:World,Below w.heap.size w W->W.cell? (ka.add x)=some (.string (aN ks x))):=fun x hx W hW=>by
    obtain⟨a',Nw,Tf,hc'⟩:=l_.2 x (by rw[HN.out];exact hx)
    cases Nw
    exact(World.cell?_of_block (by rw[aY];exact hW.block _ (hO _ Tf))).trans hc'
   have hz:(aN ks m).size<=1000000000:=by rw[fw sD];exact CB _ (List.getElem_mem sD)
   have hB:=Fa Un (aN ks m) wr hz;obtain⟨u,hu⟩:∃u,aN ks m=u:=⟨_,rfl⟩;have HU:Hid (aN ks m=u):=hu;rw[hu]at Yc hB;clear hu Jb sD hz
   cases hlu:letters u with
   | false=>
    obtain⟨bp,hbp⟩:=jl.2 hlu;rw[hbp]at hB;have HR:Hid (gX ks=false):=MR HMK.out (by rw[HU.out];exact hlu);go_wp2_with(go_at_call 41;refine hB.mono ?_;rintro x w' ⟨rfl,rfl⟩);go_ret;exact⟨av HR.out.symm,iB⟩
   | true=>
    rw[jl.1 hlu]at hB;have HLU:Hid (letters u=true):=hlu;clear hlu;go_wp2_with(go_at_call 41;refine hB.mono ?_;rintro x w' ⟨rfl,rfl⟩);clear hB Yc
    go_loopw [4] (fun v w2=>∃a:Nat,v=.int .i64 a/\a<=m/\Hid (∀x,x<a->aN ks x≠u)/\Below w.heap.size w w2) (fun v _=>m - (intOf v).toNat)
    case atStart=>exact⟨0,rfl,Nat.zero_le _,fun x hx=>absurd hx (by omega),iB⟩
    case round=>
     obtain⟨a,rfl,ha,HD,bM⟩:=hrel
     by_cases ham:a<m
     ·have P6:(a:Int)<(m:Int):=by omega
      have han:(a:Int)<(n:Int):=by omega
      obtain⟨v,hv⟩:∃v,aN ks a=v:=⟨_,rfl⟩;have HV:Hid (aN ks a=v):=hv;clear hv;have fE:Below w.heap.size w wr.drew:=⟨bM.os,bM.tape,bM.output,bM.size,bM.block⟩
      by_cases QC:u=v
      ·have Yo:(u.toList==v.toList)=true:=by rw[QC];simp
       have HR:Hid (gX ks=false):=MS (a:=a) HMK.out ham (by rw[HU.out,HV.out,QC]);go_wp2;refine aD (by kernel_rfl) (fun W=>Below w.heap.size w W) ?_;change wpIn _ _ _ _ _ _ _ _ (World.drew _);refine aa (i:=0) (d:=some 22) rfl ?_;refine aa (i:=1) (d:=some 23) rfl ?_;refine aa (i:=2) (d:=some 24) rfl ?_;refine aB (i:=3) (d:=some 25) rfl (by(intro wq hq;have q0:=Rh.out m Jh wq hq;rw[HU.out]at q0;go_simp;first| done| with_reducible rfl)) ?_;refine aa (i:=4) (d:=some 26) rfl ?_;refine aa (i:=5) (d:=some 27) rfl ?_;refine aa (i:=6) (d:=some 28) rfl ?_;refine aB (i:=7) (d:=some 29) rfl (by(intro wq hq;have q0:=Rh.out a (by omega) wq hq;rw[HV.out]at q0;go_simp;first| done| with_reducible rfl)) ?_;refine aa (i:=8) (d:=some 30) rfl ?_;refine aA fE (by kernel_rfl) ?_ _;go_wp2;go_ret;exact⟨av HR.out.symm,fE⟩
      ·have Yo:(u.toList==v.toList)=false:=by rw[beq_eq_false_iff_ne];intro e;exact QC (toList_inj e)
       go_wp2;refine aD (by kernel_rfl) (fun W=>Below w.heap.size w W) ?_;change wpIn _ _ _ _ _ _ _ _ (World.drew _);refine aa (i:=0) (d:=some 22) rfl ?_;refine aa (i:=1) (d:=some 23) rfl ?_;refine aa (i:=2) (d:=some 24) rfl ?_;refine aB (i:=3) (d:=some 25) rfl (by(intro wq hq;have q0:=Rh.out m Jh wq hq;rw[HU.out]at q0;go_simp;first| done| with_reducible rfl)) ?_;refine aa (i:=4) (d:=some 26) rfl ?_;refine aa (i:=5) (d:=some 27) rfl ?_;refine aa (i:=6) (d:=some 28) rfl ?_;refine aB (i:=7) (d:=some 29) rfl (by(intro wq hq;have q0:=Rh.out a (by omega) wq hq;rw[HV.out]at q0;go_simp;first| done| with_reducible rfl)) ?_;refine aa (i:=8) (d:=some 30) rfl ?_;refine aA fE (by kernel_rfl) ?_ _;go_wp2;go_roundw
       case rel=>exact⟨a+1,by go_num,ham,fun x hx=>(Nat.lt_succ_iff_lt_or_eq.1 hx).elim (HD.out x) fun e=>by rw[e,HV.out];exact fun e'=>QC e'.symm,fE⟩
       case measure=>simp[intOf];omega
     ·obtain rfl:a=m:=by omega
      go_wp2;go_roundw
      case rel=>
       refine⟨a+1,by go_num,Jh,⟨fun x hx=> ?_,fun b hb x hx=> ?_⟩,bM⟩
       ·rcases Nat.lt_succ_iff_lt_or_eq.1 hx with h| h
        ·exact HI.out.1 x h
        ·rw[h,HU.out];exact HLU.out
       ·rcases Nat.lt_succ_iff_lt_or_eq.1 hb with h| h
        ·exact HI.out.2 b h x hx
        ·rw[h,HU.out];exact HD.out x (by omega)
      case measure=>simp[intOf];omega
  ·obtain rfl:m=n:=by omega
   have HR:Hid (gX ks=true):=Uo (fun x hx=>HI.out.1 x (by rw[<-HN.out];exact hx)) (fun b hb=>HI.out.2 b (by rw[<-HN.out];exact hb));go_wp2;go_ret;exact⟨av HR.out.symm,iB⟩
def bD(k i:Int)(t:ByteArray)(ks:List ByteArray)(nl:Nat):Bool:=bO k i t ks.length nl&&
    (if k=0 then true
     else if k=1 then decide (i=0) || decide (i=1)
     else if k=2 then decide (-bK<=i)&&decide (i<=bK)
     else if k=3 then letters t
     else if k=4 then true
     else if k=5 then decide (ks.length=nl)&&gX ks
     else false)
theorem vI(d:Nat)(k i:Int)(t:ByteArray)(ks:List ByteArray)(l:List J):goodJ (d+1) (.mk k i t ks l)=(bD k i t ks l.length&&l.all (goodJ d)):=by
 rw[goodJ,E9];unfold bD gX
 cases hb:bO k i t ks.length l.length with
 | false=>rfl
 | true=>
  have hl:k≠4->k≠5->l= []:=fun h4 h5=>by
   unfold bO at hb;simp only[Bool.and_eq_true,Bool.or_eq_true,decide_eq_true_eq]at hb;exact List.eq_nil_of_length_eq_zero (by omega)
  simp only[Bool.true_and]
  by_cases k0:k=0
  ·rw[if_pos k0,if_pos k0,hl (by omega) (by omega)];rfl
  rw[if_neg k0,if_neg k0]
  by_cases k1:k=1
  ·rw[if_pos k1,if_pos k1,hl (by omega) (by omega)];simp
  rw[if_neg k1,if_neg k1]
  by_cases k2:k=2
  ·rw[if_pos k2,if_pos k2,hl (by omega) (by omega)];simp
  rw[if_neg k2,if_neg k2]
  by_cases k3:k=3
  ·rw[if_pos k3,if_pos k3,hl (by omega) (by omega)];simp
  rw[if_neg k3,if_neg k3]
  by_cases k4:k=4
  ·rw[if_pos k4,if_pos k4];rfl
  rw[if_neg k4,if_neg k4]
  by_cases k5:k=5
  ·rw[if_pos k5,if_pos k5]
  ·rw[if_neg k5,if_neg k5];rfl
theorem QI{O:Nat->Prop}{w:World}(k i:Int)(t:ByteArray)(ks:List ByteArray)(pk pl:Option Addr)(nk ck nl cl:Nat)(oq:ks.length=nk)(l_:jT O w pk ck ks)(hO:∀k,O k->k<w.heap.size)(hl:nk<=100000)(uI:nl<=100000)(CB:∀k∈ks,k.size<=1000000000)(htz:t.size<=1000000000):
    Calls Tryz.prog 106 #[.agg #[.int .i64 k,.int .i64 i,.string t,.slice pk nk ck,.slice pl nl cl]] w fun x w'=>x=.returned (.bool (bD k i t ks nl))/\Below w.heap.size w w':=by
 have hn:=NR (t:=t);have dP:Below w.heap.size w (w.alloc (.cells #[.int .i64 k,.int .i64 i,.string t,.slice pk nk ck,.slice pl nl cl] 25)):=(Below.refl _ _).alloc (Nat.le_refl _) _;have hK:=QH (w:=w.alloc (.cells #[.int .i64 k,.int .i64 i,.string t,.slice pk nk ck,.slice pl nl cl] 25)) (l_.carry fun b hb=>⟨hb,dP.block b (hO b hb)⟩) (fun b hb=>Nat.lt_of_lt_of_le (hO b hb) dP.size) (by rw[oq];exact hl) CB;rw[oq]at hK;have jy:Hid (ks.length=nk):=oq;have hB:=Fa Un t (w.alloc (.cells #[.int .i64 k,.int .i64 i,.string t,.slice pk nk ck,.slice pl nl cl] 25)) htz;clear oq l_ CB
 by_cases xh:k=0
 ·skip
  subst xh
  by_cases hA:nk+nl=0
  ·skip
   obtain rfl:nk=0:=by omega
   obtain rfl:nl=0:=by omega
   by_cases hi:i=0
   ·skip
    subst hi
    by_cases hT:t.size=0
    ·skip
     rw[decide_eq_true hT]at hn;have HB:Hid (bD 0 0 t ks 0=true):=by show _=_;unfold bD bO;rw[jy.out];simp[*]
     go_enter Tryz.func106,Tryz.ntmps106;go_wp2;go_ret;refine⟨av ?_, ?_⟩
     ·first| exact HB.out.symm| (rw[HB.out];simp;omega)
     ·exact(Below.refl _ _).alloc (Nat.le_refl _) _
    ·skip
     rw[decide_eq_false hT]at hn;have HB:Hid (bD 0 0 t ks 0=false):=by show _=_;unfold bD bO;rw[jy.out];simp[*]
     go_enter Tryz.func106,Tryz.ntmps106;go_wp2;go_ret;refine⟨av ?_, ?_⟩
     ·first| exact HB.out.symm| (rw[HB.out];simp;omega)
     ·exact(Below.refl _ _).alloc (Nat.le_refl _) _
   ·skip
    have HB:Hid (bD 0 i t ks 0=false):=by show _=_;unfold bD bO;rw[jy.out];simp[*]
    go_enter Tryz.func106,Tryz.ntmps106;go_wp2;go_ret;refine⟨av ?_, ?_⟩
    ·first| exact HB.out.symm| (rw[HB.out];simp;omega)
    ·exact(Below.refl _ _).alloc (Nat.le_refl _) _
  ·skip
   have OT:0<nk+nl:=by omega
   have HB:Hid (bD 0 i t ks nl=false):=by show _=_;unfold bD bO;rw[jy.out];(by_cases yo:nk=0<;>by_cases zq:nl=0<;>first| (exfalso;omega)| simp[yo,zq])
   go_enter Tryz.func106,Tryz.ntmps106;go_wp2;go_ret;refine⟨av ?_, ?_⟩
   ·first| exact HB.out.symm| (rw[HB.out];simp;omega)
   ·exact(Below.refl _ _).alloc (Nat.le_refl _) _
 ·skip
  by_cases jY:k=1
  ·skip
   subst jY
   by_cases hA:nk+nl=0
   ·skip
    obtain rfl:nk=0:=by omega
    obtain rfl:nl=0:=by omega
    by_cases hi:i=0
    ·skip
     subst hi
     by_cases hT:t.size=0
     ·skip
      rw[decide_eq_true hT]at hn;have HB:Hid (bD 1 0 t ks 0=true):=by show _=_;unfold bD bO;rw[jy.out];simp[*]
      go_enter Tryz.func106,Tryz.ntmps106;go_wp2;go_ret;refine⟨av ?_, ?_⟩
      ·first| exact HB.out.symm| (rw[HB.out];simp;omega)
      ·exact(Below.refl _ _).alloc (Nat.le_refl _) _
     ·skip
      rw[decide_eq_false hT]at hn;have HB:Hid (bD 1 0 t ks 0=false):=by show _=_;unfold bD bO;rw[jy.out];simp[*]
      go_enter Tryz.func106,Tryz.ntmps106;go_wp2;go_ret;refine⟨av ?_, ?_⟩
      ·first| exact HB.out.symm| (rw[HB.out];simp;omega)
      ·exact(Below.refl _ _).alloc (Nat.le_refl _) _
    ·skip
     by_cases hi1:i=1
     ·skip
      subst hi1
      by_cases hT:t.size=0
      ·skip
       rw[decide_eq_true hT]at hn;have HB:Hid (bD 1 1 t ks 0=true):=by show _=_;unfold bD bO;rw[jy.out];simp[*]
       go_enter Tryz.func106,Tryz.ntmps106;go_wp2;go_ret;refine⟨av ?_, ?_⟩
       ·first| exact HB.out.symm| (rw[HB.out];simp;omega)
       ·exact(Below.refl _ _).alloc (Nat.le_refl _) _
      ·skip
       rw[decide_eq_false hT]at hn;have HB:Hid (bD 1 1 t ks 0=false):=by show _=_;unfold bD bO;rw[jy.out];simp[*]
       go_enter Tryz.func106,Tryz.ntmps106;go_wp2;go_ret;refine⟨av ?_, ?_⟩
       ·first| exact HB.out.symm| (rw[HB.out];simp;omega)
       ·exact(Below.refl _ _).alloc (Nat.le_refl _) _
     ·skip
      have HB:Hid (bD 1 i t ks 0=false):=by show _=_;unfold bD bO;rw[jy.out];simp[*]
      go_enter Tryz.func106,Tryz.ntmps106;go_wp2;go_ret;refine⟨av ?_, ?_⟩
      ·first| exact HB.out.symm| (rw[HB.out];simp;omega)
      ·exact(Below.refl _ _).alloc (Nat.le_refl _) _
   ·skip
    have OT:0<nk+nl:=by omega
    have HB:Hid (bD 1 i t ks nl=false):=by show _=_;unfold bD bO;rw[jy.out];(by_cases yo:nk=0<;>by_cases zq:nl=0<;>first| (exfalso;omega)| simp[yo,zq])
    go_enter Tryz.func106,Tryz.ntmps106;go_wp2;go_ret;refine⟨av ?_, ?_⟩
    ·first| exact HB.out.symm| (rw[HB.out];simp;omega)
    ·exact(Below.refl _ _).alloc (Nat.le_refl _) _
  ·skip
   by_cases iX:k=2
   ·skip
    subst iX
    by_cases hA:nk+nl=0
    ·skip
     obtain rfl:nk=0:=by omega
     obtain rfl:nl=0:=by omega
     by_cases V4: -9007199254740991<=i
     ·skip
      by_cases hhi:i<=9007199254740991
      ·skip
       by_cases hT:t.size=0
       ·skip
        rw[decide_eq_true hT]at hn;have HB:Hid (bD 2 i t ks 0=true):=by show _=_;unfold bD bO;rw[jy.out];simp[*,bK]
        go_enter Tryz.func106,Tryz.ntmps106;go_wp2;go_ret;refine⟨av ?_, ?_⟩
        ·first| exact HB.out.symm| (rw[HB.out];simp;omega)
        ·exact(Below.refl _ _).alloc (Nat.le_refl _) _
       ·skip
        rw[decide_eq_false hT]at hn;have HB:Hid (bD 2 i t ks 0=false):=by show _=_;unfold bD bO;rw[jy.out];simp[*,bK]
        go_enter Tryz.func106,Tryz.ntmps106;go_wp2;go_ret;refine⟨av ?_, ?_⟩
        ·first| exact HB.out.symm| (rw[HB.out];simp;omega)
        ·exact(Below.refl _ _).alloc (Nat.le_refl _) _
      ·skip
       have HB:Hid (bD 2 i t ks 0=false):=by show _=_;unfold bD bO;rw[jy.out];simp[*,bK]
       go_enter Tryz.func106,Tryz.ntmps106;go_wp2;go_ret;refine⟨av ?_, ?_⟩
       ·first| exact HB.out.symm| (rw[HB.out];simp;omega)
       ·exact(Below.refl _ _).alloc (Nat.le_refl _) _
     ·skip
      have HB:Hid (bD 2 i t ks 0=false):=by show _=_;unfold bD bO;rw[jy.out];simp[*,bK]
      go_enter Tryz.func106,Tryz.ntmps106;go_wp2;go_ret;refine⟨av ?_, ?_⟩
      ·first| exact HB.out.symm| (rw[HB.out];simp;omega)
      ·exact(Below.refl _ _).alloc (Nat.le_refl _) _
    ·skip
     have OT:0<nk+nl:=by omega
     have HB:Hid (bD 2 i t ks nl=false):=by show _=_;unfold bD bO;rw[jy.out];(by_cases yo:nk=0<;>by_cases zq:nl=0<;>first| (exfalso;omega)| simp[yo,zq])
     go_enter Tryz.func106,Tryz.ntmps106;go_wp2;go_ret;refine⟨av ?_, ?_⟩
     ·first| exact HB.out.symm| (rw[HB.out];simp;omega)
     ·exact(Below.refl _ _).alloc (Nat.le_refl _) _
   ·skip
    by_cases eY:k=3
    ·skip
     subst eY
     by_cases hA:nk+nl=0
     ·skip
      obtain rfl:nk=0:=by omega
      obtain rfl:nl=0:=by omega
      by_cases hi:i=0
      ·skip
       subst hi
       cases bJ:letters t with
       | true=>
        rw[jl.1 bJ]at hB;have HB:Hid (bD 3 0 t ks 0=true):=by show _=_;unfold bD bO;rw[jy.out];simp[*]
        go_enter Tryz.func106,Tryz.ntmps106;go_wp2_with(go_at_call 41;refine hB.mono ?_;rintro x w2 ⟨rfl,rfl⟩);go_ret;refine⟨av ?_, ?_⟩
        ·first| exact HB.out.symm| (rw[HB.out];simp;omega)
        ·exact(Below.refl _ _).alloc (Nat.le_refl _) _
       | false=>
        obtain⟨bp,hbp⟩:=jl.2 bJ;rw[hbp]at hB;have HB:Hid (bD 3 0 t ks 0=false):=by show _=_;unfold bD bO;rw[jy.out];simp[*]
        go_enter Tryz.func106,Tryz.ntmps106;go_wp2_with(go_at_call 41;refine hB.mono ?_;rintro x w2 ⟨rfl,rfl⟩);go_ret;refine⟨av ?_, ?_⟩
        ·first| exact HB.out.symm| (rw[HB.out];simp;omega)
        ·exact(Below.refl _ _).alloc (Nat.le_refl _) _
      ·skip
       have HB:Hid (bD 3 i t ks 0=false):=by show _=_;unfold bD bO;rw[jy.out];simp[*]
       go_enter Tryz.func106,Tryz.ntmps106;go_wp2;go_ret;refine⟨av ?_, ?_⟩
       ·first| exact HB.out.symm| (rw[HB.out];simp;omega)
       ·exact(Below.refl _ _).alloc (Nat.le_refl _) _
     ·skip
      have OT:0<nk+nl:=by omega
      have HB:Hid (bD 3 i t ks nl=false):=by show _=_;unfold bD bO;rw[jy.out];(by_cases yo:nk=0<;>by_cases zq:nl=0<;>first| (exfalso;omega)| simp[yo,zq])
      go_enter Tryz.func106,Tryz.ntmps106;go_wp2;go_ret;refine⟨av ?_, ?_⟩
      ·first| exact HB.out.symm| (rw[HB.out];simp;omega)
      ·exact(Below.refl _ _).alloc (Nat.le_refl _) _
    ·skip
     by_cases uF:k=4
     ·skip
      subst uF
      by_cases hA:nk=0
      ·skip
       subst hA
       by_cases hi:i=0
       ·skip
        subst hi
        by_cases hT:t.size=0
        ·skip
         rw[decide_eq_true hT]at hn;have HB:Hid (bD 4 0 t ks nl=true):=by show _=_;unfold bD bO;rw[jy.out];simp[*]
         go_enter Tryz.func106,Tryz.ntmps106;go_wp2;go_ret;refine⟨av ?_, ?_⟩
         ·first| exact HB.out.symm| (rw[HB.out];simp;omega)
         ·exact(Below.refl _ _).alloc (Nat.le_refl _) _
        ·skip
         rw[decide_eq_false hT]at hn;have HB:Hid (bD 4 0 t ks nl=false):=by show _=_;unfold bD bO;rw[jy.out];simp[*]
         go_enter Tryz.func106,Tryz.ntmps106;go_wp2;go_ret;refine⟨av ?_, ?_⟩
         ·first| exact HB.out.symm| (rw[HB.out];simp;omega)
         ·exact(Below.refl _ _).alloc (Nat.le_refl _) _
       ·skip
        have HB:Hid (bD 4 i t ks nl=false):=by show _=_;unfold bD bO;rw[jy.out];simp[*]
        go_enter Tryz.func106,Tryz.ntmps106;go_wp2;go_ret;refine⟨av ?_, ?_⟩
        ·first| exact HB.out.symm| (rw[HB.out];simp;omega)
        ·exact(Below.refl _ _).alloc (Nat.le_refl _) _
      ·skip
       have OT:0<nk:=by omega
       have HB:Hid (bD 4 i t ks nl=false):=by show _=_;unfold bD bO;rw[jy.out];simp[*]
       go_enter Tryz.func106,Tryz.ntmps106;go_wp2;go_ret;refine⟨av ?_, ?_⟩
       ·first| exact HB.out.symm| (rw[HB.out];simp;omega)
       ·exact(Below.refl _ _).alloc (Nat.le_refl _) _
     ·skip
      by_cases qX:k=5
      ·skip
       subst qX
       by_cases hA:nk=nl
       ·skip
        subst hA
        by_cases hi:i=0
        ·skip
         subst hi
         by_cases hT:t.size=0
         ·skip
          rw[decide_eq_true hT]at hn;have HB:Hid (bD 5 0 t ks nk=gX ks):=by show _=_;unfold bD bO;rw[jy.out];simp[*]
          go_enter Tryz.func106,Tryz.ntmps106;go_wp2_with(go_at_call 132;refine hK.mono ?_;rintro x w2 ⟨rfl,bM⟩);go_ret;refine⟨av ?_, ?_⟩
          ·first| exact HB.out.symm| (rw[HB.out];simp;omega)
          ·exact ae ((Below.refl _ _).alloc (Nat.le_refl _) _) bM
         ·skip
          rw[decide_eq_false hT]at hn;have HB:Hid (bD 5 0 t ks nk=false):=by show _=_;unfold bD bO;rw[jy.out];simp[*]
          go_enter Tryz.func106,Tryz.ntmps106;go_wp2;go_ret;refine⟨av ?_, ?_⟩
          ·first| exact HB.out.symm| (rw[HB.out];simp;omega)
          ·exact(Below.refl _ _).alloc (Nat.le_refl _) _
        ·skip
         have HB:Hid (bD 5 i t ks nk=false):=by show _=_;unfold bD bO;rw[jy.out];simp[*]
         go_enter Tryz.func106,Tryz.ntmps106;go_wp2;go_ret;refine⟨av ?_, ?_⟩
         ·first| exact HB.out.symm| (rw[HB.out];simp;omega)
         ·exact(Below.refl _ _).alloc (Nat.le_refl _) _
       ·skip
        have HB:Hid (bD 5 i t ks nl=false):=by show _=_;unfold bD bO;rw[jy.out];simp[*]
        go_enter Tryz.func106,Tryz.ntmps106;go_wp2;go_ret;refine⟨av ?_, ?_⟩
        ·first| exact HB.out.symm| (rw[HB.out];simp;omega)
        ·exact(Below.refl _ _).alloc (Nat.le_refl _) _
      ·skip
       have HB:Hid (bD k i t ks nl=false):=by show _=_;unfold bD bO;rw[jy.out];simp[*]
       go_enter Tryz.func106,Tryz.ntmps106;go_wp2;go_ret;refine⟨av ?_, ?_⟩
       ·first| exact HB.out.symm| (rw[HB.out];simp;omega)
       ·exact(Below.refl _ _).alloc (Nat.le_refl _) _
def FJ(d:Nat):Prop:=∀(w:World) (O:Nat->Prop) (j:J) (k i most:Int) (t:ByteArray) (pk pl:Option Addr) (nk ck nl cl:Nat),(∀x,O x->x<w.heap.size)->most=(d:Int)->d<=100->szJ d j=true→
 isJ O w j [.int .i64 k,.int .i64 i,.string t,.slice pk nk ck,.slice pl nl cl]→
 Calls Tryz.prog 76 #[.agg #[.int .i64 k,.int .i64 i,.string t,.slice pk nk ck,.slice pl nl cl],.int .i64 most] w fun x w'=>x=.returned (.bool (goodJ d j))/\Below w.heap.size w w'
theorem MU:FJ 0:=by
 intro w O j k i most t pk pl nk ck nl cl hO hm _ _ _;subst hm;go_enter Tryz.func76,Tryz.ntmps76;go_wp2;go_ret;exact⟨by unfold goodJ;rfl,(Below.refl _ _).alloc (Nat.le_refl _) _⟩
theorem MV{d:Nat}(V:FJ d):FJ (d+1):=by
 intro w O j k i most t pk pl nk ck nl cl hO hm hd fI hj;obtain⟨kx,ix,tx,ks,l⟩:=j;unfold isJ at hj;obtain⟨F7,DL,F8,uG,e,hk,hl,hs⟩:=hj;simp only[List.cons.injEq,Value.int.injEq,Value.string.injEq,Value.slice.injEq,true_and,and_true]at e;obtain⟨rfl,rfl,rfl,⟨rfl,rfl,rfl⟩,rfl,rfl,rfl⟩:=e;unfold szJ at fI;simp only[Bool.and_eq_true,decide_eq_true_eq]at fI;obtain⟨htz,rQ,CB,uI,Ja⟩:=fI;have HLS:Hid (l.all (szJ d)=true):=Ja;have EG:1<=most:=by omega
 have Qr:most<=101:=by omega
 have HM:Hid (most - 1=(d:Int)):=by show _=_;omega
 have HDL:Hid (d<=100):=by show _<=_;omega
 have HGS:Hid (goodJ (d+1) (.mk k i t ks l)=(bD k i t ks l.length&&l.all (goodJ d))):=vI d k i t ks l;clear hm hd Ja;obtain⟨nk,oq⟩:∃n,ks.length=n:=⟨_,rfl⟩;obtain⟨nl,mV⟩:∃n,l.length=n:=⟨_,rfl⟩;have qP:Hid (l.length=nl):=mV;rw[mV]at HGS;obtain⟨wB,nA⟩:∃wB,wB=w.alloc (.cells #[.int .i64 k,.int .i64 i,.string t,.slice pk nk ck,.slice pl nl cl] 25):=⟨_,rfl⟩;have dP:Below w.heap.size w wB:=by rw[nA];exact(Below.refl _ _).alloc (Nat.le_refl _) _
 have hA:wB.heap[w.heap.size]?=some (.cells #[.int .i64 k,.int .i64 i,.string t,.slice pk nk ck,.slice pl nl cl] 25 (0,0)):=by rw[nA];exact heap_alloc_new _ _
 have wU:w.heap.size<wB.heap.size:=(Array.getElem?_eq_some_iff.1 hA).1;have vR:=QI (w:=wB) (O:=O) k i t ks pk pl nk ck nl cl oq (hk.carry fun b hb=>⟨hb,dP.block b (hO b hb)⟩) (fun b hb=>Nat.lt_of_lt_of_le (hO b hb) dP.size) (by rw[<-oq];exact rQ) (by rw[<-mV];exact uI) (fun x hx=>of_decide_eq_true (List.all_eq_true.1 CB x hx)) htz;rw[oq,mV];have zgf:nl<=100000:=by rw[<-mV];exact uI
 have DN:nl<=cl:=by rw[<-mV];exact hl
 have Cr:Hid (∀W:World,Below wB.heap.size wB W->∀n v, [Value.int .i64 k,.int .i64 i,.string t,.slice pk nk ck,.slice pl nl cl][n]?=some v->W.cell? ⟨w.heap.size,n,none⟩=some v):=fun W hW n v hv=>
  (World.cell?_of_block (a:=⟨w.heap.size,n,none⟩) (hW.block w.heap.size wU)).trans (aR (cur:= [.int .i64 k,.int .i64 i,.string t,.slice pk nk ck,.slice pl nl cl]) hA n v hv)
 clear oq mV rQ CB uI htz hk hl hA
 cases hsb:bD k i t ks nl with
 | false=>
  rw[hsb]at vR HGS;rw[nA]at vR;go_enter Tryz.func76,Tryz.ntmps76;go_wp2_with(go_at_call 106;refine vR.mono ?_;rintro x w2 ⟨rfl,bM⟩);go_ret;rw[<-nA]at bM;exact⟨av HGS.out.symm,ae dP bM⟩
 | true=>
  rw[hsb,Bool.true_and]at HGS;rw[hsb,nA]at vR;go_enter Tryz.func76,Tryz.ntmps76;go_wp2_with(go_at_call 106;refine vR.mono ?_;rintro x w2 ⟨rfl,bM⟩);rw[<-nA]at bM;clear nA vR hsb
  go_loopw [5] (fun v wr=>∃m:Nat,v=.int .i64 m/\m<=nl/\Hid ((l.take m).all (goodJ d)=true)/\Below wB.heap.size wB wr) (fun v _=>nl - (intOf v).toNat)
  case atStart=>exact⟨0,rfl,Nat.zero_le _,rfl,bM⟩
  case round=>
   obtain⟨m,rfl,hm,HT,a_⟩:=hrel;have a4:=Cr.out wr a_ 4 _ rfl
   by_cases mW:m<nl
   ·have oL:(m:Int)<(nl:Int):=by omega
    have iP:m<l.length:=by rw[qP.out];exact mW
    have GZ:Hid (m<l.length):=iP;obtain⟨lb,lo,cs,tY,uY,bY,jF⟩:=isJs.at l 0 m hs iP;subst tY;obtain⟨x0,x1,x2,p3,n3,c3,p4,n4,c4,rfl⟩:=dD jF;have Yy:=dU dP (by omega) a_;have jA:=Yy.block lb (hO _ uY);have cc:∀n v, [Value.int .i64 x0,.int .i64 x1,.string x2,.slice p3 n3 c3,.slice p4 n4 c4][n]?=some v->wr.cell? ⟨lb,lo+m*5+n,none⟩=some v:=fun n v h=>by
     have:=bY n v h;rw[Nat.zero_add]at this;exact(World.cell?_of_block (a:=⟨lb,lo+m*5+n,none⟩) jA).trans this
    have y0:wr.cell? ⟨lb,lo+m*5,none⟩=some (.int .i64 x0):=cc 0 _ rfl;have y1:=cc 1 _ rfl;have y2:=cc 2 _ rfl;have y3:=cc 3 _ rfl;have y4:=cc 4 _ rfl;have hV:=V wr O (l.getD m J.zero) x0 x1 (most - 1) x2 p3 p4 n3 c3 n4 c4 (fun b hb=>Nat.lt_of_lt_of_le (hO b hb) Yy.size) HM.out HDL.out (lG HLS.out iP) (jF.carry fun b hb=>⟨hb,Yy.block b (hO b hb)⟩);clear cc bY iP jF jA
    cases hgj:goodJ d (l.getD m J.zero)with
    | true=>
     rw[hgj]at hV;go_wp2_with(go_at_call 76;refine hV.mono ?_;rintro x w4 ⟨rfl,dN⟩);go_roundw
     case rel=>exact⟨m+1,by go_num,mW,by show _=_;rw[AU GZ.out,HT.out,hgj];rfl,dU a_ a_.size dN⟩
     case measure=>simp[intOf];omega
    | false=>
     rw[hgj]at hV;go_wp2_with(go_at_call 76;refine hV.mono ?_;rintro x w4 ⟨rfl,dN⟩);go_ret;exact⟨av (by rw[HGS.out];exact(NT GZ.out hgj).symm),dU dP (by omega) (dU a_ a_.size dN)⟩
   ·obtain rfl:m=nl:=by omega
    go_wp2;go_ret;have ht:=HT.out;rw[List.take_of_length_le (by rw[qP.out];omega)]at ht;exact⟨av (by rw[HGS.out];exact ht.symm),dU dP (by omega) a_⟩
theorem Uq:∀d,FJ d
 | 0=>MU
 | d+1=>MV (Uq d)
theorem uo{w:World}{O:Nat->Prop}{j:J}{k i:Int}{t:ByteArray}{pk pl:Option Addr}{nk ck nl cl:Nat}(hO:∀x,O x->x<w.heap.size)(fI:szJ 12 j=true)
    (hj:isJ O w j [.int .i64 k,.int .i64 i,.string t,.slice pk nk ck,.slice pl nl cl]):
    Calls Tryz.prog 35 #[.agg #[.int .i64 k,.int .i64 i,.string t,.slice pk nk ck,.slice pl nl cl]] w fun x w'=>x=.returned (.bool (goodJ 12 j))/\Below w.heap.size w w':=by
 have dP:Below w.heap.size w (w.alloc (.cells #[.int .i64 k,.int .i64 i,.string t,.slice pk nk ck,.slice pl nl cl] 25)):=(Below.refl _ _).alloc (Nat.le_refl _) _;have hV:=Uq 12 (w.alloc (.cells #[.int .i64 k,.int .i64 i,.string t,.slice pk nk ck,.slice pl nl cl] 25)) O j k i 12 t pk pl nk ck nl cl (fun b hb=>Nat.lt_of_lt_of_le (hO b hb) dP.size) rfl (by decide) fI (hj.carry fun b hb=>⟨hb,dP.block b (hO b hb)⟩);go_enter Tryz.func35,Tryz.ntmps35;go_wp2_with(go_at_call 76;refine hV.mono ?_;rintro x w4 ⟨rfl,dN⟩);go_ret;exact⟨rfl,ae dP dN⟩
end Go.Proofs.YtegcgbjjpgjnmaaGreatDoor

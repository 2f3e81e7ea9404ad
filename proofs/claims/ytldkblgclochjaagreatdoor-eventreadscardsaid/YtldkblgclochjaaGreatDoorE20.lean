/- A part. -/
import Derived.Test.YtldkblgclochjaaGreatDoorE19
import Derived.Laws.BitsAllLaws
set_option maxRecDepth 100000
set_option maxHeartbeats 16000000
namespace Go.Proofs.YtldkblgclochjaaGreatDoor
open Go.RowKit Go.Maps
theorem zan{O:Nat->Prop}{w:World}{j:J}{k i:Int}{t:ByteArray}{pk pl:Option Addr}{nk ck nl cl:Nat}(hO:∀x,O x->x<w.heap.size)(hj:isJ O w j [.int .i64 k,.int .i64 i,.string t,.slice pk nk ck,.slice pl nl cl])(hs:szJ 12 j=true)(hn:(dX j).keys.length<=80000)(hT:lW w)(hr:fO (dX j)=true)(c:dR (bM (dX j))=0):
    Calls Tryz.prog 6 #[.agg #[.int .i64 k,.int .i64 i,.string t,.slice pk nk ck,.slice pl nl cl]] w fun x w'=>(∃p,x=.returned (.tuple #[fA (dz (dX j)).1 p,.int .i64 (dz (dX j)).2])/\mY (fun q=>O q\/ gH w w' q) w' (dz (dX j)).1 p)/\Below w.heap.size w w':=by
 have hN:=vL hs;have QR:=rh hN.1 hN.2;have HF:Hid (dz (dX j)=(bM (dX j),0)):=by
  show _=_
  unfold dz;rw[if_pos hr,if_pos c]
 obtain⟨J1,YZ⟩:∃J1,dX j=J1:=⟨_,rfl⟩;obtain⟨WB,eY⟩:∃WB,WB=(w.alloc (.cells #[.int .i64 k,.int .i64 i,.string t,.slice pk nk ck,.slice pl nl cl] 25)).alloc (.cells #[.string ⟨#[]⟩,.string ⟨#[]⟩,.string ⟨#[]⟩,.bool false,.string ⟨#[]⟩,.int .i64 0,.int .i64 0,.string ⟨#[]⟩,.slice none 0 0,.slice none 0 0,.slice none 0 0,.slice none 0 0,.int .i64 0,.int .i64 0,.string ⟨#[]⟩,.slice none 0 0] 29):=⟨_,rfl⟩;have dK:Below w.heap.size w WB:=by rw[eY];exact((Below.refl _ _).alloc (Nat.le_refl _) _).alloc (by simp) _
 have pX:WB.heap[w.heap.size+1]?=some (.cells #[.string ⟨#[]⟩,.string ⟨#[]⟩,.string ⟨#[]⟩,.bool false,.string ⟨#[]⟩,.int .i64 0,.int .i64 0,.string ⟨#[]⟩,.slice none 0 0,.slice none 0 0,.slice none 0 0,.slice none 0 0,.int .i64 0,.int .i64 0,.string ⟨#[]⟩,.slice none 0 0] 29 (0,0)):=by rw[eY];exact jm _ _
 have zca:w.heap.size+2<=WB.heap.size:=by rw[eY];simp
 have Ri:=zo (w:=WB) (O:=O) (fun x c=>Nat.lt_of_lt_of_le (hO x c) dK.size) hs (hj.carry fun x c=>⟨c,dK.block x (hO x c)⟩);rw[YZ]at Ri hN QR hr hn HF ⊢;rw[YZ]at c;have HTB:Hid (lW w):=hT;have oo:Hid (Below w.heap.size w WB):=dK;have Xu:Hid (∀W k i t pk nk ck pl nl cl,Below WB.heap.size WB W->isJ (fun b=>O b\/ gH WB W b) W J1 [.int .i64 k,.int .i64 i,.string t,.slice pk nk ck,.slice pl nl cl]->Calls Tryz.prog 15 #[.agg #[.int .i64 k,.int .i64 i,.string t,.slice pk nk ck,.slice pl nl cl]] W fun x w'=>(∃p,x=.returned (.tuple #[fA (bM J1) p,.bool (fO J1)])/\mY (fun q=>(O q\/ gH WB W q)\/ gH W w' q) w' (bM J1) p)/\Below W.heap.size W w'):=fun W k i t pk nk ck pl nl cl hb h=>Dq (fun x c=>c.elim (fun c=>Nat.lt_of_lt_of_le (hO x c) (Nat.le_trans dK.size hb.size)) fun c=>c.2) h hN.1 hN.2 hn;have HSh:Hid (∀W p,mY (fun q=>q<W.heap.size) W (bM J1) p->Below w.heap.size w W->Calls Tryz.prog 13 #[fA (bM J1) p] W fun x w'=>x=.returned (.int .i64 (dR (bM J1)))/\Below W.heap.size W w'):=fun W p h hb=>kW _ p W h (fun _ h=>h) QR (hT.below hb);obtain⟨E1,Ae⟩:∃E1,bM J1=E1:=⟨_,rfl⟩;rw[Ae]at Xu HSh HF c;rw[hr]at Xu;have HO:Hid (∀k,O k->k<w.heap.size):=hO;clear hj hs hN QR hT hO dK YZ Ae hr hn;rw[eY]at Ri;have QS:Hid (WB=(w.alloc (.cells #[.int .i64 k,.int .i64 i,.string t,.slice pk nk ck,.slice pl nl cl] 25)).alloc (.cells #[.string ⟨#[]⟩,.string ⟨#[]⟩,.string ⟨#[]⟩,.bool false,.string ⟨#[]⟩,.int .i64 0,.int .i64 0,.string ⟨#[]⟩,.slice none 0 0,.slice none 0 0,.slice none 0 0,.slice none 0 0,.int .i64 0,.int .i64 0,.string ⟨#[]⟩,.slice none 0 0] 29)):=eY;clear eY;go_enter Tryz.func6,Tryz.ntmps6;go_wp2_with(first
  | (go_at_call 13;refine AY.mono ?_;rintro x w4 ⟨rfl,eQ⟩
     have yx:=(eQ.block (w.heap.size+1) (by omega)).trans KP;have Xv:=(eQ.block w2.heap.size (by simp)).trans OT;have lc:=pI Xv;have ic:=pI yx;have zc:=aW yx)
  | (go_at_call 15;refine hRd.mono ?_;rintro x w2 ⟨⟨p2,rfl,hI2⟩,bO⟩
     obtain⟨a0,a1,a2,b3,a4,G,n6,S,E,V,Z,A,H,f,X,I,F,N,u,K,T,d,U,Y,z,m,hv⟩:=zm E1 p2;have HV:Hid (fA E1 p2=.agg #[.string a0,.string a1,.string a2,.bool b3,.string a4,.int .i64 G,.int .i64 n6,.string S,.slice E V Z,.slice A H f,.slice X I F,.slice N u K,.int .i64 T,.int .i64 d,.string U,.slice Y z m]):=hv;rw[hv];have JA:=ae oo.out (ae bK bO);have s2:=(ae bK bO).size;have zek:=bK.size;have zel:=bO.size;have hI3:=hI2.carry (O':=fun q=>O q\/ (WB.heap.size<=q/\q<(w2.alloc (.cells #[.string a0,.string a1,.string a2,.bool b3,.string a4,.int .i64 G,.int .i64 n6,.string S,.slice E V Z,.slice A H f,.slice X I F,.slice N u K,.int .i64 T,.int .i64 d,.string U,.slice Y z m] 29)).heap.size)) (w':=w2.alloc (.cells #[.string a0,.string a1,.string a2,.bool b3,.string a4,.int .i64 G,.int .i64 n6,.string S,.slice E V Z,.slice A H f,.slice X I F,.slice N u K,.int .i64 T,.int .i64 d,.string U,.slice Y z m] 29)) fun q hq=>by
      have bQ:q<w2.heap.size/\(O q\/ WB.heap.size<=q):=by
       rcases hq with(h| h)| h
       ·exact⟨by have:=HO.out q h;omega,.inl h⟩
       ·exact⟨by have:=h.2;omega,.inr h.1⟩
       ·exact⟨h.2,.inr (by have:=h.1;omega)⟩
      exact⟨bQ.2.elim .inl fun h=>.inr ⟨h,by simp;omega⟩,Below.heap_alloc _ _ _ bQ.1⟩
     have dh:Below w.heap.size w (w2.alloc (.cells #[.string a0,.string a1,.string a2,.bool b3,.string a4,.int .i64 G,.int .i64 n6,.string S,.slice E V Z,.slice A H f,.slice X I F,.slice N u K,.int .i64 T,.int .i64 d,.string U,.slice Y z m] 29)):=JA.alloc JA.size _;have AY:=HSh.out _ _ (hI3.carry fun q hq=>⟨hq.elim (fun h=>by have:=HO.out q h;simp;omega) fun h=>h.2,rfl⟩) dh;have OT:=heap_alloc_new w2 (.cells #[.string a0,.string a1,.string a2,.bool b3,.string a4,.int .i64 G,.int .i64 n6,.string S,.slice E V Z,.slice A H f,.slice X I F,.slice N u K,.int .i64 T,.int .i64 d,.string U,.slice Y z m] 29);have KP:=((ae bK bO).alloc (Nat.le_trans (Nat.le_refl _) s2) (.cells #[.string a0,.string a1,.string a2,.bool b3,.string a4,.int .i64 G,.int .i64 n6,.string S,.slice E V Z,.slice A H f,.slice X I F,.slice N u K,.int .i64 T,.int .i64 d,.string U,.slice Y z m] 29)).block (w.heap.size+1) (by omega) |>.trans pX;have zem:w.heap.size+2<=(w2.alloc (.cells #[.string a0,.string a1,.string a2,.bool b3,.string a4,.int .i64 G,.int .i64 n6,.string S,.slice E V Z,.slice A H f,.slice X I F,.slice N u K,.int .i64 T,.int .i64 d,.string U,.slice Y z m] 29)).heap.size:=by simp;omega
     rw[hv]at AY;clear hv
     skip)
  | (go_at_call 16;refine Ri.mono ?_;rintro x w1 ⟨⟨kr,ir,tr,pr,nr,cr,qr,mr,dr,rfl,QT⟩,bK⟩
     rw[<-QS.out]at bK;have hRd:=Xu.out w1 kr ir tr pr nr cr qr mr dr bK (by rw[<-QS.out]at QT;exact QT)))
 have iR:=jX yx (.string a0) (.string a1) (.string a2) (.bool b3) (.string a4) (.int .i64 G) (.int .i64 n6) (.string S) (.slice E V Z) (.slice A H f) (.slice X I F) (.slice N u K) (.int .i64 T) (.int .i64 d) (.string U) (.slice Y z m);have mR:ag (One (w.heap.size+1)) _ _:=jY w4 (w.heap.size+1) (.string a0) (.string a1) (.string a2) (.bool b3) (.string a4) (.int .i64 G) (.int .i64 n6) (.string S) (.slice E V Z) (.slice A H f) (.slice X I F) (.slice N u K) (.int .i64 T) (.int .i64 d) (.string U) (.slice Y z m);obtain⟨WE,l_⟩:∃WE,WE=mq w4 (w.heap.size+1) (.string a0) (.string a1) (.string a2) (.bool b3) (.string a4) (.int .i64 G) (.int .i64 n6) (.string S) (.slice E V Z) (.slice A H f) (.slice X I F) (.slice N u K) (.int .i64 T) (.int .i64 d) (.string U) (.slice Y z m):=⟨_,rfl⟩;rw[<-l_]at iR mR;unfold mq at l_;rw[<-l_];clear l_;refine bodyPost_ret (results_cell_tmp rfl _ _ _ rfl (qV iR)) rfl ?_;have hwF:Below w.heap.size w w4:=ae dh eQ;have zen:=hwF.size;have zb:Below w.heap.size w WE:=hwF.trans (mR.below (by omega) fun q hq=>by unfold One;omega);rw[HF.out];refine⟨⟨p2,by rw[HV.out];rfl,hI3.carry fun q hq=> ?_⟩,zb⟩;have Uz:=eQ.size;have hse:=mR.size;have hq3:q<(w2.alloc (.cells #[.string a0,.string a1,.string a2,.bool b3,.string a4,.int .i64 G,.int .i64 n6,.string S,.slice E V Z,.slice A H f,.slice X I F,.slice N u K,.int .i64 T,.int .i64 d,.string U,.slice Y z m] 29)).heap.size:=by rcases hq with h| h;have:=HO.out q h;simp;omega;exact h.2
 refine⟨?_,(mR.block q (by omega) (by unfold One;rcases hq with h| h;have:=HO.out q h;omega;have:=h.1;omega)).trans (eQ.block q hq3)⟩
 rcases hq with h| h
 ·exact .inl h
 ·exact .inr ⟨by have:=h.1;omega,by omega⟩
theorem yz{O:Nat->Prop}{w:World}{j:J}{k i:Int}{t:ByteArray}{pk pl:Option Addr}{nk ck nl cl:Nat}(c:∀x,O x->x<w.heap.size)(f:isJ O w j [.int .i64 k,.int .i64 i,.string t,.slice pk nk ck,.slice pl nl cl])(m:szJ 12 j=true)(h:(dX j).keys.length<=80000)(d:lW w):
    Calls Tryz.prog 6 #[.agg #[.int .i64 k,.int .i64 i,.string t,.slice pk nk ck,.slice pl nl cl]] w fun x w'=>(∃p,x=.returned (.tuple #[fA (dz (dX j)).1 p,.int .i64 (dz (dX j)).2])/\mY (fun q=>O q\/ gH w w' q) w' (dz (dX j)).1 p)/\Below w.heap.size w w':=by
 cases hr:fO (dX j)with
 | false=>exact zam c f m h d hr
 | true=>
  by_cases u:dR (bM (dX j))=0
  ·exact zan c f m h d hr u
  ·exact Xw c f m h d hr u
theorem O1{w:World}{p:Option Addr}{c:Nat}{m:List Int}{j:J}{q0:Nat}(mF:Rd w.heap.size w p c m)(hn:m.length<=1000000)(hd:decode m=.ok j q0)(hb:Bytes m)(hk:(dX j).keys.length<=80000)(hT:lW w):
    Calls Tryz.prog 10 #[.slice p m.length c] w fun x w'=>(∃pt,x=.returned (.tuple #[fA (dz (dX j)).1 pt,.int .i64 (dz (dX j)).2])/\mY (gH w w') w' (dz (dX j)).1 pt)/\Below w.heap.size w w':=by
 have vZ:=OV hb hd;obtain⟨WB,u⟩:∃WB,WB=w.alloc (.cells #[.string ⟨#[]⟩,.string ⟨#[]⟩,.string ⟨#[]⟩,.bool false,.string ⟨#[]⟩,.int .i64 0,.int .i64 0,.string ⟨#[]⟩,.slice none 0 0,.slice none 0 0,.slice none 0 0,.slice none 0 0,.int .i64 0,.int .i64 0,.string ⟨#[]⟩,.slice none 0 0] 29):=⟨_,rfl⟩;have dK:Below w.heap.size w WB:=by rw[u];exact(Below.refl _ _).alloc (Nat.le_refl _) _
 have pX:WB.heap[w.heap.size]?=some (.cells #[.string ⟨#[]⟩,.string ⟨#[]⟩,.string ⟨#[]⟩,.bool false,.string ⟨#[]⟩,.int .i64 0,.int .i64 0,.string ⟨#[]⟩,.slice none 0 0,.slice none 0 0,.slice none 0 0,.slice none 0 0,.int .i64 0,.int .i64 0,.string ⟨#[]⟩,.slice none 0 0] 29 (0,0)):=by rw[u];exact heap_alloc_new _ _
 have zca:w.heap.size+1<=WB.heap.size:=by rw[u];simp
 have I:Rd WB.heap.size WB p c m:=⟨mF.1,mF.2.1,fun j hj=>by
  obtain⟨a,e1,e2,e3⟩:=mF.2.2 j hj;exact⟨a,e1,by omega,(World.cell?_of_block (by rw[bu];exact dK.block _ e2)).trans e3⟩⟩
 have f:=M4 I hn;rw[hd]at f;have d:Hid (∀W z k i t pk nk ck pl nl cl,Below WB.heap.size WB W->Below W.heap.size W z->isJ (gH WB W) W j [.int .i64 k,.int .i64 i,.string t,.slice pk nk ck,.slice pl nl cl]->Calls Tryz.prog 6 #[.agg #[.int .i64 k,.int .i64 i,.string t,.slice pk nk ck,.slice pl nl cl]] z fun x w'=>(∃p,x=.returned (.tuple #[fA (dz (dX j)).1 p,.int .i64 (dz (dX j)).2])/\mY (fun q=>gH WB W q\/ gH z w' q) w' (dz (dX j)).1 p)/\Below z.heap.size z w'):=fun W z k i t pk nk ck pl nl cl h1 h2 hj=>
  yz (fun x Z=>Nat.lt_of_lt_of_le Z.2 h2.size) (hj.carry fun x Z=>⟨Z,h2.block x Z.2⟩) vZ.2.2 hk (hT.below (ae dK (ae h1 h2)))
 obtain⟨F,hF⟩:∃F,dz (dX j)=F:=⟨_,rfl⟩;rw[hF]at d ⊢;obtain⟨E1,er⟩:=F;simp only at d ⊢;have oo:Hid (Below w.heap.size w WB):=dK;have QS:Hid (WB=w.alloc (.cells #[.string ⟨#[]⟩,.string ⟨#[]⟩,.string ⟨#[]⟩,.bool false,.string ⟨#[]⟩,.int .i64 0,.int .i64 0,.string ⟨#[]⟩,.slice none 0 0,.slice none 0 0,.slice none 0 0,.slice none 0 0,.int .i64 0,.int .i64 0,.string ⟨#[]⟩,.slice none 0 0] 29)):=u;rw[u]at f;clear hF hd hb hk hT vZ I mF dK u;go_enter Tryz.func10,Tryz.ntmps10;go_wp2_with(first
  | (go_at_call 6;refine hFr.mono ?_;rintro x w4 ⟨⟨p4,rfl,hI4⟩,eQ⟩
     obtain⟨a0,a1,a2,b3,a4,n5,n6,a7,p8,n8,c8,p9,n9,U,qW,rF,jB,qX,X,pY,ov,T,jT,qY,rJ,V,hv⟩:=zm E1 p4;have HV:Hid (fA E1 p4=.agg #[.string a0,.string a1,.string a2,.bool b3,.string a4,.int .i64 n5,.int .i64 n6,.string a7,.slice p8 n8 c8,.slice p9 n9 U,.slice qW rF jB,.slice qX X pY,.int .i64 ov,.int .i64 T,.string jT,.slice qY rJ V]):=hv;rw[hv];clear hv;have yx:=(eQ.block w.heap.size (by simp;omega)).trans ((Below.heap_alloc w1 _ w.heap.size (by omega)).trans ((K.block w.heap.size (by omega)).trans pX));have ic:=pI yx;have zc:=aW yx)
  | (go_at_call 26;refine f.mono ?_;rintro x w1 ⟨⟨k1,i1,t1,H,E,A,G,S,N,rfl,QT⟩,K⟩
     rw[<-QS.out]at K QT;have Qx:=K.size;have hFr:=d.out w1 (w1.alloc (.cells #[.int .i64 k1,.int .i64 i1,.string t1,.slice H E A,.slice G S N] 25)) k1 i1 t1 H E A G S N K ((Below.refl _ _).alloc (Nat.le_refl _) _) QT))
 have iR:=jX yx (.string a0) (.string a1) (.string a2) (.bool b3) (.string a4) (.int .i64 n5) (.int .i64 n6) (.string a7) (.slice p8 n8 c8) (.slice p9 n9 U) (.slice qW rF jB) (.slice qX X pY) (.int .i64 ov) (.int .i64 T) (.string jT) (.slice qY rJ V);have mR:ag (One w.heap.size) _ _:=jY w4 w.heap.size (.string a0) (.string a1) (.string a2) (.bool b3) (.string a4) (.int .i64 n5) (.int .i64 n6) (.string a7) (.slice p8 n8 c8) (.slice p9 n9 U) (.slice qW rF jB) (.slice qX X pY) (.int .i64 ov) (.int .i64 T) (.string jT) (.slice qY rJ V);obtain⟨WE,Y⟩:∃WE,WE=mq w4 w.heap.size (.string a0) (.string a1) (.string a2) (.bool b3) (.string a4) (.int .i64 n5) (.int .i64 n6) (.string a7) (.slice p8 n8 c8) (.slice p9 n9 U) (.slice qW rF jB) (.slice qX X pY) (.int .i64 ov) (.int .i64 T) (.string jT) (.slice qY rJ V):=⟨_,rfl⟩;rw[<-Y]at iR mR;unfold mq at Y;rw[<-Y];clear Y;refine bodyPost_ret (results_cell_tmp rfl _ _ _ rfl (qV iR)) rfl ?_;have IJ:Below w.heap.size w w4:=ae oo.out (ae K (ae ((Below.refl _ _).alloc (Nat.le_refl _) _) eQ));have Uz:=eQ.size;simp at Uz;have hse:=mR.size;have zb:Below w.heap.size w WE:=IJ.trans (mR.below IJ.size fun q hq=>by unfold One;omega);refine⟨⟨p4,by rw[HV.out];rfl,hI4.carry fun q hq=> ?_⟩,zb⟩;have UH:q<w4.heap.size/\WB.heap.size<=q:=by
  rcases hq with h| h
  ·exact⟨by have:=h.2;omega,h.1⟩
  ·exact⟨h.2,by have:=h.1;simp at this;omega⟩
 exact⟨⟨by omega,by omega⟩,mR.block q UH.1 (by unfold One;omega)⟩
theorem jo{fn:Func}{a:Tmp}{t:TypeId}(h:fn.results=#[.cell a t])(tmps:Array Value)(P:Program)(w:World){c:Addr}{v:Value}(d:tmps.getD a undef=.pointer (some c))(f:(loadVar t c).run P w=.ok v w):
    (results fn tmps).run P w=.ok v w:=by
 rw[Array.getD_eq_getD_getElem?]at d;simp[results,h,d,f,asAddr]
theorem O3(w:World):Calls Tryz.prog 25 #[] w fun x w'=>x=.returned (fA gK Pt.zero)/\Below w.heap.size w w':=by
 have c:=heap_alloc_new w (.cells #[.string gD,.string gF,.string dA,.bool false,.string ⟨#[]⟩,.int .i64 5,.int .i64 0,.string ⟨#[]⟩,.slice none 0 0,.slice none 0 0,.slice none 0 0,.slice none 0 0,.int .i64 0,.int .i64 0,.string ⟨#[]⟩,.slice none 0 0] 29);go_enter Tryz.func25,Tryz.ntmps25;go_wp2;refine bodyPost_ret (jo rfl _ _ _ rfl (qV c)) rfl ?_;exact⟨rfl,(Below.refl _ _).alloc (Nat.le_refl _) _⟩
open Go.RowKit
theorem yA(a:Nat)(c:a<18446744073709551616):(BitVec.ofInt 64 (a:Int)).toNat=a:=by
 rw[BitVec.ofInt_natCast,BitVec.toNat_ofNat];exact Nat.mod_eq_of_lt (by omega)
theorem uU(n:Int)(h0:0<=n)(h1:n<9223372036854775808):IntKind.i64.wrap n=n:=by
 simp[IntKind.wrap,IntKind.bits,IntKind.signed];omega
theorem uV(a b:Nat)(c:a<9223372036854775808)(d:b<9223372036854775808):bits .and .i64 (a:Int) (b:Int)=((a&&&b:Nat):Int):=by
 have h1:a&&&b<=a:=Nat.and_le_left
 show IntKind.i64.wrap ((BitVec.ofInt 64 (a:Int)&&&BitVec.ofInt 64 (b:Int)).toNat:Int)=_
 rw[BitVec.toNat_and,yA a (by omega),yA b (by omega)];exact uU _ (by omega) (by omega)
theorem O4(a b:Nat)(c:a<4611686018427387904)(d:b<4611686018427387904):bits .or .i64 (a:Int) (b:Int)=((a ||| b:Nat):Int):=by
 have h1:a ||| b<2 ^ 62:=Nat.or_lt_two_pow (by omega) (by omega)
 show IntKind.i64.wrap ((BitVec.ofInt 64 (a:Int) ||| BitVec.ofInt 64 (b:Int)).toNat:Int)=_
 rw[BitVec.toNat_or,yA a (by omega),yA b (by omega)];exact uU _ (by omega) (by omega)
theorem zcb(c:Int)(h0:0<=c)(h1:c<=255):bits .and .i64 c 31=c % 32:=by
 obtain⟨n,rfl⟩:=Int.eq_ofNat_of_zero_le h0;have:=uV n 31 (by omega) (by omega);rw[show((31:Nat):Int)=31 from rfl]at this;rw[this,show(31:Nat)=2 ^ 5 - 1 from rfl,Nat.and_two_pow_sub_one_eq_mod];omega
theorem zcc(c:Int)(h0:0<=c)(h1:c<=255):bits .and .i64 c 15=c % 16:=by
 obtain⟨n,rfl⟩:=Int.eq_ofNat_of_zero_le h0;have:=uV n 15 (by omega) (by omega);rw[show((15:Nat):Int)=15 from rfl]at this;rw[this,show(15:Nat)=2 ^ 4 - 1 from rfl,Nat.and_two_pow_sub_one_eq_mod];omega
theorem zeo(c:Int)(h0:0<=c)(h1:c<=255):bits .and .i64 c 7=c % 8:=by
 obtain⟨n,rfl⟩:=Int.eq_ofNat_of_zero_le h0;have:=uV n 7 (by omega) (by omega);rw[show((7:Nat):Int)=7 from rfl]at this;rw[this,show(7:Nat)=2 ^ 3 - 1 from rfl,Nat.and_two_pow_sub_one_eq_mod];omega
theorem O6(c:Int)(h0:0<=c)(h1:c<=255):bits .and .u8 c 63=c % 64:=by
 obtain⟨n,rfl⟩:=Int.eq_ofNat_of_zero_le h0;have:=u8_and_nat n 63 (by omega) (by omega);rw[show((63:Nat):Int)=63 from rfl]at this;rw[this,show(63:Nat)=2 ^ 6 - 1 from rfl,Nat.and_two_pow_sub_one_eq_mod];omega
theorem KQ:∀n:Fin 256,(n:Nat)&&&192=(n:Nat) / 64*64:=by decide+kernel
theorem Ij(c:Int)(h0:0<=c)(h1:c<=255):bits .and .u8 c 192=c / 64*64:=by
 obtain⟨n,rfl⟩:=Int.eq_ofNat_of_zero_le h0;have:=u8_and_nat n 192 (by omega) (by omega);rw[show((192:Nat):Int)=192 from rfl]at this;rw[this];have h:=KQ ⟨n,by omega⟩;simp only at h;rw[h];omega
theorem Xx(c x:Int)(h0:0<=c)(h1:c<=1000000)(h2:0<=x)(h3:x<64):bits .or .i64 (c*64) x=c*64+x:=by
 obtain⟨n,rfl⟩:=Int.eq_ofNat_of_zero_le h0;obtain⟨m,rfl⟩:=Int.eq_ofNat_of_zero_le h2;have:=O4 (n*64) m (by omega) (by omega);rw[show((n*64:Nat):Int)=(n:Int)*64 by omega]at this;rw[this];have h:=Nat.two_pow_add_eq_or_of_lt (i:=6) (b:=m) (by omega) n;rw[show n*64=2 ^ 6*n by omega,<-h];omega
theorem KR(s:ByteArray)(p:Nat)(c:p<s.size):((s[p]'c).toNat:Int)=ah (ints s) p:=by
 unfold ah;rw[dS s p c]
theorem ry{b:Int}(h:0<=b/\b<=255):wrap64 b=b:=by
 unfold wrap64;omega
def accU(t:List Int)(p:Nat)(c:Int):Nat->Int
 | 0=>c
 | k+1=>accU t p c k*64+ah t (p+(k+1)) % 64
theorem zz(t:List Int)(p:Nat)(c:Int)(h:0<=c/\c<=31):∀n,n<=3->0<=accU t p c n/\accU t p c n<=32*64 ^ n - 1:=by
 have d:accU t p c 1=c*64+ah t (p+1) % 64:=rfl;have j:accU t p c 2=(c*64+ah t (p+1) % 64)*64+ah t (p+2) % 64:=rfl;have f:accU t p c 3=((c*64+ah t (p+1) % 64)*64+ah t (p+2) % 64)*64+ah t (p+3) % 64:=rfl;intro n k
 match n,k with
 | 0,_=>exact⟨h.1,by show c<=_;omega⟩
 | 1,_=>rw[d];omega
 | 2,_=>rw[j];omega
 | 3,_=>rw[f];omega
def fu(t:List Int)(p:Nat)(many:Nat)(least c:Int):Int×Nat:=
 if(∀k,k<many->dm t (p+(k+1))=true)/\least<=accU t p c many/\dY (accU t p c many)=true then(accU t p c many,many+1)else(0,0)
theorem TS(s:ByteArray)(p:Nat)(w:World)(f:p<s.size)(b:Int)(d:ah (ints s) p=b)(h0:0<=b/\b<=255)(k:b<128):
    Calls Tryz.prog 71 #[.string s,.int .i64 p] w fun x w'=>x=.returned (.tuple #[.int .i64 b,.int .i64 1])/\w=w':=by
 have c:=KR s p f;rw[d]at c;have h:=ry h0;have j:(p:Int)<s.size:=by omega
 go_enter Tryz.func71,Tryz.ntmps71;go_wp2;go_ret2;exact⟨rfl,rfl⟩
theorem TT(s:ByteArray)(p:Nat)(w:World)(h:p<s.size)(b:Int)(f:ah (ints s) p=b)(h0:0<=b/\b<=255)(m:128<=b)(c:b<192\/ 248<=b):
    Calls Tryz.prog 71 #[.string s,.int .i64 p] w fun x w'=>x=.returned (.tuple #[.int .i64 0,.int .i64 0])/\w=w':=by
 have d:=KR s p h;rw[f]at d;have j:=ry h0;have k:(p:Int)<s.size:=by omega
 rcases c with c| c
 ·go_enter Tryz.func71,Tryz.ntmps71;go_wp2;go_ret2;exact⟨rfl,rfl⟩
 ·go_enter Tryz.func71,Tryz.ntmps71;go_wp2;go_ret2;exact⟨rfl,rfl⟩
theorem O7(s:ByteArray)(p:Nat)(w:World)(Y:p<s.size)(hs:s.size<=1000000000)(b:Int)(Z:ah (ints s) p=b)(h0:0<=b/\b<=255)(ZH:192<=b)(hhi:b<224):
    Calls Tryz.prog 71 #[.string s,.int .i64 p] w fun x w'=>x=.returned (.tuple #[.int .i64 (fu (ints s) p 1 128 (b % 32)).1,.int .i64 ((fu (ints s) p 1 128 (b % 32)).2:Nat)])/\w=w':=by
 have e0:=KR s p Y;rw[Z]at e0;have e1:=ry h0;have YK:(p:Int)<s.size:=by omega
 have em:bits .and .i64 b 31=b % 32:=zcb b h0.1 h0.2;have I:∀i,0<=ah (ints s) i/\ah (ints s) i<=255:=j6 s;have HB:Hid (∀i,0<=ah (ints s) i/\ah (ints s) i<=255):=I;clear I;obtain⟨c0,Ux⟩:∃c,b % 32=c:=⟨_,rfl⟩;have N:0<=c0/\c0<=31:=by omega
 rw[Ux]at em ⊢;go_enter Tryz.func71,Tryz.ntmps71;go_wp2
 go_loopw [6,9] (fun c i wr=>∃n:Nat,i=.int .i64 ((n:Int)+1)/\n<=1/\c=.int .i64 (accU (ints s) p c0 n)/\Hid (∀k,k<n->dm (ints s) (p+(k+1))=true)/\wr=w) (fun c i _=>1+1 - (intOf i).toNat)
 case atStart=>exact⟨0,rfl,by omega,rfl,fun k T=>absurd T (by omega),rfl⟩
 case round=>
  obtain⟨n,rfl,hn,rfl,K,rfl⟩:=hrel;have H:=zz (ints s) p c0 N n (by omega);have F:0<=accU (ints s) p c0 n/\accU (ints s) p c0 n<=10000000:=by
   refine⟨H.1, ?_⟩;have:(64:Int) ^ n<=64 ^ 3:=by
    have:=Nat.pow_le_pow_right (n:=64) (by decide) (show n<=3 by omega)
    exact_mod_cast this
   omega
  obtain⟨A,E⟩:∃A,accU (ints s) p c0 n=A:=⟨_,rfl⟩;rw[E]at F ⊢;have f:Hid (accU (ints s) p c0 n=A):=E;clear H E
  by_cases m:n<1
  ·have Xy:A<=131071:=by
     have h1:=zz (ints s) p c0 N n (by omega);rw[f.out]at h1;have:(64:Int) ^ n<=64 ^ 2:=by
      have:=Nat.pow_le_pow_right (n:=64) (by decide) (show n<=2 by omega)
      exact_mod_cast this
     omega
   have hM1:(n:Int)+1<=1:=by omega
   have G:Hid (n<1):=m;clear m
   by_cases V:p+(n+1)<s.size
   ·have X:(p:Int)+((n:Int)+1)<s.size:=by omega
    have e2:=KR s (p+(n+1)) V;obtain⟨b1,u⟩:∃b1,ah (ints s) (p+(n+1))=b1:=⟨_,rfl⟩;have j:=HB.out (p+(n+1));rw[u]at e2 j;have a1:=Ij b1 j.1 j.2;have a2:=O6 b1 j.1 j.2;have a3:=Xx A (b1 % 64) F.1 (by omega) (by omega) (by omega)
    by_cases KS:b1 / 64*64=128
    ·have U:Hid (dm (ints s) (p+(n+1))=true):=by show _=_;unfold dm;rw[u];exact decide_eq_true (by omega)
     go_wp2;go_roundw
     case rel=>
      refine⟨n+1,by go_num,by omega, ?_,fun k T=> ?_,trivial⟩
      ·rw[accU,f.out,u]
      ·rcases Nat.lt_or_ge k n with h| h
       ·exact K.out k h
       ·obtain rfl:k=n:=by omega
        exact U.out
     case measure=>simp[intOf];omega
    ·have d:Hid (fu (ints s) p 1 128 c0=(0,0)):=by
       show _=_
       unfold fu;refine if_neg fun h=> ?_;have:=h.1 n G.out;unfold dm at this;rw[u]at this;have:=of_decide_eq_true this;omega
     have DZ:(b1 / 64*64 !=128)=true:=by simp[KS]
     go_wp2;go_ret2;rw[d.out];exact⟨rfl,rfl⟩
   ·have X:¬((p:Int)+((n:Int)+1)<s.size):=by omega
    have d:Hid (fu (ints s) p 1 128 c0=(0,0)):=by
     show _=_
     unfold fu;refine if_neg fun h=> ?_;have h1:=h.1 n G.out;have h2:ah (ints s) (p+(n+1))=0:=mD s (p+(n+1)) (by omega);unfold dm at h1;rw[h2]at h1;exact absurd (of_decide_eq_true h1) (by decide)
    go_wp2;go_ret2;rw[d.out];exact⟨rfl,rfl⟩
  ·obtain rfl:n=1:=by omega
   have z:=mM A F.1
   by_cases S:128<=A
   ·cases oZ:dY A with
    | true=>
     have d:Hid (fu (ints s) p 1 128 c0=(A,1+1)):=by
      show _=_
      unfold fu;rw[f.out,if_pos ⟨K.out,S,oZ⟩]
     rw[oZ]at z;go_wp2_with(go_at_call 106;refine(z _).mono ?_;rintro x w' ⟨rfl,rfl⟩);go_ret2;rw[d.out];exact⟨rfl,rfl⟩
    | false=>
     have d:Hid (fu (ints s) p 1 128 c0=(0,0)):=by
      show _=_
      unfold fu;rw[f.out,if_neg (fun h=>by rw[oZ]at h;cases h.2.2)]
     rw[oZ]at z;go_wp2_with(go_at_call 106;refine(z _).mono ?_;rintro x w' ⟨rfl,rfl⟩);go_ret2;rw[d.out];exact⟨rfl,rfl⟩
   ·have d:Hid (fu (ints s) p 1 128 c0=(0,0)):=by
      show _=_
      unfold fu;rw[f.out,if_neg (fun h=>S h.2.1)]
    go_wp2;go_ret2;rw[d.out];exact⟨rfl,rfl⟩
theorem O8(s:ByteArray)(p:Nat)(w:World)(Y:p<s.size)(hs:s.size<=1000000000)(b:Int)(Z:ah (ints s) p=b)(h0:0<=b/\b<=255)(ZH:224<=b)(hhi:b<240):
    Calls Tryz.prog 71 #[.string s,.int .i64 p] w fun x w'=>x=.returned (.tuple #[.int .i64 (fu (ints s) p 2 2048 (b % 16)).1,.int .i64 ((fu (ints s) p 2 2048 (b % 16)).2:Nat)])/\w=w':=by
 have e0:=KR s p Y;rw[Z]at e0;have e1:=ry h0;have YK:(p:Int)<s.size:=by omega
 have em:bits .and .i64 b 15=b % 16:=zcc b h0.1 h0.2;have I:∀i,0<=ah (ints s) i/\ah (ints s) i<=255:=j6 s;have HB:Hid (∀i,0<=ah (ints s) i/\ah (ints s) i<=255):=I;clear I;obtain⟨c0,Ux⟩:∃c,b % 16=c:=⟨_,rfl⟩;have N:0<=c0/\c0<=31:=by omega
 rw[Ux]at em ⊢;go_enter Tryz.func71,Tryz.ntmps71;go_wp2
 go_loopw [6,9] (fun c i wr=>∃n:Nat,i=.int .i64 ((n:Int)+1)/\n<=2/\c=.int .i64 (accU (ints s) p c0 n)/\Hid (∀k,k<n->dm (ints s) (p+(k+1))=true)/\wr=w) (fun c i _=>2+1 - (intOf i).toNat)
 case atStart=>exact⟨0,rfl,by omega,rfl,fun k T=>absurd T (by omega),rfl⟩
 case round=>
  obtain⟨n,rfl,hn,rfl,K,rfl⟩:=hrel;have H:=zz (ints s) p c0 N n (by omega);have F:0<=accU (ints s) p c0 n/\accU (ints s) p c0 n<=10000000:=by
   refine⟨H.1, ?_⟩;have:(64:Int) ^ n<=64 ^ 3:=by
    have:=Nat.pow_le_pow_right (n:=64) (by decide) (show n<=3 by omega)
    exact_mod_cast this
   omega
  obtain⟨A,E⟩:∃A,accU (ints s) p c0 n=A:=⟨_,rfl⟩;rw[E]at F ⊢;have f:Hid (accU (ints s) p c0 n=A):=E;clear H E
  by_cases m:n<2
  ·have Xy:A<=131071:=by
     have h1:=zz (ints s) p c0 N n (by omega);rw[f.out]at h1;have:(64:Int) ^ n<=64 ^ 2:=by
      have:=Nat.pow_le_pow_right (n:=64) (by decide) (show n<=2 by omega)
      exact_mod_cast this
     omega
   have hM1:(n:Int)+1<=2:=by omega
   have G:Hid (n<2):=m;clear m
   by_cases V:p+(n+1)<s.size
   ·have X:(p:Int)+((n:Int)+1)<s.size:=by omega
    have e2:=KR s (p+(n+1)) V;obtain⟨b1,u⟩:∃b1,ah (ints s) (p+(n+1))=b1:=⟨_,rfl⟩;have j:=HB.out (p+(n+1));rw[u]at e2 j;have a1:=Ij b1 j.1 j.2;have a2:=O6 b1 j.1 j.2;have a3:=Xx A (b1 % 64) F.1 (by omega) (by omega) (by omega)
    by_cases KS:b1 / 64*64=128
    ·have U:Hid (dm (ints s) (p+(n+1))=true):=by show _=_;unfold dm;rw[u];exact decide_eq_true (by omega)
     go_wp2;go_roundw
     case rel=>
      refine⟨n+1,by go_num,by omega, ?_,fun k T=> ?_,trivial⟩
      ·rw[accU,f.out,u]
      ·rcases Nat.lt_or_ge k n with h| h
       ·exact K.out k h
       ·obtain rfl:k=n:=by omega
        exact U.out
     case measure=>simp[intOf];omega
    ·have d:Hid (fu (ints s) p 2 2048 c0=(0,0)):=by
       show _=_
       unfold fu;refine if_neg fun h=> ?_;have:=h.1 n G.out;unfold dm at this;rw[u]at this;have:=of_decide_eq_true this;omega
     have DZ:(b1 / 64*64 !=128)=true:=by simp[KS]
     go_wp2;go_ret2;rw[d.out];exact⟨rfl,rfl⟩
   ·have X:¬((p:Int)+((n:Int)+1)<s.size):=by omega
    have d:Hid (fu (ints s) p 2 2048 c0=(0,0)):=by
     show _=_
     unfold fu;refine if_neg fun h=> ?_;have h1:=h.1 n G.out;have h2:ah (ints s) (p+(n+1))=0:=mD s (p+(n+1)) (by omega);unfold dm at h1;rw[h2]at h1;exact absurd (of_decide_eq_true h1) (by decide)
    go_wp2;go_ret2;rw[d.out];exact⟨rfl,rfl⟩
  ·obtain rfl:n=2:=by omega
   have z:=mM A F.1
   by_cases S:2048<=A
   ·cases oZ:dY A with
    | true=>
     have d:Hid (fu (ints s) p 2 2048 c0=(A,2+1)):=by
      show _=_
      unfold fu;rw[f.out,if_pos ⟨K.out,S,oZ⟩]
     rw[oZ]at z;go_wp2_with(go_at_call 106;refine(z _).mono ?_;rintro x w' ⟨rfl,rfl⟩);go_ret2;rw[d.out];exact⟨rfl,rfl⟩
    | false=>
     have d:Hid (fu (ints s) p 2 2048 c0=(0,0)):=by
      show _=_
      unfold fu;rw[f.out,if_neg (fun h=>by rw[oZ]at h;cases h.2.2)]
     rw[oZ]at z;go_wp2_with(go_at_call 106;refine(z _).mono ?_;rintro x w' ⟨rfl,rfl⟩);go_ret2;rw[d.out];exact⟨rfl,rfl⟩
   ·have d:Hid (fu (ints s) p 2 2048 c0=(0,0)):=by
      show _=_
      unfold fu;rw[f.out,if_neg (fun h=>S h.2.1)]
    go_wp2;go_ret2;rw[d.out];exact⟨rfl,rfl⟩
theorem O9(s:ByteArray)(p:Nat)(w:World)(Y:p<s.size)(hs:s.size<=1000000000)(b:Int)(Z:ah (ints s) p=b)(h0:0<=b/\b<=255)(ZH:240<=b)(hhi:b<248):
    Calls Tryz.prog 71 #[.string s,.int .i64 p] w fun x w'=>x=.returned (.tuple #[.int .i64 (fu (ints s) p 3 65536 (b % 8)).1,.int .i64 ((fu (ints s) p 3 65536 (b % 8)).2:Nat)])/\w=w':=by
 have e0:=KR s p Y;rw[Z]at e0;have e1:=ry h0;have YK:(p:Int)<s.size:=by omega
 have em:bits .and .i64 b 7=b % 8:=zeo b h0.1 h0.2;have I:∀i,0<=ah (ints s) i/\ah (ints s) i<=255:=j6 s;have HB:Hid (∀i,0<=ah (ints s) i/\ah (ints s) i<=255):=I;clear I;obtain⟨c0,Ux⟩:∃c,b % 8=c:=⟨_,rfl⟩;have N:0<=c0/\c0<=31:=by omega
 rw[Ux]at em ⊢;go_enter Tryz.func71,Tryz.ntmps71;go_wp2
 go_loopw [6,9] (fun c i wr=>∃n:Nat,i=.int .i64 ((n:Int)+1)/\n<=3/\c=.int .i64 (accU (ints s) p c0 n)/\Hid (∀k,k<n->dm (ints s) (p+(k+1))=true)/\wr=w) (fun c i _=>3+1 - (intOf i).toNat)
 case atStart=>exact⟨0,rfl,by omega,rfl,fun k T=>absurd T (by omega),rfl⟩
 case round=>
  obtain⟨n,rfl,hn,rfl,K,rfl⟩:=hrel;have H:=zz (ints s) p c0 N n (by omega);have F:0<=accU (ints s) p c0 n/\accU (ints s) p c0 n<=10000000:=by
   refine⟨H.1, ?_⟩;have:(64:Int) ^ n<=64 ^ 3:=by
    have:=Nat.pow_le_pow_right (n:=64) (by decide) (show n<=3 by omega)
    exact_mod_cast this
   omega
  obtain⟨A,E⟩:∃A,accU (ints s) p c0 n=A:=⟨_,rfl⟩;rw[E]at F ⊢;have f:Hid (accU (ints s) p c0 n=A):=E;clear H E
  by_cases m:n<3
  ·have Xy:A<=131071:=by
     have h1:=zz (ints s) p c0 N n (by omega);rw[f.out]at h1;have:(64:Int) ^ n<=64 ^ 2:=by
      have:=Nat.pow_le_pow_right (n:=64) (by decide) (show n<=2 by omega)
      exact_mod_cast this
     omega
   have hM1:(n:Int)+1<=3:=by omega
   have G:Hid (n<3):=m;clear m
   by_cases V:p+(n+1)<s.size
   ·have X:(p:Int)+((n:Int)+1)<s.size:=by omega
    have e2:=KR s (p+(n+1)) V;obtain⟨b1,u⟩:∃b1,ah (ints s) (p+(n+1))=b1:=⟨_,rfl⟩;have j:=HB.out (p+(n+1));rw[u]at e2 j;have a1:=Ij b1 j.1 j.2;have a2:=O6 b1 j.1 j.2;have a3:=Xx A (b1 % 64) F.1 (by omega) (by omega) (by omega)
    by_cases KS:b1 / 64*64=128
    ·have U:Hid (dm (ints s) (p+(n+1))=true):=by show _=_;unfold dm;rw[u];exact decide_eq_true (by omega)
     go_wp2;go_roundw
     case rel=>
      refine⟨n+1,by go_num,by omega, ?_,fun k T=> ?_,trivial⟩
      ·rw[accU,f.out,u]
      ·rcases Nat.lt_or_ge k n with h| h
       ·exact K.out k h
       ·obtain rfl:k=n:=by omega
        exact U.out
     case measure=>simp[intOf];omega
    ·have d:Hid (fu (ints s) p 3 65536 c0=(0,0)):=by
       show _=_
       unfold fu;refine if_neg fun h=> ?_;have:=h.1 n G.out;unfold dm at this;rw[u]at this;have:=of_decide_eq_true this;omega
     have DZ:(b1 / 64*64 !=128)=true:=by simp[KS]
     go_wp2;go_ret2;rw[d.out];exact⟨rfl,rfl⟩
   ·have X:¬((p:Int)+((n:Int)+1)<s.size):=by omega
    have d:Hid (fu (ints s) p 3 65536 c0=(0,0)):=by
     show _=_
     unfold fu;refine if_neg fun h=> ?_;have h1:=h.1 n G.out;have h2:ah (ints s) (p+(n+1))=0:=mD s (p+(n+1)) (by omega);unfold dm at h1;rw[h2]at h1;exact absurd (of_decide_eq_true h1) (by decide)
    go_wp2;go_ret2;rw[d.out];exact⟨rfl,rfl⟩
  ·obtain rfl:n=3:=by omega
   have z:=mM A F.1
   by_cases S:65536<=A
   ·cases oZ:dY A with
    | true=>
     have d:Hid (fu (ints s) p 3 65536 c0=(A,3+1)):=by
      show _=_
      unfold fu;rw[f.out,if_pos ⟨K.out,S,oZ⟩]
     rw[oZ]at z;go_wp2_with(go_at_call 106;refine(z _).mono ?_;rintro x w' ⟨rfl,rfl⟩);go_ret2;rw[d.out];exact⟨rfl,rfl⟩
    | false=>
     have d:Hid (fu (ints s) p 3 65536 c0=(0,0)):=by
      show _=_
      unfold fu;rw[f.out,if_neg (fun h=>by rw[oZ]at h;cases h.2.2)]
     rw[oZ]at z;go_wp2_with(go_at_call 106;refine(z _).mono ?_;rintro x w' ⟨rfl,rfl⟩);go_ret2;rw[d.out];exact⟨rfl,rfl⟩
   ·have d:Hid (fu (ints s) p 3 65536 c0=(0,0)):=by
      show _=_
      unfold fu;rw[f.out,if_neg (fun h=>S h.2.1)]
    go_wp2;go_ret2;rw[d.out];exact⟨rfl,rfl⟩
theorem zao{t:List Int}{p:Nat}(f:∀i,0<=ah t i/\ah t i<=255)(h1:192<=ah t p)(h2:ah t p<224):bJ t p=fu t p 1 128 (ah t p % 32):=by
 have d:accU t p (ah t p % 32) 1=ah t p % 32*64+ah t (p+1) % 64:=rfl;have j:=f (p+1);unfold bJ fu;rw[d,if_neg (by omega)]
 by_cases c1:dm t (p+1)=true
 ·rw[if_pos (by rw[c1,decide_eq_true (show ah t p / 32=6 by omega)];rfl)]
  split
  ·rename_i hl;have c:dY (ah t p % 32*64+ah t (p+1) % 64)=true:=by
    unfold dY;simp only[Bool.and_eq_true,Bool.or_eq_true,decide_eq_true_eq];omega
   rw[if_pos ⟨fun k m=>(by obtain rfl:k=0:=(by omega);exact c1),hl,c⟩]
  ·rename_i hl;rw[if_neg fun h=>hl h.2.1]
 ·rw[if_neg (fun h=>c1 (Bool.and_eq_true _ _ ▸ h:_/\_).2),decide_eq_false (show¬ah t p / 16=14 by omega),decide_eq_false (show¬ah t p / 8=30 by omega)];rw[if_neg (by simp),if_neg (by simp),if_neg fun h=>c1 (h.1 0 (by omega))]
theorem zaq{t:List Int}{p:Nat}(h1:224<=ah t p)(h2:ah t p<240):bJ t p=fu t p 2 2048 (ah t p % 16):=by
 have d:accU t p (ah t p % 16) 2=ah t p % 16*4096+ah t (p+1) % 64*64+ah t (p+2) % 64:=by
  show(ah t p % 16*64+ah t (p+1) % 64)*64+ah t (p+2) % 64=_
  omega
 unfold bJ fu;rw[d,if_neg (by omega),decide_eq_false (show¬ah t p / 32=6 by omega),decide_eq_true (show ah t p / 16=14 by omega),decide_eq_false (show¬ah t p / 8=30 by omega),if_neg (by simp)];generalize ah t p % 16*4096+ah t (p+1) % 64*64+ah t (p+2) % 64=A
 by_cases c1:dm t (p+1)=true/\dm t (p+2)=true
 ·rw[if_pos (by rw[c1.1,c1.2];rfl)]
  by_cases c:2048<=A/\dY A=true
  ·rw[if_pos (by rw[c.2,decide_eq_true c.1];rfl),if_pos ⟨fun k f=>by
     match k,f with
     | 0,_=>exact c1.1
     | 1,_=>exact c1.2,c.1,c.2⟩]
  ·rw[if_neg (fun h=>c (by simpa using h)),if_neg fun h=>c h.2]
 ·rw[if_neg (fun h=>c1 (by simpa using h)),if_neg (by simp),if_neg fun h=>c1 ⟨h.1 0 (by omega),h.1 1 (by omega)⟩]
theorem zar{t:List Int}{p:Nat}(h1:240<=ah t p)(h2:ah t p<248):bJ t p=fu t p 3 65536 (ah t p % 8):=by
 have d:accU t p (ah t p % 8) 3=ah t p % 8*262144+ah t (p+1) % 64*4096+ah t (p+2) % 64*64+ah t (p+3) % 64:=by
  show((ah t p % 8*64+ah t (p+1) % 64)*64+ah t (p+2) % 64)*64+ah t (p+3) % 64=_
  omega
 unfold bJ fu;rw[d,if_neg (by omega),decide_eq_false (show¬ah t p / 32=6 by omega),decide_eq_false (show¬ah t p / 16=14 by omega),decide_eq_true (show ah t p / 8=30 by omega),if_neg (by simp),if_neg (by simp)];generalize ah t p % 8*262144+ah t (p+1) % 64*4096+ah t (p+2) % 64*64+ah t (p+3) % 64=A
 by_cases c1:dm t (p+1)=true/\dm t (p+2)=true/\dm t (p+3)=true
 ·rw[if_pos (by rw[c1.1,c1.2.1,c1.2.2];rfl)]
  by_cases c:65536<=A/\dY A=true
  ·rw[if_pos (by rw[c.2,decide_eq_true c.1];rfl),if_pos ⟨fun k f=>by
     match k,f with
     | 0,_=>exact c1.1
     | 1,_=>exact c1.2.1
     | 2,_=>exact c1.2.2,c.1,c.2⟩]
  ·rw[if_neg (fun h=>c (by simpa using h)),if_neg fun h=>c h.2]
 ·rw[if_neg (fun h=>c1 (by simp at h;exact⟨h.1.1,h.1.2,h.2⟩)),if_neg fun h=>c1 ⟨h.1 0 (by omega),h.1 1 (by omega),h.1 2 (by omega)⟩]
theorem TU{t:List Int}{p:Nat}(h1:128<=ah t p)(h2:ah t p<192\/ 248<=ah t p):bJ t p=(0,0):=by
 unfold bJ;rw[if_neg (by omega),decide_eq_false (show¬ah t p / 32=6 by omega),decide_eq_false (show¬ah t p / 16=14 by omega),decide_eq_false (show¬ah t p / 8=30 by omega),if_neg (by simp),if_neg (by simp),if_neg (by simp)]
theorem XA:Runes:=fun s p w c d=>by
 have f:=j6 s;have h0:=f p
 by_cases c1:ah (ints s) p<128
 ·have e:bJ (ints s) p=(ah (ints s) p,1):=by unfold bJ;rw[if_pos c1]
  rw[e];exact TS s p w c _ rfl h0 c1
 by_cases c2:ah (ints s) p<192\/ 248<=ah (ints s) p
 ·rw[TU (by omega) c2];exact TT s p w c _ rfl h0 (by omega) c2
 by_cases c3:ah (ints s) p<224
 ·rw[zao f (by omega) c3];exact O7 s p w c d _ rfl h0 (by omega) c3
 by_cases c4:ah (ints s) p<240
 ·rw[zaq (by omega) c4];exact O8 s p w c d _ rfl h0 (by omega) c4
 ·rw[zar (by omega) (by omega)];exact O9 s p w c d _ rfl h0 (by omega) (by omega)
theorem XB{ks:List ByteArray}(h1:∀m,m<ks.length->letters (aM ks m)=true)(h2:∀b,b<ks.length->∀a,a<b->aM ks a≠aM ks b):iE ks=true:=by
 unfold iE;rw[Bool.and_eq_true]
 constructor
 ·rw[List.all_eq_true];intro x f;obtain⟨n,d,rfl⟩:=List.getElem_of_mem f;rw[<-fQ d];exact h1 n d
 ·apply gU
  rw[List.pairwise_iff_getElem];intro a b h c j;rw[<-fQ h,<-fQ c];exact h2 b c a j
theorem O_{ks:List ByteArray}{m:Nat}(c:m<ks.length)(h:letters (aM ks m)=false):iE ks=false:=by
 cases hg:iE ks with
 | false=>rfl
 | true=>
  unfold iE at hg;rw[Bool.and_eq_true,List.all_eq_true]at hg;rw[fQ c,hg.1 _ (List.getElem_mem c)]at h
  cases h
theorem Pb{ks:List ByteArray}{a b:Nat}(c:b<ks.length)(f:a<b)(h:aM ks b=aM ks a):iE ks=false:=by
 cases hg:iE ks with
 | false=>rfl
 | true=>
  unfold iE at hg;rw[Bool.and_eq_true]at hg;have d:=List.pairwise_iff_getElem.1 (iD hg.2) a b (by omega) c f;rw[<-fQ (by omega),<-fQ c]at d;exact absurd h.symm d
theorem jE{s:ByteArray}:(letters s=true->FB (iB (ints s))= -1)/\(letters s=false->∃p:Nat,FB (iB (ints s))=p):=by
 unfold letters
 cases iB (ints s)with
 | none=>exact⟨fun _=>rfl,fun h=>(by cases h)⟩
 | some p=>exact⟨fun h=>(by cases h),fun _=>⟨p,rfl⟩⟩
theorem TV{O:Nat->Prop}{ks:List ByteArray}{p:Option Addr}{c:Nat}{w:World}(mF:j5 O w p c ks)(hO:∀k,O k->k<w.heap.size)(hl:ks.length<=100000)(Et:∀k∈ks,k.size<=1000000000):
    Calls Tryz.prog 113 #[.slice p ks.length c] w fun x w'=>x=.returned (.bool (iE ks))/\Below w.heap.size w w':=by
 obtain⟨n,hn⟩:∃n,ks.length=n:=⟨_,rfl⟩;have U:Hid (ks.length=n):=hn;have Zj:=mF.1;rw[hn]at hl Zj ⊢;clear hn;go_enter Tryz.func113,Tryz.ntmps113;go_wp2
 go_loopw [3] (fun v wr=>∃m:Nat,v=.int .i64 m/\m<=n/\Hid ((∀x,x<m->letters (aM ks x)=true)/\∀b,b<m->∀a,a<b->aM ks a≠aM ks b)/\Below w.heap.size w wr) (fun v _=>n - (intOf v).toNat)
 case atStart=>exact⟨0,rfl,Nat.zero_le _,⟨fun x f=>absurd f (by omega),fun x f=>absurd f (by omega)⟩,Below.refl _ _⟩
 case round=>
  obtain⟨m,rfl,hm,HI,X⟩:=hrel
  by_cases Y:m<n
  ·have oH:(m:Int)<(n:Int):=by omega
   have S:m<ks.length:=by rw[U.out];exact Y
   have I:Hid (m<ks.length):=S;obtain⟨ka,Ct,xf,KN⟩:=mF.2 m S;subst Ct;have T:wr.cell? (ka.add m)=some (.string (aM ks m)):=(World.cell?_of_block (by rw[bu];exact X.block _ (hO _ xf))).trans KN;have V:Hid (∀x,x<n->∀W:World,Below w.heap.size w W->W.cell? (ka.add x)=some (.string (aM ks x))):=fun x f W hW=>by
    obtain⟨a',Qt,VN,hc'⟩:=mF.2 x (by rw[U.out];exact f)
    cases Qt
    exact(World.cell?_of_block (by rw[bu];exact hW.block _ (hO _ VN))).trans hc'
   have hz:(aM ks m).size<=1000000000:=by rw[fQ S];exact Et _ (List.getElem_mem S)
   have G:=G_ XA (aM ks m) wr hz;obtain⟨u,hu⟩:∃u,aM ks m=u:=⟨_,rfl⟩;have H:Hid (aM ks m=u):=hu;rw[hu]at T G;clear hu KN S hz
   cases hlu:letters u with
   | false=>
    obtain⟨bp,hbp⟩:=jE.2 hlu;rw[hbp]at G;have K:Hid (iE ks=false):=O_ I.out (by rw[H.out];exact hlu);go_wp2_with(go_at_call 30;refine G.mono ?_;rintro x w' ⟨rfl,rfl⟩);go_ret;exact⟨ak K.out.symm,X⟩
   | true=>
    rw[jE.1 hlu]at G;have HLU:Hid (letters u=true):=hlu;clear hlu;go_wp2_with(go_at_call 30;refine G.mono ?_;rintro x w' ⟨rfl,rfl⟩);clear G T
    go_loopw [4] (fun v w2=>∃a:Nat,v=.int .i64 a/\a<=m/\Hid (∀x,x<a->aM ks x≠u)/\Below w.heap.size w w2) (fun v _=>m - (intOf v).toNat)
    case atStart=>exact⟨0,rfl,Nat.zero_le _,fun x f=>absurd f (by omega),X⟩
    case round=>
     obtain⟨a,rfl,ha,HD,F⟩:=hrel
     by_cases N:a<m
     ·have Sr:(a:Int)<(m:Int):=by omega
      have han:(a:Int)<(n:Int):=by omega
      obtain⟨v,hv⟩:∃v,aM ks a=v:=⟨_,rfl⟩;have HV:Hid (aM ks a=v):=hv;clear hv;have Z:Below w.heap.size w wr.drew:=⟨F.os,F.tape,F.output,F.size,F.block⟩
      by_cases j:u=v
      ·have heq:(u.toList==v.toList)=true:=by rw[j];simp
       have K:Hid (iE ks=false):=Pb (a:=a) I.out N (by rw[H.out,HV.out,j]);go_wp2;refine aD (by kernel_rfl) (fun W=>Below w.heap.size w W) ?_;change wpIn _ _ _ _ _ _ _ _ (World.drew _);refine aa (i:=0) (d:=some 22) rfl ?_;refine aa (i:=1) (d:=some 23) rfl ?_;refine aa (i:=2) (d:=some 24) rfl ?_;refine aC (i:=3) (d:=some 25) rfl (by(intro z E;have A:=V.out m Y z E;rw[H.out]at A;go_simp;first| done| with_reducible rfl)) ?_;refine aa (i:=4) (d:=some 26) rfl ?_;refine aa (i:=5) (d:=some 27) rfl ?_;refine aa (i:=6) (d:=some 28) rfl ?_;refine aC (i:=7) (d:=some 29) rfl (by(intro z E;have A:=V.out a (by omega) z E;rw[HV.out]at A;go_simp;first| done| with_reducible rfl)) ?_;refine aa (i:=8) (d:=some 30) rfl ?_;refine aB Z (by kernel_rfl) ?_ _;go_wp2;go_ret;exact⟨ak K.out.symm,Z⟩
      ·have heq:(u.toList==v.toList)=false:=by rw[beq_eq_false_iff_ne];intro e;exact j (toList_inj e)
       go_wp2;refine aD (by kernel_rfl) (fun W=>Below w.heap.size w W) ?_;change wpIn _ _ _ _ _ _ _ _ (World.drew _);refine aa (i:=0) (d:=some 22) rfl ?_;refine aa (i:=1) (d:=some 23) rfl ?_;refine aa (i:=2) (d:=some 24) rfl ?_;refine aC (i:=3) (d:=some 25) rfl (by(intro z E;have A:=V.out m Y z E;rw[H.out]at A;go_simp;first| done| with_reducible rfl)) ?_;refine aa (i:=4) (d:=some 26) rfl ?_;refine aa (i:=5) (d:=some 27) rfl ?_;refine aa (i:=6) (d:=some 28) rfl ?_;refine aC (i:=7) (d:=some 29) rfl (by(intro z E;have A:=V.out a (by omega) z E;rw[HV.out]at A;go_simp;first| done| with_reducible rfl)) ?_;refine aa (i:=8) (d:=some 30) rfl ?_;refine aB Z (by kernel_rfl) ?_ _;go_wp2;go_roundw
       case rel=>exact⟨a+1,by go_num,N,fun x f=>(Nat.lt_succ_iff_lt_or_eq.1 f).elim (HD.out x) fun e=>by rw[e,HV.out];exact fun e'=>j e'.symm,Z⟩
       case measure=>simp[intOf];omega
     ·obtain rfl:a=m:=by omega
      go_wp2;go_roundw
      case rel=>
       refine⟨a+1,by go_num,Y,⟨fun x f=> ?_,fun b hb x f=> ?_⟩,F⟩
       ·rcases Nat.lt_succ_iff_lt_or_eq.1 f with h| h
        ·exact HI.out.1 x h
        ·rw[h,H.out];exact HLU.out
       ·rcases Nat.lt_succ_iff_lt_or_eq.1 hb with h| h
        ·exact HI.out.2 b h x f
        ·rw[h,H.out];exact HD.out x (by omega)
      case measure=>simp[intOf];omega
  ·obtain rfl:m=n:=by omega
   have K:Hid (iE ks=true):=XB (fun x f=>HI.out.1 x (by rw[<-U.out];exact f)) (fun b hb=>HI.out.2 b (by rw[<-U.out];exact hb));go_wp2;go_ret;exact⟨ak K.out.symm,X⟩
def bF(k i:Int)(t:ByteArray)(ks:List ByteArray)(nl:Nat):Bool:=bT k i t ks.length nl&&
    (if k=0 then true
     else if k=1 then decide (i=0) || decide (i=1)
     else if k=2 then decide (-bI<=i)&&decide (i<=bI)
     else if k=3 then letters t
     else if k=4 then true
     else if k=5 then decide (ks.length=nl)&&iE ks
     else false)
theorem xt(d:Nat)(k i:Int)(t:ByteArray)(ks:List ByteArray)(l:List J):goodJ (d+1) (.mk k i t ks l)=(bF k i t ks l.length&&l.all (goodJ d)):=by
 rw[goodJ,GZ];unfold bF iE
 cases hb:bT k i t ks.length l.length with
 | false=>rfl
 | true=>
  have j:k≠4->k≠5->l= []:=fun h4 h5=>by
   unfold bT at hb;simp only[Bool.and_eq_true,Bool.or_eq_true,decide_eq_true_eq]at hb;exact List.eq_nil_of_length_eq_zero (by omega)
  simp only[Bool.true_and]
  by_cases c:k=0
  ·rw[if_pos c,if_pos c,j (by omega) (by omega)];rfl
  rw[if_neg c,if_neg c]
  by_cases f:k=1
  ·rw[if_pos f,if_pos f,j (by omega) (by omega)];simp
  rw[if_neg f,if_neg f]
  by_cases m:k=2
  ·rw[if_pos m,if_pos m,j (by omega) (by omega)];simp
  rw[if_neg m,if_neg m]
  by_cases h:k=3
  ·rw[if_pos h,if_pos h,j (by omega) (by omega)];simp
  rw[if_neg h,if_neg h]
  by_cases x:k=4
  ·rw[if_pos x,if_pos x];rfl
  rw[if_neg x,if_neg x]
  by_cases u:k=5
  ·rw[if_pos u,if_pos u]
  ·rw[if_neg u,if_neg u];rfl
theorem TW{O:Nat->Prop}{w:World}(k i:Int)(t:ByteArray)(ks:List ByteArray)(pk pl:Option Addr)(nk ck nl cl:Nat)(G:ks.length=nk)(T:j5 O w pk ck ks)(S:∀k,O k->k<w.heap.size)(hl:nk<=100000)(rM:nl<=100000)(X:∀k∈ks,k.size<=1000000000)(I:t.size<=1000000000):
    Calls Tryz.prog 82 #[.agg #[.int .i64 k,.int .i64 i,.string t,.slice pk nk ck,.slice pl nl cl]] w fun x w'=>x=.returned (.bool (bF k i t ks nl))/\Below w.heap.size w w':=by
 have h:=Qf (t:=t);have U:Below w.heap.size w (w.alloc (.cells #[.int .i64 k,.int .i64 i,.string t,.slice pk nk ck,.slice pl nl cl] 25)):=(Below.refl _ _).alloc (Nat.le_refl _) _;have V:=TV (w:=w.alloc (.cells #[.int .i64 k,.int .i64 i,.string t,.slice pk nk ck,.slice pl nl cl] 25)) (T.carry fun b A=>⟨A,U.block b (S b A)⟩) (fun b A=>Nat.lt_of_lt_of_le (S b A) U.size) (by rw[G];exact hl) X;rw[G]at V;have d:Hid (ks.length=nk):=G;have F:=G_ XA t (w.alloc (.cells #[.int .i64 k,.int .i64 i,.string t,.slice pk nk ck,.slice pl nl cl] 25)) I;clear G T X
 by_cases yK:k=0
 ·skip
  subst yK
  by_cases m:nk+nl=0
  ·skip
   obtain rfl:nk=0:=by omega
   obtain rfl:nl=0:=by omega
   by_cases j:i=0
   ·skip
    subst j
    by_cases f:t.size=0
    ·skip
     rw[decide_eq_true f]at h;have c:Hid (bF 0 0 t ks 0=true):=by show _=_;unfold bF bT;rw[d.out];simp[*]
     go_enter Tryz.func82,Tryz.ntmps82;go_wp2;go_ret;refine⟨ak ?_, ?_⟩
     ·first| exact c.out.symm| (rw[c.out];simp;omega)
     ·exact(Below.refl _ _).alloc (Nat.le_refl _) _
    ·skip
     rw[decide_eq_false f]at h;have c:Hid (bF 0 0 t ks 0=false):=by show _=_;unfold bF bT;rw[d.out];simp[*]
     go_enter Tryz.func82,Tryz.ntmps82;go_wp2;go_ret;refine⟨ak ?_, ?_⟩
     ·first| exact c.out.symm| (rw[c.out];simp;omega)
     ·exact(Below.refl _ _).alloc (Nat.le_refl _) _
   ·skip
    have c:Hid (bF 0 i t ks 0=false):=by show _=_;unfold bF bT;rw[d.out];simp[*]
    go_enter Tryz.func82,Tryz.ntmps82;go_wp2;go_ret;refine⟨ak ?_, ?_⟩
    ·first| exact c.out.symm| (rw[c.out];simp;omega)
    ·exact(Below.refl _ _).alloc (Nat.le_refl _) _
  ·skip
   have E:0<nk+nl:=by omega
   have c:Hid (bF 0 i t ks nl=false):=by show _=_;unfold bF bT;rw[d.out];(by_cases z:nk=0<;>by_cases u:nl=0<;>first| (exfalso;omega)| simp[z,u])
   go_enter Tryz.func82,Tryz.ntmps82;go_wp2;go_ret;refine⟨ak ?_, ?_⟩
   ·first| exact c.out.symm| (rw[c.out];simp;omega)
   ·exact(Below.refl _ _).alloc (Nat.le_refl _) _
 ·skip
  by_cases Y:k=1
  ·skip
   subst Y
   by_cases m:nk+nl=0
   ·skip
    obtain rfl:nk=0:=by omega
    obtain rfl:nl=0:=by omega
    by_cases j:i=0
    ·skip
     subst j
     by_cases f:t.size=0
     ·skip
      rw[decide_eq_true f]at h;have c:Hid (bF 1 0 t ks 0=true):=by show _=_;unfold bF bT;rw[d.out];simp[*]
      go_enter Tryz.func82,Tryz.ntmps82;go_wp2;go_ret;refine⟨ak ?_, ?_⟩
      ·first| exact c.out.symm| (rw[c.out];simp;omega)
      ·exact(Below.refl _ _).alloc (Nat.le_refl _) _
     ·skip
      rw[decide_eq_false f]at h;have c:Hid (bF 1 0 t ks 0=false):=by show _=_;unfold bF bT;rw[d.out];simp[*]
      go_enter Tryz.func82,Tryz.ntmps82;go_wp2;go_ret;refine⟨ak ?_, ?_⟩
      ·first| exact c.out.symm| (rw[c.out];simp;omega)
      ·exact(Below.refl _ _).alloc (Nat.le_refl _) _
    ·skip
     by_cases H:i=1
     ·skip
      subst H
      by_cases f:t.size=0
      ·skip
       rw[decide_eq_true f]at h;have c:Hid (bF 1 1 t ks 0=true):=by show _=_;unfold bF bT;rw[d.out];simp[*]
       go_enter Tryz.func82,Tryz.ntmps82;go_wp2;go_ret;refine⟨ak ?_, ?_⟩
       ·first| exact c.out.symm| (rw[c.out];simp;omega)
       ·exact(Below.refl _ _).alloc (Nat.le_refl _) _
      ·skip
       rw[decide_eq_false f]at h;have c:Hid (bF 1 1 t ks 0=false):=by show _=_;unfold bF bT;rw[d.out];simp[*]
       go_enter Tryz.func82,Tryz.ntmps82;go_wp2;go_ret;refine⟨ak ?_, ?_⟩
       ·first| exact c.out.symm| (rw[c.out];simp;omega)
       ·exact(Below.refl _ _).alloc (Nat.le_refl _) _
     ·skip
      have c:Hid (bF 1 i t ks 0=false):=by show _=_;unfold bF bT;rw[d.out];simp[*]
      go_enter Tryz.func82,Tryz.ntmps82;go_wp2;go_ret;refine⟨ak ?_, ?_⟩
      ·first| exact c.out.symm| (rw[c.out];simp;omega)
      ·exact(Below.refl _ _).alloc (Nat.le_refl _) _
   ·skip
    have E:0<nk+nl:=by omega
    have c:Hid (bF 1 i t ks nl=false):=by show _=_;unfold bF bT;rw[d.out];(by_cases z:nk=0<;>by_cases u:nl=0<;>first| (exfalso;omega)| simp[z,u])
    go_enter Tryz.func82,Tryz.ntmps82;go_wp2;go_ret;refine⟨ak ?_, ?_⟩
    ·first| exact c.out.symm| (rw[c.out];simp;omega)
    ·exact(Below.refl _ _).alloc (Nat.le_refl _) _
  ·skip
   by_cases Z:k=2
   ·skip
    subst Z
    by_cases m:nk+nl=0
    ·skip
     obtain rfl:nk=0:=by omega
     obtain rfl:nl=0:=by omega
     by_cases ZH: -9007199254740991<=i
     ·skip
      by_cases hhi:i<=9007199254740991
      ·skip
       by_cases f:t.size=0
       ·skip
        rw[decide_eq_true f]at h;have c:Hid (bF 2 i t ks 0=true):=by show _=_;unfold bF bT;rw[d.out];simp[*,bI]
        go_enter Tryz.func82,Tryz.ntmps82;go_wp2;go_ret;refine⟨ak ?_, ?_⟩
        ·first| exact c.out.symm| (rw[c.out];simp;omega)
        ·exact(Below.refl _ _).alloc (Nat.le_refl _) _
       ·skip
        rw[decide_eq_false f]at h;have c:Hid (bF 2 i t ks 0=false):=by show _=_;unfold bF bT;rw[d.out];simp[*,bI]
        go_enter Tryz.func82,Tryz.ntmps82;go_wp2;go_ret;refine⟨ak ?_, ?_⟩
        ·first| exact c.out.symm| (rw[c.out];simp;omega)
        ·exact(Below.refl _ _).alloc (Nat.le_refl _) _
      ·skip
       have c:Hid (bF 2 i t ks 0=false):=by show _=_;unfold bF bT;rw[d.out];simp[*,bI]
       go_enter Tryz.func82,Tryz.ntmps82;go_wp2;go_ret;refine⟨ak ?_, ?_⟩
       ·first| exact c.out.symm| (rw[c.out];simp;omega)
       ·exact(Below.refl _ _).alloc (Nat.le_refl _) _
     ·skip
      have c:Hid (bF 2 i t ks 0=false):=by show _=_;unfold bF bT;rw[d.out];simp[*,bI]
      go_enter Tryz.func82,Tryz.ntmps82;go_wp2;go_ret;refine⟨ak ?_, ?_⟩
      ·first| exact c.out.symm| (rw[c.out];simp;omega)
      ·exact(Below.refl _ _).alloc (Nat.le_refl _) _
    ·skip
     have E:0<nk+nl:=by omega
     have c:Hid (bF 2 i t ks nl=false):=by show _=_;unfold bF bT;rw[d.out];(by_cases z:nk=0<;>by_cases u:nl=0<;>first| (exfalso;omega)| simp[z,u])
     go_enter Tryz.func82,Tryz.ntmps82;go_wp2;go_ret;refine⟨ak ?_, ?_⟩
     ·first| exact c.out.symm| (rw[c.out];simp;omega)
     ·exact(Below.refl _ _).alloc (Nat.le_refl _) _
   ·skip
    by_cases fB:k=3
    ·skip
     subst fB
     by_cases m:nk+nl=0
     ·skip
      obtain rfl:nk=0:=by omega
      obtain rfl:nl=0:=by omega
      by_cases j:i=0
      ·skip
       subst j
       cases bQ:letters t with
       | true=>
        rw[jE.1 bQ]at F;have c:Hid (bF 3 0 t ks 0=true):=by show _=_;unfold bF bT;rw[d.out];simp[*]
        go_enter Tryz.func82,Tryz.ntmps82;go_wp2_with(go_at_call 30;refine F.mono ?_;rintro x N ⟨rfl,rfl⟩);go_ret;refine⟨ak ?_, ?_⟩
        ·first| exact c.out.symm| (rw[c.out];simp;omega)
        ·exact(Below.refl _ _).alloc (Nat.le_refl _) _
       | false=>
        obtain⟨bp,K⟩:=jE.2 bQ;rw[K]at F;have c:Hid (bF 3 0 t ks 0=false):=by show _=_;unfold bF bT;rw[d.out];simp[*]
        go_enter Tryz.func82,Tryz.ntmps82;go_wp2_with(go_at_call 30;refine F.mono ?_;rintro x N ⟨rfl,rfl⟩);go_ret;refine⟨ak ?_, ?_⟩
        ·first| exact c.out.symm| (rw[c.out];simp;omega)
        ·exact(Below.refl _ _).alloc (Nat.le_refl _) _
      ·skip
       have c:Hid (bF 3 i t ks 0=false):=by show _=_;unfold bF bT;rw[d.out];simp[*]
       go_enter Tryz.func82,Tryz.ntmps82;go_wp2;go_ret;refine⟨ak ?_, ?_⟩
       ·first| exact c.out.symm| (rw[c.out];simp;omega)
       ·exact(Below.refl _ _).alloc (Nat.le_refl _) _
     ·skip
      have E:0<nk+nl:=by omega
      have c:Hid (bF 3 i t ks nl=false):=by show _=_;unfold bF bT;rw[d.out];(by_cases z:nk=0<;>by_cases u:nl=0<;>first| (exfalso;omega)| simp[z,u])
      go_enter Tryz.func82,Tryz.ntmps82;go_wp2;go_ret;refine⟨ak ?_, ?_⟩
      ·first| exact c.out.symm| (rw[c.out];simp;omega)
      ·exact(Below.refl _ _).alloc (Nat.le_refl _) _
    ·skip
     by_cases uF:k=4
     ·skip
      subst uF
      by_cases m:nk=0
      ·skip
       subst m
       by_cases j:i=0
       ·skip
        subst j
        by_cases f:t.size=0
        ·skip
         rw[decide_eq_true f]at h;have c:Hid (bF 4 0 t ks nl=true):=by show _=_;unfold bF bT;rw[d.out];simp[*]
         go_enter Tryz.func82,Tryz.ntmps82;go_wp2;go_ret;refine⟨ak ?_, ?_⟩
         ·first| exact c.out.symm| (rw[c.out];simp;omega)
         ·exact(Below.refl _ _).alloc (Nat.le_refl _) _
        ·skip
         rw[decide_eq_false f]at h;have c:Hid (bF 4 0 t ks nl=false):=by show _=_;unfold bF bT;rw[d.out];simp[*]
         go_enter Tryz.func82,Tryz.ntmps82;go_wp2;go_ret;refine⟨ak ?_, ?_⟩
         ·first| exact c.out.symm| (rw[c.out];simp;omega)
         ·exact(Below.refl _ _).alloc (Nat.le_refl _) _
       ·skip
        have c:Hid (bF 4 i t ks nl=false):=by show _=_;unfold bF bT;rw[d.out];simp[*]
        go_enter Tryz.func82,Tryz.ntmps82;go_wp2;go_ret;refine⟨ak ?_, ?_⟩
        ·first| exact c.out.symm| (rw[c.out];simp;omega)
        ·exact(Below.refl _ _).alloc (Nat.le_refl _) _
      ·skip
       have E:0<nk:=by omega
       have c:Hid (bF 4 i t ks nl=false):=by show _=_;unfold bF bT;rw[d.out];simp[*]
       go_enter Tryz.func82,Tryz.ntmps82;go_wp2;go_ret;refine⟨ak ?_, ?_⟩
       ·first| exact c.out.symm| (rw[c.out];simp;omega)
       ·exact(Below.refl _ _).alloc (Nat.le_refl _) _
     ·skip
      by_cases nG:k=5
      ·skip
       subst nG
       by_cases m:nk=nl
       ·skip
        subst m
        by_cases j:i=0
        ·skip
         subst j
         by_cases f:t.size=0
         ·skip
          rw[decide_eq_true f]at h;have c:Hid (bF 5 0 t ks nk=iE ks):=by show _=_;unfold bF bT;rw[d.out];simp[*]
          go_enter Tryz.func82,Tryz.ntmps82;go_wp2_with(go_at_call 113;refine V.mono ?_;rintro x N ⟨rfl,bO⟩);go_ret;refine⟨ak ?_, ?_⟩
          ·first| exact c.out.symm| (rw[c.out];simp;omega)
          ·exact ae ((Below.refl _ _).alloc (Nat.le_refl _) _) bO
         ·skip
          rw[decide_eq_false f]at h;have c:Hid (bF 5 0 t ks nk=false):=by show _=_;unfold bF bT;rw[d.out];simp[*]
          go_enter Tryz.func82,Tryz.ntmps82;go_wp2;go_ret;refine⟨ak ?_, ?_⟩
          ·first| exact c.out.symm| (rw[c.out];simp;omega)
          ·exact(Below.refl _ _).alloc (Nat.le_refl _) _
        ·skip
         have c:Hid (bF 5 i t ks nk=false):=by show _=_;unfold bF bT;rw[d.out];simp[*]
         go_enter Tryz.func82,Tryz.ntmps82;go_wp2;go_ret;refine⟨ak ?_, ?_⟩
         ·first| exact c.out.symm| (rw[c.out];simp;omega)
         ·exact(Below.refl _ _).alloc (Nat.le_refl _) _
       ·skip
        have c:Hid (bF 5 i t ks nl=false):=by show _=_;unfold bF bT;rw[d.out];simp[*]
        go_enter Tryz.func82,Tryz.ntmps82;go_wp2;go_ret;refine⟨ak ?_, ?_⟩
        ·first| exact c.out.symm| (rw[c.out];simp;omega)
        ·exact(Below.refl _ _).alloc (Nat.le_refl _) _
      ·skip
       have c:Hid (bF k i t ks nl=false):=by show _=_;unfold bF bT;rw[d.out];simp[*]
       go_enter Tryz.func82,Tryz.ntmps82;go_wp2;go_ret;refine⟨ak ?_, ?_⟩
       ·first| exact c.out.symm| (rw[c.out];simp;omega)
       ·exact(Below.refl _ _).alloc (Nat.le_refl _) _
def Ik(d:Nat):Prop:=∀(w:World) (O:Nat->Prop) (j:J) (k i most:Int) (t:ByteArray) (pk pl:Option Addr) (nk ck nl cl:Nat),(∀x,O x->x<w.heap.size)->most=(d:Int)->d<=100->szJ d j=true→
 isJ O w j [.int .i64 k,.int .i64 i,.string t,.slice pk nk ck,.slice pl nl cl]→
 Calls Tryz.prog 42 #[.agg #[.int .i64 k,.int .i64 i,.string t,.slice pk nk ck,.slice pl nl cl],.int .i64 most] w fun x w'=>x=.returned (.bool (goodJ d j))/\Below w.heap.size w w'
theorem Pd:Ik 0:=by
 intro w O j k i c t pk pl nk ck nl cl f d _ _ _;subst d;go_enter Tryz.func42,Tryz.ntmps42;go_wp2;go_ret;exact⟨by unfold goodJ;rfl,(Below.refl _ _).alloc (Nat.le_refl _) _⟩
theorem Pe{d:Nat}(V:Ik d):Ik (d+1):=by
 intro w O j k i c t pk pl nk ck nl cl I hm hd Z hj;obtain⟨kx,ix,tx,ks,l⟩:=j;unfold isJ at hj;obtain⟨GX,Er,GY,vD,e,hk,hl,hs⟩:=hj;simp only[List.cons.injEq,Value.int.injEq,Value.string.injEq,Value.slice.injEq,true_and,and_true]at e;obtain⟨rfl,rfl,rfl,⟨rfl,rfl,rfl⟩,rfl,rfl,rfl⟩:=e;unfold szJ at Z;simp only[Bool.and_eq_true,decide_eq_true_eq]at Z;obtain⟨N,qE,Et,rM,KM⟩:=Z;have HLS:Hid (l.all (szJ d)=true):=KM;have FC:1<=c:=by omega
 have Tu:c<=101:=by omega
 have HM:Hid (c - 1=(d:Int)):=by show _=_;omega
 have HDL:Hid (d<=100):=by show _<=_;omega
 have f:Hid (goodJ (d+1) (.mk k i t ks l)=(bF k i t ks l.length&&l.all (goodJ d))):=xt d k i t ks l;clear hm hd KM;obtain⟨nk,T⟩:∃n,ks.length=n:=⟨_,rfl⟩;obtain⟨nl,A⟩:∃n,l.length=n:=⟨_,rfl⟩;have nH:Hid (l.length=nl):=A;rw[A]at f;obtain⟨wB,z⟩:∃wB,wB=w.alloc (.cells #[.int .i64 k,.int .i64 i,.string t,.slice pk nk ck,.slice pl nl cl] 25):=⟨_,rfl⟩;have H:Below w.heap.size w wB:=by rw[z];exact(Below.refl _ _).alloc (Nat.le_refl _) _
 have hA:wB.heap[w.heap.size]?=some (.cells #[.int .i64 k,.int .i64 i,.string t,.slice pk nk ck,.slice pl nl cl] 25 (0,0)):=by rw[z];exact heap_alloc_new _ _
 have EP:w.heap.size<wB.heap.size:=(Array.getElem?_eq_some_iff.1 hA).1;have G:=TW (w:=wB) (O:=O) k i t ks pk pl nk ck nl cl T (hk.carry fun b u=>⟨u,H.block b (I b u)⟩) (fun b u=>Nat.lt_of_lt_of_le (I b u) H.size) (by rw[<-T];exact qE) (by rw[<-A];exact rM) (fun x hx=>of_decide_eq_true (List.all_eq_true.1 Et x hx)) N;rw[T,A];have zhz:nl<=100000:=by rw[<-A];exact rM
 have JF:nl<=cl:=by rw[<-A];exact hl
 have EB:Hid (∀W:World,Below wB.heap.size wB W->∀n v, [Value.int .i64 k,.int .i64 i,.string t,.slice pk nk ck,.slice pl nl cl][n]?=some v->W.cell? ⟨w.heap.size,n,none⟩=some v):=fun W hW n v hv=>
  (World.cell?_of_block (a:=⟨w.heap.size,n,none⟩) (hW.block w.heap.size EP)).trans (aQ (cur:= [.int .i64 k,.int .i64 i,.string t,.slice pk nk ck,.slice pl nl cl]) hA n v hv)
 clear T A qE Et rM N hk hl hA
 cases hsb:bF k i t ks nl with
 | false=>
  rw[hsb]at G f;rw[z]at G;go_enter Tryz.func42,Tryz.ntmps42;go_wp2_with(go_at_call 82;refine G.mono ?_;rintro x w2 ⟨rfl,K⟩);go_ret;rw[<-z]at K;exact⟨ak f.out.symm,ae H K⟩
 | true=>
  rw[hsb,Bool.true_and]at f;rw[hsb,z]at G;go_enter Tryz.func42,Tryz.ntmps42;go_wp2_with(go_at_call 82;refine G.mono ?_;rintro x w2 ⟨rfl,K⟩);rw[<-z]at K;clear z G hsb
  go_loopw [5] (fun v wr=>∃m:Nat,v=.int .i64 m/\m<=nl/\Hid ((l.take m).all (goodJ d)=true)/\Below wB.heap.size wB wr) (fun v _=>nl - (intOf v).toNat)
  case atStart=>exact⟨0,rfl,Nat.zero_le _,rfl,K⟩
  case round=>
   obtain⟨m,rfl,hm,HT,E⟩:=hrel;have a4:=EB.out wr E 4 _ rfl
   by_cases lG:m<nl
   ·have oH:(m:Int)<(nl:Int):=by omega
    have U:m<l.length:=by rw[nH.out];exact lG
    have Je:Hid (m<l.length):=U;obtain⟨S,lo,cs,rO,uq,bL,Y⟩:=isJs.at l 0 m hs U;subst rO;obtain⟨x0,x1,x2,p3,n3,c3,p4,n4,c4,rfl⟩:=dD Y;have UB:=eF H (by omega) E;have gT:=UB.block S (I _ uq);have F:∀n v, [Value.int .i64 x0,.int .i64 x1,.string x2,.slice p3 n3 c3,.slice p4 n4 c4][n]?=some v->wr.cell? ⟨S,lo+m*5+n,none⟩=some v:=fun n v h=>by
     have:=bL n v h;rw[Nat.zero_add]at this;exact(World.cell?_of_block (a:=⟨S,lo+m*5+n,none⟩) gT).trans this
    have y0:wr.cell? ⟨S,lo+m*5,none⟩=some (.int .i64 x0):=F 0 _ rfl;have y1:=F 1 _ rfl;have y2:=F 2 _ rfl;have y3:=F 3 _ rfl;have y4:=F 4 _ rfl;have X:=V wr O (l.getD m J.zero) x0 x1 (c - 1) x2 p3 p4 n3 c3 n4 c4 (fun b u=>Nat.lt_of_lt_of_le (I b u) UB.size) HM.out HDL.out (lS HLS.out U) (Y.carry fun b u=>⟨u,UB.block b (I b u)⟩);clear F bL U Y gT
    cases hgj:goodJ d (l.getD m J.zero)with
    | true=>
     rw[hgj]at X;go_wp2_with(go_at_call 42;refine X.mono ?_;rintro x w4 ⟨rfl,eQ⟩);go_roundw
     case rel=>exact⟨m+1,by go_num,lG,by show _=_;rw[Cv Je.out,HT.out,hgj];rfl,eF E E.size eQ⟩
     case measure=>simp[intOf];omega
    | false=>
     rw[hgj]at X;go_wp2_with(go_at_call 42;refine X.mono ?_;rintro x w4 ⟨rfl,eQ⟩);go_ret;exact⟨ak (by rw[f.out];exact(Qi Je.out hgj).symm),eF H (by omega) (eF E E.size eQ)⟩
   ·obtain rfl:m=nl:=by omega
    go_wp2;go_ret;have ht:=HT.out;rw[List.take_of_length_le (by rw[nH.out];omega)]at ht;exact⟨ak (by rw[f.out];exact ht.symm),eF H (by omega) E⟩
theorem XC:∀d,Ik d
 | 0=>Pd
 | d+1=>Pe (XC d)
theorem rz{w:World}{O:Nat->Prop}{j:J}{k i:Int}{t:ByteArray}{pk pl:Option Addr}{nk ck nl cl:Nat}(f:∀x,O x->x<w.heap.size)(h:szJ 12 j=true)
    (z:isJ O w j [.int .i64 k,.int .i64 i,.string t,.slice pk nk ck,.slice pl nl cl]):
    Calls Tryz.prog 17 #[.agg #[.int .i64 k,.int .i64 i,.string t,.slice pk nk ck,.slice pl nl cl]] w fun x w'=>x=.returned (.bool (goodJ 12 j))/\Below w.heap.size w w':=by
 have d:Below w.heap.size w (w.alloc (.cells #[.int .i64 k,.int .i64 i,.string t,.slice pk nk ck,.slice pl nl cl] 25)):=(Below.refl _ _).alloc (Nat.le_refl _) _;have m:=XC 12 (w.alloc (.cells #[.int .i64 k,.int .i64 i,.string t,.slice pk nk ck,.slice pl nl cl] 25)) O j k i 12 t pk pl nk ck nl cl (fun b c=>Nat.lt_of_lt_of_le (f b c) d.size) rfl (by decide) h (z.carry fun b c=>⟨c,d.block b (f b c)⟩);go_enter Tryz.func17,Tryz.ntmps17;go_wp2_with(go_at_call 42;refine m.mono ?_;rintro x A ⟨rfl,u⟩);go_ret;exact⟨rfl,ae d u⟩
end Go.Proofs.YtldkblgclochjaaGreatDoor

/- A part. -/
import Derived.Test.YtegcgbjjpgjnmaaGreatDoorE16
set_option maxRecDepth 100000
set_option maxHeartbeats 16000000
namespace Go.Proofs.YtegcgbjjpgjnmaaGreatDoor
open Go.RowKit Go.Maps
theorem dt{O:Nat->Prop}{w:World}{j:J}{k i:Int}{t:ByteArray}{pk pl:Option Addr}{nk ck nl cl:Nat}(h:isJ O w j [.int .i64 k,.int .i64 i,.string t,.slice pk nk ck,.slice pl nl cl]):
    j.kind=k/\j.int=i/\j.text=t/\nk=j.keys.length/\nl=j.list.length/\jT O w pk ck j.keys/\j.list.length<=cl/\isJs O w pl 0 j.list:=by
 cases j with
 | mk k' i' t' ks l=>
  unfold isJ at h;obtain⟨F7,DL,F8,uG,e,h1,h2,h3⟩:=h
  cases e
  exact⟨rfl,rfl,rfl,rfl,rfl,h1,h2,h3⟩
def iZ(l:List J):Bool:=l.any fun j=>decide (j.kind≠3)
theorem yN(l:List J)(j:J):iZ (l++ [j])=(iZ l || decide (j.kind≠3)):=by
 unfold iZ;rw[List.any_append];simp
theorem jN{O:Nat->Prop}{w:World}{R M:Nat}{ps:List (ByteArray×J)}{bad:Bool}(h:ER O w R M ps bad)(s:ByteArray)(hs:tZ s)(hl:(iA ps s).list.length<=100000):
    Calls Tryz.prog 73 #[.pointer (some ⟨R,0,none⟩),.string s] w fun x w'=>(∃q c,x=.returned (.slice q (iA ps s).list.length c)/\jT (fB w w') w' q c ((iA ps s).list.map J.text))/\ER O w' R M (lg ps s) (bad || decide ((iA ps s).kind≠4) || iZ (iA ps s).list)/\aj (dJ R M) w w':=by
 have hT:=mQ h s hs 4;have hf:=Ml;have zf1:=h.lt;obtain⟨j,V8⟩:∃j,iA ps s=j:=⟨_,rfl⟩;rw[V8]at hT hl ⊢;clear V8;obtain⟨b1,bI⟩:∃b,(bad || decide (j.kind≠4))=b:=⟨_,rfl⟩;rw[bI]at hT ⊢;clear bI;go_enter Tryz.func73,Tryz.ntmps73;go_wp2_with(go_at_call 72;refine hT.mono ?_;rintro x w1 ⟨⟨k,i,t,pk,nk,ck,pl,nl,cl,rfl,hj⟩,hE,jY⟩);have mV:=(dt hj).2.2.2.2.1;have EK:=(dt hj).2.2.2.2.2.2.1;have ny:=(dt hj).2.2.2.2.2.2.2;have qP:Hid (nl=j.list.length):=mV;rw[<-mV]at hl EK;have bJ:=hE.lt;clear hT hj hf h mV
 go_loopw [5,13] (fun vr v wr=>∃m:Nat,v=.int .i64 m/\m<=nl/\ER O wr R M (lg ps s) (b1 || iZ (j.list.take m))/\wr.ownsRow w1.heap.size 9 1 vr m (((j.list.take m).map J.text).map Value.string)/\aj (One R) w1 wr) (fun _ v _=>nl - (intOf v).toNat)
 case atStart=>exact⟨0,rfl,Nat.zero_le _,by rw[List.take_zero];simpa [iZ]using hE,World.ownsRow_nil _ _ _ _,aj.refl _ _⟩
 case round=>
  obtain⟨m,rfl,hm,j6,how,rU⟩:=hrel;have fI:=rU.size;obtain⟨qv,cv,hvr⟩:=eT how;subst hvr
  by_cases mW:m<nl
  ·have oL:(m:Int)<(nl:Int):=by omega
   have iP:m<j.list.length:=by rw[<-qP.out];exact mW
   obtain⟨lb,lo,cs,tY,uY,bY,jF⟩:=isJs.at j.list 0 m ny iP;subst tY;obtain⟨x0,x1,x2,p3,n3,c3,p4,n4,c4,rfl⟩:=dD jF;have sF:=hE.low lb uY;have jA:wr.heap[lb]?=w1.heap[lb]?:=rU.block lb sF.2.2 sF.1;have cc:∀n v, [Value.int .i64 x0,.int .i64 x1,.string x2,.slice p3 n3 c3,.slice p4 n4 c4][n]?=some v->wr.cell? ⟨lb,lo+m*5+n,none⟩=some v:=fun n v h=>by
    have:=bY n v h;rw[Nat.zero_add]at this;exact(World.cell?_of_block (a:=⟨lb,lo+m*5+n,none⟩) jA).trans this
   have y0:wr.cell? ⟨lb,lo+m*5,none⟩=some (.int .i64 x0):=cc 0 _ rfl;have y1:=cc 1 _ rfl;have y2:=cc 2 _ rfl;have y3:=cc 3 _ rfl;have y4:=cc 4 _ rfl;have e0:=(dt jF).1;have e2:=(dt jF).2.2.1;have hTK:j.list.take (m+1)=j.list.take m++ [j.list.getD m J.zero]:=by
    rw[List.take_add_one,List.getElem?_eq_getElem iP,List.getD_eq_getElem?_getD,List.getElem?_eq_getElem iP];rfl
   have HB:Hid ((b1 || iZ (j.list.take (m+1)))=(b1 || iZ (j.list.take m) || decide (x0≠3))):=by show _=_;rw[hTK,yN,e0,Bool.or_assoc]
   have HR:Hid (((j.list.take (m+1)).map J.text).map Value.string=((j.list.take m).map J.text).map Value.string++ [.string x2]):=by show _=_;rw[hTK,List.map_append,List.map_append,List.map_cons,List.map_nil,List.map_cons,List.map_nil,e2]
   obtain⟨rw0,TF⟩:∃r,((j.list.take m).map J.text).map Value.string=r:=⟨_,rfl⟩;obtain⟨bd,oK⟩:∃b,(b1 || iZ (j.list.take m))=b:=⟨_,rfl⟩;rw[TF]at how HR;rw[oK]at j6 HB;clear cc bY jF hTK TF oK e0 e2 iP;have dP:Below wr.heap.size wr (wr.alloc (.cells #[.int .i64 x0,.int .i64 x1,.string x2,.slice p3 n3 c3,.slice p4 n4 c4] 25)):=(Below.refl _ _).alloc (Nat.le_refl _) _;have yJ:=j6.below dP;have hX:=vH yJ x0 x1 x2 p3 p4 n3 c3 n4 c4 3;have zy:=aM how;have vO:=heap_alloc_new wr (.cells #[.int .i64 x0,.int .i64 x1,.string x2,.slice p3 n3 c3,.slice p4 n4 c4] 25);go_wp2_with(first
    | (go_at_call 105;refine hX.mono ?_;rintro x W2 ⟨rfl,CZ,iX⟩
       have zX:=(iX.block wr.heap.size (by simp) (by unfold One;omega)).trans vO;have z2:=zw zX;have zai:=(bz (how.alloc (.cells #[.int .i64 x0,.int .i64 x1,.string x2,.slice p3 n3 c3,.slice p4 n4 c4] 25)) iX fun q e=>by have:=(zy q e).1;unfold One;omega).alloc (.cells #[.string x2] 9))
    | (at_builtin;refine o9 rfl _ _ 22 rfl w1.heap.size 9 (.string ⟨#[]⟩) 1 16 Tryz.underlying22 Tryz.jZ rfl (by decide) (by decide) _ m rw0 rfl zai _ [.string x2] rfl rfl (Fe (by simp)) (Ba x2) (by omega) (by have:=iX.size;simp at this ⊢;omega) ?_
       intro vr2 W4 Wi lN gN))
   have zf2:=aM Wi;have hkk:aj (One R) w1 W4:=by
    have k1:aj (One R) w1 (W2.alloc (.cells #[.string x2] 9)):=((rU.alloc _).then iX).alloc _;exact k1.trans (S':=fun q=>(Value.slice qv m cv).ownBlock=some q) (aj.dm lN fun _ _ e=>e) fun q hq e=>by have:=(zy q e).1;omega
   have TG:ER O W4 R M (lg ps s) (bd || decide (x0≠3)):=(CZ.below ((Below.refl _ _).alloc (Nat.le_refl _) (.cells #[.string x2] 9))).bf (S:=fun q=>(Value.slice qv m cv).ownBlock=some q) (aj.dm lN fun _ _ e=>e) (fun e=>by have:=(zy _ e).1;omega) (fun e=>by have:=(zy _ e).1;omega) fun q hq e=>by have:=(zy q e).1;have:=(hE.low q hq).2.2;omega
   go_roundw
   case rel=>exact⟨m+1,by go_num,mW,by rw[HB.out];exact TG,by rw[HR.out];exact Wi,hkk⟩
   case measure=>simp[intOf];omega
  ·obtain rfl:m=nl:=by omega
   have AR:j.list.take m=j.list:=List.take_of_length_le (by rw[qP.out];omega);rw[AR]at j6 how;have HOW:Hid (wr.ownsRow w1.heap.size 9 1 (.slice qv m cv) m ((j.list.map J.text).map Value.string)):=how;clear how;go_wp2;go_ret;have cB:(j.list.map J.text).length=m:=by rw[List.length_map,<-qP.out]
   obtain⟨q',c',e',lM⟩:=o5 (S:=j.list.map J.text) (by rw[cB];exact HOW.out);rw[cB]at e'
   cases e'
   have U1:=jY.size;refine⟨⟨_,_,by rw[<-qP.out];rfl,lM.carry fun q hq=>⟨⟨by have:=hq.1;omega,hq.2⟩,rfl⟩⟩,j6,jY.trans rU fun q hq e=>.inl e⟩
theorem Tryz.Wj:(Tryz.prog.info? 56).map (fun i=>(i.zero,i.size,i.bytes))=some (some (.agg #[.string ⟨#[]⟩,.string ⟨#[]⟩]),2,32):=by kernel_rfl
theorem Wl{w:World}{b t:Nat}{y0 y1:Value}(h:w.heap.size=b):∀j u, [y0,y1][j]?=some u->(w.alloc (.cells #[y0,y1] t)).cell? ((⟨b,0,none⟩:Addr).add j)=some u:=by
 subst h;intro j u hj;have e:(⟨w.heap.size,0,none⟩:Addr).add j=⟨w.heap.size,j,none⟩:=by unfold Addr.add;split<;>simp_all
 rw[e];exact aR (cur:= [_,_]) (heap_alloc_new _ _) j u hj
theorem Wm(a b:ByteArray):∀u∈ [Value.string a,.string b],u.oneCell'=true:=by
 intro u hu;simp at hu
 rcases hu with rfl| rfl<;>rfl
def iQ(l:List (ByteArray×ByteArray)):List Value:=l.flatMap fun s=> [.string s.1,.string s.2]
theorem yO:∀(l:List (ByteArray×ByteArray)) (j:Nat),j<l.length->(iQ l)[j*2]?=some (.string (l.getD j (aH,aH)).1)/\(iQ l)[j*2+1]?=some (.string (l.getD j (aH,aH)).2)
 | [],j,h=>absurd h (by simp)
 | a::r,0,_=>by simp[iQ]
 | a::r,j+1,h=>by
  have ih:=yO r j (by simpa using h);unfold iQ at ih ⊢;rw[List.flatMap_cons]
  constructor
  ·rw[List.getElem?_append_right (by simp;omega)];simp only[List.length_cons,List.length_nil];rw[show(j+1)*2 - (0+1+1)=j*2 by omega];simpa using ih.1
  ·rw[List.getElem?_append_right (by simp;omega)];simp only[List.length_cons,List.length_nil];rw[show(j+1)*2+1 - (0+1+1)=j*2+1 by omega];simpa using ih.2
theorem Wn{w:World}{B:Nat}{v:Value}{l:List (ByteArray×ByteArray)}(h:w.ownsRow B 56 2 v l.length (iQ l)):∃q cq,v=.slice q l.length cq/\Aa (fun k=>B<=k/\k<w.heap.size) w q cq l:=by
 rcases h.2 with⟨rfl,hn⟩| ⟨g,cap,cur,rfl,hg,xn,h1,h2,h3,h4⟩
 ·obtain rfl:l= []:=List.eq_nil_of_length_eq_zero hn;exact⟨none,0,rfl,Aa.nil _ _ _ _⟩
 ·refine⟨_,cap,rfl,h1,fun j hj=>⟨g,0,rfl,⟨hg,(Array.getElem?_eq_some_iff.1 xn).1⟩, ?_⟩⟩;have e:=yO l j hj;rw[Nat.zero_add];exact⟨(h.cellAt (j*2) (by omega)).trans e.1,(h.cellAt (j*2+1) (by omega)).trans e.2⟩
def bH(j:J):List (ByteArray×ByteArray):=j.keys.zip (j.list.map J.text)
theorem IZ{j:J}(h:j.keys.length<=j.list.length):(bH j).length=j.keys.length:=by
 unfold bH;rw[List.length_zip,List.length_map];omega
theorem Wo{j:J}{m:Nat}(h:j.keys.length<=j.list.length)(hm:m<j.keys.length):(bH j).take (m+1)=(bH j).take m++ [(j.keys.getD m aH,(j.list.getD m J.zero).text)]:=by
 have:(bH j)[m]?=some (j.keys.getD m aH,(j.list.getD m J.zero).text):=by
  unfold bH;rw[List.zip_eq_zipWith,List.getElem?_zipWith,List.getElem?_map,List.getElem?_eq_getElem hm,List.getElem?_eq_getElem (by omega:m<j.list.length),List.getD_eq_getElem?_getD,List.getElem?_eq_getElem hm,List.getD_eq_getElem?_getD,List.getElem?_eq_getElem (by omega:m<j.list.length)]
  rfl
 rw[List.take_add_one,this]
 rfl
theorem C_(l:List (ByteArray×ByteArray))(a b:ByteArray):iQ (l++ [(a,b)])=iQ l++ [.string a,.string b]:=by
 unfold iQ;rw[List.flatMap_append]
 rfl
theorem uk{O:Nat->Prop}{w:World}{R M:Nat}{ps:List (ByteArray×J)}{bad:Bool}(h:ER O w R M ps bad)(s:ByteArray)(hs:tZ s)(hl:(iA ps s).list.length<=100000)(gM:(iA ps s).keys.length<=(iA ps s).list.length):
    Calls Tryz.prog 75 #[.pointer (some ⟨R,0,none⟩),.string s] w fun x w'=>(∃q c,x=.returned (.slice q (bH (iA ps s)).length c)/\Aa (fB w w') w' q c (bH (iA ps s)))/\ER O w' R M (lg ps s) (bad || decide ((iA ps s).kind≠5) || iZ ((iA ps s).list.take (iA ps s).keys.length))/\aj (dJ R M) w w':=by
 have hT:=mQ h s hs 5;obtain⟨j,V8⟩:∃j,iA ps s=j:=⟨_,rfl⟩;rw[V8]at hT hl gM ⊢;clear V8;obtain⟨b1,bI⟩:∃b,(bad || decide (j.kind≠5))=b:=⟨_,rfl⟩;rw[bI]at hT ⊢;clear bI h;have BX:Hid (j.keys.length<=j.list.length):=gM;have HSL:Hid ((bH j).length=j.keys.length):=IZ gM;obtain⟨nk,zbN⟩:∃n,j.keys.length=n:=⟨_,rfl⟩;have jy:Hid (j.keys.length=nk):=zbN;clear zbN;go_enter Tryz.func75,Tryz.ntmps75;go_wp2_with(go_at_call 72;refine hT.mono ?_;rintro x w1 ⟨⟨k,i,t,pk,nk',ck,pl,nl,cl,rfl,hj⟩,hE,jY⟩;have zaj:=(dt hj).2.2.2.1;have mV:=(dt hj).2.2.2.2.1;have lM:=(dt hj).2.2.2.2.2.1;have EK:=(dt hj).2.2.2.2.2.2.1;have ny:=(dt hj).2.2.2.2.2.2.2;rw[jy.out]at zaj;have zes:=zaj.symm;clear zaj;subst zes;have qP:Hid (nl=j.list.length):=mV;(have Wp:nl<=100000:=by omega);(have JU:nk<=nl:=by have:=BX.out;have:=jy.out;omega);(have zf3:nl<=cl:=by omega);(have zf4:nk<=ck:=by have:=lM.1;have:=jy.out;omega);clear mV EK hj);have bJ:=hE.lt;obtain⟨WA,Fy⟩:∃WA,WA=w1.alloc (.cells #[.int .i64 k,.int .i64 i,.string t,.slice pk nk ck,.slice pl nl cl] 25):=⟨_,rfl⟩;have dP:Below w1.heap.size w1 WA:=by rw[Fy];exact(Below.refl _ _).alloc (Nat.le_refl _) _
 have YG:WA.heap[w1.heap.size]?=some (.cells #[.int .i64 k,.int .i64 i,.string t,.slice pk nk ck,.slice pl nl cl] 25 (0,0)):=by rw[Fy];exact heap_alloc_new _ _
 have Oa:WA.heap.size=w1.heap.size+1:=by rw[Fy];simp
 rw[<-Fy];have yJ:=hE.below dP;clear hT Fy hl gM
 go_loopw [5,16] (fun vr v wr=>∃m:Nat,v=.int .i64 m/\m<=nk/\ER O wr R M (lg ps s) (b1 || iZ (j.list.take m))/\wr.ownsRow (w1.heap.size+1) 56 2 vr m (iQ ((bH j).take m))/\aj (One R) WA wr) (fun _ v _=>nk - (intOf v).toNat)
 case atStart=>exact⟨0,rfl,Nat.zero_le _,by rw[List.take_zero];simpa [iZ]using yJ,World.ownsRow_nil _ _ _ _,aj.refl _ _⟩
 case round=>
  obtain⟨m,rfl,hm,j6,how,rU⟩:=hrel;have fI:=rU.size;obtain⟨qv,cv,hvr⟩:=eT how;subst hvr;have iB:=(rU.block w1.heap.size (by omega) (by unfold One;omega)).trans YG
  by_cases mW:m<nk
  ·have oL:(m:Int)<(nk:Int):=by omega
   have Wq:(m:Int)<(nl:Int):=by omega
   have iP:m<j.list.length:=by rw[<-qP.out];omega
   obtain⟨ka,Cy,Ws,Ca⟩:=lM.2 m (by rw[jy.out];exact mW);subst Cy;have jO:∀q,O q->wr.heap[q]?=w1.heap[q]?:=fun q hq=>(rU.block q (by have:=(hE.low q hq).2.2;omega) (hE.low q hq).1).trans (dP.block q (hE.low q hq).2.2);have Gi:wr.cell? (ka.add m)=some (.string (j.keys.getD m aH)):=(World.cell?_of_block (by rw[aY];exact jO _ Ws)).trans Ca;obtain⟨lb,lo,cs,tY,uY,bY,jF⟩:=isJs.at j.list 0 m ny iP;subst tY;obtain⟨x0,x1,x2,p3,n3,c3,p4,n4,c4,rfl⟩:=dD jF;have sF:=hE.low lb uY;have jA:=jO lb uY;have cc:∀n v, [Value.int .i64 x0,.int .i64 x1,.string x2,.slice p3 n3 c3,.slice p4 n4 c4][n]?=some v->wr.cell? ⟨lb,lo+m*5+n,none⟩=some v:=fun n v h=>by
    have:=bY n v h;rw[Nat.zero_add]at this;exact(World.cell?_of_block (a:=⟨lb,lo+m*5+n,none⟩) jA).trans this
   have y0:wr.cell? ⟨lb,lo+m*5,none⟩=some (.int .i64 x0):=cc 0 _ rfl;have y1:=cc 1 _ rfl;have y2:=cc 2 _ rfl;have y3:=cc 3 _ rfl;have y4:=cc 4 _ rfl;have e0:=(dt jF).1;have e2:=(dt jF).2.2.1;have hTK:j.list.take (m+1)=j.list.take m++ [j.list.getD m J.zero]:=by
    rw[List.take_add_one,List.getElem?_eq_getElem iP,List.getD_eq_getElem?_getD,List.getElem?_eq_getElem iP];rfl
   have HB:Hid ((b1 || iZ (j.list.take (m+1)))=(b1 || iZ (j.list.take m) || decide (x0≠3))):=by show _=_;rw[hTK,yN,e0,Bool.or_assoc]
   obtain⟨u,hu⟩:∃u,j.keys.getD m aH=u:=⟨_,rfl⟩;have HR:Hid (iQ ((bH j).take (m+1))=iQ ((bH j).take m)++ [.string u,.string x2]):=by show _=_;rw[Wo BX.out (by rw[jy.out];exact mW),C_,e2,hu]
   rw[hu]at Gi;obtain⟨rw0,TF⟩:∃r,iQ ((bH j).take m)=r:=⟨_,rfl⟩;obtain⟨bd,oK⟩:∃b,(b1 || iZ (j.list.take m))=b:=⟨_,rfl⟩;rw[TF]at how HR;rw[oK]at j6 HB;clear cc bY jF hTK TF oK e0 e2 iP hu Ca jO;have b3:=fK iB;have b4:=bA iB;have r_:Below wr.heap.size wr (wr.alloc (.cells #[.int .i64 x0,.int .i64 x1,.string x2,.slice p3 n3 c3,.slice p4 n4 c4] 25)):=(Below.refl _ _).alloc (Nat.le_refl _) _;have hEB:=j6.below r_;have hX:=vH hEB x0 x1 x2 p3 p4 n3 c3 n4 c4 3;have zy:=aM how;have vO:=heap_alloc_new wr (.cells #[.int .i64 x0,.int .i64 x1,.string x2,.slice p3 n3 c3,.slice p4 n4 c4] 25);go_wp2_with(first
    | (go_at_call 105;refine hX.mono ?_;rintro x W2 ⟨rfl,CZ,iX⟩
       have zX:=(iX.block wr.heap.size (by simp) (by unfold One;omega)).trans vO;have z2:=zw zX;have zai:=(bz (how.alloc (.cells #[.int .i64 x0,.int .i64 x1,.string x2,.slice p3 n3 c3,.slice p4 n4 c4] 25)) iX fun q e=>by have:=(zy q e).1;unfold One;omega).alloc (.cells #[.string u,.string x2] 56))
    | (at_builtin;refine o9 rfl _ _ 26 rfl (w1.heap.size+1) 56 (.agg #[.string ⟨#[]⟩,.string ⟨#[]⟩]) 2 32 Tryz.underlying26 Tryz.Wj rfl (by decide) (by decide) _ m rw0 rfl zai _ [.string u,.string x2] rfl rfl (Wl (by simp)) (Wm u x2) (by omega) (by have:=iX.size;simp at this ⊢;omega) ?_
       intro vr2 W4 Wi lN gN))
   have hkk:aj (One R) WA W4:=by
    have k1:aj (One R) WA (W2.alloc (.cells #[.string u,.string x2] 56)):=((rU.alloc _).then iX).alloc _;exact k1.trans (S':=fun q=>(Value.slice qv m cv).ownBlock=some q) (aj.dm lN fun _ _ e=>e) fun q hq e=>by have:=(zy q e).1;omega
   have TG:ER O W4 R M (lg ps s) (bd || decide (x0≠3)):=(CZ.below ((Below.refl _ _).alloc (Nat.le_refl _) (.cells #[.string u,.string x2] 56))).bf (S:=fun q=>(Value.slice qv m cv).ownBlock=some q) (aj.dm lN fun _ _ e=>e) (fun e=>by have:=(zy _ e).1;omega) (fun e=>by have:=(zy _ e).1;omega) fun q hq e=>by have:=(zy q e).1;have:=(hE.low q hq).2.2;omega
   go_roundw
   case rel=>exact⟨m+1,by go_num,mW,by rw[HB.out];exact TG,by rw[HR.out];exact Wi,hkk⟩
   case measure=>simp[intOf];omega
  ·obtain rfl:m=nk:=by omega
   have AR:(bH j).take m=bH j:=List.take_of_length_le (by rw[HSL.out,jy.out];omega);rw[AR]at how;have HOW:Hid (wr.ownsRow (w1.heap.size+1) 56 2 (.slice qv m cv) m (iQ (bH j))):=how;have HBB:Hid (ER O wr R M (lg ps s) (b1 || iZ (j.list.take j.keys.length))):=by rw[jy.out];exact j6
   clear how AR;go_wp2;go_ret;have cB:(bH j).length=m:=by rw[HSL.out,jy.out]
   obtain⟨q',c',e',mo⟩:=Wn (l:=bH j) (by rw[cB];exact HOW.out);rw[cB]at e'
   cases e'
   have U1:=jY.size;refine⟨⟨_,_,by rw[cB];rfl,mo.carry fun q hq=>⟨⟨by have:=hq.1;omega,hq.2⟩,rfl⟩⟩,HBB.out,jY.trans ((aj.fO dP).then rU) fun q hq e=>.inl e⟩
def o_(j:J):List (ByteArray×J):=j.keys.zip j.list
def qC(j:J):J:=iA (o_ j) eX
def U7(j:J):List (ByteArray×J):=lg (o_ j) eX
def qD(j:J):J:=iA (U7 j) gH
def U8(j:J):List (ByteArray×J):=lg (U7 j) gH
def qE(j:J):J:=iA (U8 j) bZ
def U9(j:J):List (ByteArray×J):=lg (U8 j) bZ
def rG3(j:J):J:=iA (U9 j) aS
def U_(j:J):List (ByteArray×J):=lg (U9 j) aS
def oh(j:J):J:=iA (U_ j) eu
def Va(j:J):List (ByteArray×J):=lg (U_ j) eu
def om(j:J):J:=iA (Va j) dA
def Vb(j:J):List (ByteArray×J):=lg (Va j) dA
def qF(j:J):J:=iA (Vb j) cu
def Vd(j:J):List (ByteArray×J):=lg (Vb j) cu
def qG(j:J):J:=iA (Vd j) uL
def Ve(j:J):List (ByteArray×J):=lg (Vd j) uL
def qH(j:J):J:=iA (Ve j) dO
def Vf(j:J):List (ByteArray×J):=lg (Ve j) dO
def nC(j:J):J:=iA (Vf j) fP
def Bl(j:J):List (ByteArray×J):=lg (Vf j) fP
def oo(j:J):J:=iA (Bl j) lY
def TH(j:J):List (ByteArray×J):=lg (Bl j) lY
def rB0(_:J):Bool:=false
def Wu(j:J):Bool:=(rB0 j || decide ((qC j).kind≠3))
def Wv(j:J):Bool:=(Wu j || decide ((qD j).kind≠3))
def Ww(j:J):Bool:=(Wv j || decide ((qE j).kind≠3))
def Wx(j:J):Bool:=(Ww j || decide ((rG3 j).kind≠5))
def Wy(j:J):Bool:=(Wx j || decide ((oh j).kind≠4) || iZ (oh j).list)
def Wz(j:J):Bool:=(Wy j || decide ((om j).kind≠4) || iZ (om j).list)
def WC(j:J):Bool:=(Wz j || decide ((qF j).kind≠2))
def WG(j:J):Bool:=(WC j || decide ((qG j).kind≠2))
def WH(j:J):Bool:=(WG j || decide ((qH j).kind≠3))
def xO(j:J):Bool:=(WH j || decide ((nC j).kind≠5) || iZ ((nC j).list.take (nC j).keys.length))
def I1(j:J):Bool:=(xO j || decide ((oo j).kind≠3))
def Qt(j:J):Bool:=(lookJ (o_ j) lY).isSome
def dG(j:J):Ev:=⟨(qC j).text,(qD j).text,(qE j).text,Qt j,if Qt j=true then(oo j).text else aH,rG3 j,(oh j).list.map J.text,(om j).list.map J.text,(qF j).int,(qG j).int,(qH j).text,bH (nC j)⟩
def jP(j:J):Bool:=if Qt j=true then !I1 j&&decide ((TH j).length=0)else !xO j&&decide ((Bl j).length=0)
def xP(j:J):Prop:=j.list.length<=100000/\j.keys.length<=j.list.length
theorem Qu:xP J.zero:=⟨by decide,by decide⟩
theorem Og{ps:List (ByteArray×J)}{s:ByteArray}{j:J}(h:lookJ ps s=some j):j∈ps.map (·.2):=by
 induction ps with
 | nil=>cases h
 | cons p r ih=>
  unfold lookJ at h
  split at h
  ·cases h;simp
  ·rw[List.map_cons];exact List.mem_cons_of_mem _ (ih h)
theorem gv{ps:List (ByteArray×J)}(h:∀x∈ps.map (·.2),xP x)(s:ByteArray):xP (iA ps s):=by
 unfold iA
 cases e:lookJ ps s with
 | none=>exact Qu
 | some j=>exact h j (Og e)
theorem I4(ps:List (ByteArray×J))(k:ByteArray):(lg ps k).Sublist ps:=by
 induction ps with
 | nil=>exact List.Sublist.refl _
 | cons p r ih=>
  unfold lg
  split
  ·exact ih.cons p
  ·exact ih.cons_cons p
theorem bN{ps:List (ByteArray×J)}(h:∀x∈ps.map (·.2),xP x)(s:ByteArray):∀x∈(lg ps s).map (·.2),xP x:=fun x hx=>h x (((I4 ps s).map _).subset hx)
theorem wS{j:J}(h:∀x∈j.list,xP x):∀x∈(o_ j).map (·.2),xP x:=fun x hx=>by
 obtain⟨p,hp,rfl⟩:=List.mem_map.1 hx;exact h _ (List.of_mem_zip hp).2
theorem wT{j:J}{m:Nat}(h:j.keys.length<=j.list.length)(hm:m<j.keys.length):(o_ j).take (m+1)=(o_ j).take m++ [(j.keys.getD m aH,j.list.getD m J.zero)]:=by
 have:(o_ j)[m]?=some (j.keys.getD m aH,j.list.getD m J.zero):=by
  unfold o_;rw[List.zip_eq_zipWith,List.getElem?_zipWith,List.getElem?_eq_getElem hm,List.getElem?_eq_getElem (by omega:m<j.list.length),List.getD_eq_getElem?_getD,List.getElem?_eq_getElem hm,List.getD_eq_getElem?_getD,List.getElem?_eq_getElem (by omega:m<j.list.length)]
  rfl
 rw[List.take_add_one,this]
 rfl
theorem TK{j:J}(h:j.keys.length<=j.list.length):(o_ j).map (·.1)=j.keys:=by
 unfold o_;rw[List.map_fst_zip h]
theorem zF{j:J}{m:Nat}(h:j.keys.length<=j.list.length)(hd:j.keys.Pairwise (· ≠ ·))(hm:m<j.keys.length):j.keys.getD m aH∉((o_ j).take m).map (·.1):=by
 rw[List.map_take,TK h,List.getD_eq_getElem?_getD,List.getElem?_eq_getElem hm];intro hx;obtain⟨q,hq,e⟩:=List.getElem_of_mem hx;rw[List.length_take]at hq;rw[List.getElem_take]at e;exact List.pairwise_iff_getElem.1 hd q m (by omega) hm (by omega) e
open Go.RowKit
def lQ(w:World)(b:Nat)(v0 v1 v2 v3 v4 v5 v6 v7 v8 v9 FW J_ v12 Re Vg Ya:Value):World:=(((((((((((((((w.setCell ⟨b,0,none⟩ v0).setCell ⟨b,1,none⟩ v1).setCell ⟨b,2,none⟩ v2).setCell ⟨b,3,none⟩ v3).setCell ⟨b,4,none⟩ v4).setCell ⟨b,5,none⟩ v5).setCell ⟨b,6,none⟩ v6).setCell ⟨b,7,none⟩ v7).setCell ⟨b,8,none⟩ v8).setCell ⟨b,9,none⟩ v9).setCell ⟨b,10,none⟩ FW).setCell ⟨b,11,none⟩ J_).setCell ⟨b,12,none⟩ v12).setCell ⟨b,13,none⟩ Re).setCell ⟨b,14,none⟩ Vg).setCell ⟨b,15,none⟩ Ya
theorem jQ{w:World}{b:Nat}{t:TypeId}{a0 a1 a2 a3 a4 a5 a6 a7 a8 a9 zf uQ a12 xk jk vQ:Value}(h:w.heap[b]?=some (.cells #[a0,a1,a2,a3,a4,a5,a6,a7,a8,a9,zf,uQ,a12,xk,jk,vQ] t (0,0)))(v0 v1 v2 v3 v4 v5 v6 v7 v8 v9 FW J_ v12 Re Vg Ya:Value):(lQ w b v0 v1 v2 v3 v4 v5 v6 v7 v8 v9 FW J_ v12 Re Vg Ya).heap[b]?=some (.cells #[v0,v1,v2,v3,v4,v5,v6,v7,v8,v9,FW,J_,v12,Re,Vg,Ya] t (0,0)):=by
 have h0:(w.setCell ⟨b,0,none⟩ v0).heap[b]?=some (.cells #[v0,a1,a2,a3,a4,a5,a6,a7,a8,a9,zf,uQ,a12,xk,jk,vQ] t (0,0)):=by rw[heap_setCell_same _ b 0 _ _ _ h];rfl
 have h1:((w.setCell ⟨b,0,none⟩ v0).setCell ⟨b,1,none⟩ v1).heap[b]?=some (.cells #[v0,v1,a2,a3,a4,a5,a6,a7,a8,a9,zf,uQ,a12,xk,jk,vQ] t (0,0)):=by rw[heap_setCell_same _ b 1 _ _ _ h0];rfl
 have h2:(((w.setCell ⟨b,0,none⟩ v0).setCell ⟨b,1,none⟩ v1).setCell ⟨b,2,none⟩ v2).heap[b]?=some (.cells #[v0,v1,v2,a3,a4,a5,a6,a7,a8,a9,zf,uQ,a12,xk,jk,vQ] t (0,0)):=by rw[heap_setCell_same _ b 2 _ _ _ h1];rfl
 have h3:((((w.setCell ⟨b,0,none⟩ v0).setCell ⟨b,1,none⟩ v1).setCell ⟨b,2,none⟩ v2).setCell ⟨b,3,none⟩ v3).heap[b]?=some (.cells #[v0,v1,v2,v3,a4,a5,a6,a7,a8,a9,zf,uQ,a12,xk,jk,vQ] t (0,0)):=by rw[heap_setCell_same _ b 3 _ _ _ h2];rfl
 have h4:(((((w.setCell ⟨b,0,none⟩ v0).setCell ⟨b,1,none⟩ v1).setCell ⟨b,2,none⟩ v2).setCell ⟨b,3,none⟩ v3).setCell ⟨b,4,none⟩ v4).heap[b]?=some (.cells #[v0,v1,v2,v3,v4,a5,a6,a7,a8,a9,zf,uQ,a12,xk,jk,vQ] t (0,0)):=by rw[heap_setCell_same _ b 4 _ _ _ h3];rfl
 have h5:((((((w.setCell ⟨b,0,none⟩ v0).setCell ⟨b,1,none⟩ v1).setCell ⟨b,2,none⟩ v2).setCell ⟨b,3,none⟩ v3).setCell ⟨b,4,none⟩ v4).setCell ⟨b,5,none⟩ v5).heap[b]?=some (.cells #[v0,v1,v2,v3,v4,v5,a6,a7,a8,a9,zf,uQ,a12,xk,jk,vQ] t (0,0)):=by rw[heap_setCell_same _ b 5 _ _ _ h4];rfl
 have h6:(((((((w.setCell ⟨b,0,none⟩ v0).setCell ⟨b,1,none⟩ v1).setCell ⟨b,2,none⟩ v2).setCell ⟨b,3,none⟩ v3).setCell ⟨b,4,none⟩ v4).setCell ⟨b,5,none⟩ v5).setCell ⟨b,6,none⟩ v6).heap[b]?=some (.cells #[v0,v1,v2,v3,v4,v5,v6,a7,a8,a9,zf,uQ,a12,xk,jk,vQ] t (0,0)):=by rw[heap_setCell_same _ b 6 _ _ _ h5];rfl
 have h7:((((((((w.setCell ⟨b,0,none⟩ v0).setCell ⟨b,1,none⟩ v1).setCell ⟨b,2,none⟩ v2).setCell ⟨b,3,none⟩ v3).setCell ⟨b,4,none⟩ v4).setCell ⟨b,5,none⟩ v5).setCell ⟨b,6,none⟩ v6).setCell ⟨b,7,none⟩ v7).heap[b]?=some (.cells #[v0,v1,v2,v3,v4,v5,v6,v7,a8,a9,zf,uQ,a12,xk,jk,vQ] t (0,0)):=by rw[heap_setCell_same _ b 7 _ _ _ h6];rfl
 have h8:(((((((((w.setCell ⟨b,0,none⟩ v0).setCell ⟨b,1,none⟩ v1).setCell ⟨b,2,none⟩ v2).setCell ⟨b,3,none⟩ v3).setCell ⟨b,4,none⟩ v4).setCell ⟨b,5,none⟩ v5).setCell ⟨b,6,none⟩ v6).setCell ⟨b,7,none⟩ v7).setCell ⟨b,8,none⟩ v8).heap[b]?=some (.cells #[v0,v1,v2,v3,v4,v5,v6,v7,v8,a9,zf,uQ,a12,xk,jk,vQ] t (0,0)):=by rw[heap_setCell_same _ b 8 _ _ _ h7];rfl
 have h9:((((((((((w.setCell ⟨b,0,none⟩ v0).setCell ⟨b,1,none⟩ v1).setCell ⟨b,2,none⟩ v2).setCell ⟨b,3,none⟩ v3).setCell ⟨b,4,none⟩ v4).setCell ⟨b,5,none⟩ v5).setCell ⟨b,6,none⟩ v6).setCell ⟨b,7,none⟩ v7).setCell ⟨b,8,none⟩ v8).setCell ⟨b,9,none⟩ v9).heap[b]?=some (.cells #[v0,v1,v2,v3,v4,v5,v6,v7,v8,v9,zf,uQ,a12,xk,jk,vQ] t (0,0)):=by rw[heap_setCell_same _ b 9 _ _ _ h8];rfl
 have h10:(((((((((((w.setCell ⟨b,0,none⟩ v0).setCell ⟨b,1,none⟩ v1).setCell ⟨b,2,none⟩ v2).setCell ⟨b,3,none⟩ v3).setCell ⟨b,4,none⟩ v4).setCell ⟨b,5,none⟩ v5).setCell ⟨b,6,none⟩ v6).setCell ⟨b,7,none⟩ v7).setCell ⟨b,8,none⟩ v8).setCell ⟨b,9,none⟩ v9).setCell ⟨b,10,none⟩ FW).heap[b]?=some (.cells #[v0,v1,v2,v3,v4,v5,v6,v7,v8,v9,FW,uQ,a12,xk,jk,vQ] t (0,0)):=by rw[heap_setCell_same _ b 10 _ _ _ h9];rfl
 have h11:((((((((((((w.setCell ⟨b,0,none⟩ v0).setCell ⟨b,1,none⟩ v1).setCell ⟨b,2,none⟩ v2).setCell ⟨b,3,none⟩ v3).setCell ⟨b,4,none⟩ v4).setCell ⟨b,5,none⟩ v5).setCell ⟨b,6,none⟩ v6).setCell ⟨b,7,none⟩ v7).setCell ⟨b,8,none⟩ v8).setCell ⟨b,9,none⟩ v9).setCell ⟨b,10,none⟩ FW).setCell ⟨b,11,none⟩ J_).heap[b]?=some (.cells #[v0,v1,v2,v3,v4,v5,v6,v7,v8,v9,FW,J_,a12,xk,jk,vQ] t (0,0)):=by rw[heap_setCell_same _ b 11 _ _ _ h10];rfl
 have lL:(((((((((((((w.setCell ⟨b,0,none⟩ v0).setCell ⟨b,1,none⟩ v1).setCell ⟨b,2,none⟩ v2).setCell ⟨b,3,none⟩ v3).setCell ⟨b,4,none⟩ v4).setCell ⟨b,5,none⟩ v5).setCell ⟨b,6,none⟩ v6).setCell ⟨b,7,none⟩ v7).setCell ⟨b,8,none⟩ v8).setCell ⟨b,9,none⟩ v9).setCell ⟨b,10,none⟩ FW).setCell ⟨b,11,none⟩ J_).setCell ⟨b,12,none⟩ v12).heap[b]?=some (.cells #[v0,v1,v2,v3,v4,v5,v6,v7,v8,v9,FW,J_,v12,xk,jk,vQ] t (0,0)):=by rw[heap_setCell_same _ b 12 _ _ _ h11];rfl
 have UW:((((((((((((((w.setCell ⟨b,0,none⟩ v0).setCell ⟨b,1,none⟩ v1).setCell ⟨b,2,none⟩ v2).setCell ⟨b,3,none⟩ v3).setCell ⟨b,4,none⟩ v4).setCell ⟨b,5,none⟩ v5).setCell ⟨b,6,none⟩ v6).setCell ⟨b,7,none⟩ v7).setCell ⟨b,8,none⟩ v8).setCell ⟨b,9,none⟩ v9).setCell ⟨b,10,none⟩ FW).setCell ⟨b,11,none⟩ J_).setCell ⟨b,12,none⟩ v12).setCell ⟨b,13,none⟩ Re).heap[b]?=some (.cells #[v0,v1,v2,v3,v4,v5,v6,v7,v8,v9,FW,J_,v12,Re,jk,vQ] t (0,0)):=by rw[heap_setCell_same _ b 13 _ _ _ lL];rfl
 have mX:(((((((((((((((w.setCell ⟨b,0,none⟩ v0).setCell ⟨b,1,none⟩ v1).setCell ⟨b,2,none⟩ v2).setCell ⟨b,3,none⟩ v3).setCell ⟨b,4,none⟩ v4).setCell ⟨b,5,none⟩ v5).setCell ⟨b,6,none⟩ v6).setCell ⟨b,7,none⟩ v7).setCell ⟨b,8,none⟩ v8).setCell ⟨b,9,none⟩ v9).setCell ⟨b,10,none⟩ FW).setCell ⟨b,11,none⟩ J_).setCell ⟨b,12,none⟩ v12).setCell ⟨b,13,none⟩ Re).setCell ⟨b,14,none⟩ Vg).heap[b]?=some (.cells #[v0,v1,v2,v3,v4,v5,v6,v7,v8,v9,FW,J_,v12,Re,Vg,vQ] t (0,0)):=by rw[heap_setCell_same _ b 14 _ _ _ UW];rfl
 have h15:((((((((((((((((w.setCell ⟨b,0,none⟩ v0).setCell ⟨b,1,none⟩ v1).setCell ⟨b,2,none⟩ v2).setCell ⟨b,3,none⟩ v3).setCell ⟨b,4,none⟩ v4).setCell ⟨b,5,none⟩ v5).setCell ⟨b,6,none⟩ v6).setCell ⟨b,7,none⟩ v7).setCell ⟨b,8,none⟩ v8).setCell ⟨b,9,none⟩ v9).setCell ⟨b,10,none⟩ FW).setCell ⟨b,11,none⟩ J_).setCell ⟨b,12,none⟩ v12).setCell ⟨b,13,none⟩ Re).setCell ⟨b,14,none⟩ Vg).setCell ⟨b,15,none⟩ Ya).heap[b]?=some (.cells #[v0,v1,v2,v3,v4,v5,v6,v7,v8,v9,FW,J_,v12,Re,Vg,Ya] t (0,0)):=by rw[heap_setCell_same _ b 15 _ _ _ mX];rfl
 exact h15
theorem jR(w:World)(b:Nat)(v0 v1 v2 v3 v4 v5 v6 v7 v8 v9 FW J_ v12 Re Vg Ya:Value):aj (One b) w (lQ w b v0 v1 v2 v3 v4 v5 v6 v7 v8 v9 FW J_ v12 Re Vg Ya):=by
 have K:∀(W:World) (o:Nat) (v:Value),aj (One b) W (W.setCell ⟨b,o,none⟩ v):=fun W o v=>aj.setCell (aj.refl _ _) (fun _=>(rfl:b=b)) _;exact((((((((((((((((K _ _ _)).then (K _ _ _)).then (K _ _ _)).then (K _ _ _)).then (K _ _ _)).then (K _ _ _)).then (K _ _ _)).then (K _ _ _)).then (K _ _ _)).then (K _ _ _)).then (K _ _ _)).then (K _ _ _)).then (K _ _ _)).then (K _ _ _)).then (K _ _ _)).then (K _ _ _)
theorem az{w:World}{b:Nat}{t:TypeId}{a0 a1 a2 a3 a4 a5 a6 a7 a8 a9 zf uQ a12 xk jk vQ:Value}(h:w.heap[b]?=some (.cells #[a0,a1,a2,a3,a4,a5,a6,a7,a8,a9,zf,uQ,a12,xk,jk,vQ] t (0,0)))(j:Nat)(v:Value)(hj: [a0,a1,a2,a3,a4,a5,a6,a7,a8,a9,zf,uQ,a12,xk,jk,vQ][j]?=some v):w.cell? ⟨b,j,none⟩=some v:=aR (cur:= [a0,a1,a2,a3,a4,a5,a6,a7,a8,a9,zf,uQ,a12,xk,jk,vQ]) h j v hj
theorem aU{w:World}{b:Nat}{t:TypeId}{a0 a1 a2 a3 a4 a5 a6 a7 a8 a9 zf uQ a12 xk jk vQ:Value}(h:w.heap[b]?=some (.cells #[a0,a1,a2,a3,a4,a5,a6,a7,a8,a9,zf,uQ,a12,xk,jk,vQ] t (0,0)))(j:Nat):w.frozen? ⟨b,j,none⟩=false:=frozen_of_row w b j _ _ h
theorem pg{w:World}{b:Nat}{t:TypeId}{a0 a1 a2 a3 a4 a5 a6 a7 a8 a9 zf uQ a12 xk jk vQ:Value}(h:w.heap[b]?=some (.cells #[a0,a1,a2,a3,a4,a5,a6,a7,a8,a9,zf,uQ,a12,xk,jk,vQ] t (0,0)))(j:Nat):w.cell? ⟨b,j,none⟩=#[a0,a1,a2,a3,a4,a5,a6,a7,a8,a9,zf,uQ,a12,xk,jk,vQ][j]?:=cell_of_row w b j _ _ _ h
theorem I5{w:World}{b:Nat}{t:TypeId}{a0 a1 a2 a3 a4 a5 a6 a7 a8 a9 zf uQ a12 xk jk vQ:Value}(h:w.heap[b]?=some (.cells #[a0,a1,a2,a3,a4,a5,a6,a7,a8,a9,zf,uQ,a12,xk,jk,vQ] t (0,0))):(loadVar 28 ⟨b,0,none⟩).run Tryz.prog w=.ok (.agg #[a0,a1,a2,a3,a4,a5,a6,a7,a8,a9,zf,uQ,a12,xk,jk,vQ]) w:=by
 have k0:=az h 0 _ rfl;have k1:=az h 1 _ rfl;have k2:=az h 2 _ rfl;have k3:=az h 3 _ rfl;have k4:=az h 4 _ rfl;have k5:=az h 5 _ rfl;have k6:=az h 6 _ rfl;have k7:=az h 7 _ rfl;have k8:=az h 8 _ rfl;have k9:=az h 9 _ rfl;have Oh:=az h 10 _ rfl;have TL:=az h 11 _ rfl;have Mm:=az h 12 _ rfl;have TM:=az h 13 _ rfl;have TN:=az h 14 _ rfl;have TP:=az h 15 _ rfl;simp[loadVar,go_sem,k0,k1,k2,k3,k4,k5,k6,k7,k8,k9,Oh,TL,Mm,TM,TN,TP]
theorem results_cell_tmp{fn:Func}{a u:Tmp}{t:TypeId}(h:fn.results=#[.cell a t,.tmp u])(tmps:Array Value)(P:Program)(w:World){ad:Addr}{v:Value}(hp:tmps.getD a undef=.pointer (some ad))(hl:(loadVar t ad).run P w=.ok v w):
    (results fn tmps).run P w=.ok (.tuple #[v,tmps.getD u undef]) w:=by
 rw[Array.getD_eq_getD_getElem?]at hp;simp[results,h,hp,hl,asAddr,Result.andThen]
theorem Bn(e:Ev)(p:Pt):∃a0 a1 a2 b3 a4 n5 n6 a7 p8 n8 c8 p9 n9 c9 ov oF gI oz oG kW mU oH jk oC oI kX,ed e p=.agg #[.string a0,.string a1,.string a2,.bool b3,.string a4,.int .i64 n5,.int .i64 n6,.string a7,.slice p8 n8 c8,.slice p9 n9 c9,.slice ov oF gI,.slice oz oG kW,.int .i64 mU,.int .i64 oH,.string jk,.slice oC oI kX]:=⟨_,_,_,_,_,_,_,_,_,_,_,_,_,_,_,_,_,_,_,_,_,_,_,_,_,_,rfl⟩
open Go.RowKit Go.Maps
theorem zh{O:Nat->Prop}{w:World}{j:J}{k i:Int}{t:ByteArray}{pk pl:Option Addr}{nk ck nl cl:Nat}(hO:∀x,O x->x<w.heap.size)(hj:isJ O w j [.int .i64 k,.int .i64 i,.string t,.slice pk nk ck,.slice pl nl cl])(gM:j.keys.length<=j.list.length)(hd:j.keys.Pairwise (· ≠ ·))(hn:j.keys.length<=80000)(hl:j.list.length<=100000)(rQ:∀x∈j.keys,x.size<=1000000000)(hv:∀x∈j.list,xP x)(lV:Qt j=false)(jm:xO j=true):
    Calls Tryz.prog 34 #[.agg #[.int .i64 k,.int .i64 i,.string t,.slice pk nk ck,.slice pl nl cl]] w fun x w'=>(∃p,x=.returned (.tuple #[ed (dG j) p,.bool (jP j)])/\mF (fun q=>O q\/ fB w w' q) w' (dG j) p)/\Below w.heap.size w w':=by
 obtain⟨R,hR⟩:∃R,R=w.heap.size+1+1+1:=⟨_,rfl⟩;obtain⟨M,hM⟩:∃M,M=w.heap.size+1+1:=⟨_,rfl⟩;obtain⟨WB,dw⟩:∃WB,WB=(((w.alloc (.cells #[.int .i64 k,.int .i64 i,.string t,.slice pk nk ck,.slice pl nl cl] 25)).alloc (.cells #[.string ⟨#[]⟩,.string ⟨#[]⟩,.string ⟨#[]⟩,.bool false,.string ⟨#[]⟩,.int .i64 0,.int .i64 0,.string ⟨#[]⟩,.slice none 0 0,.slice none 0 0,.slice none 0 0,.slice none 0 0,.int .i64 0,.int .i64 0,.string ⟨#[]⟩,.slice none 0 0] 28)).alloc (.map #[] 0)).alloc (.cells #[.map (some M),.bool false] 84):=⟨_,rfl⟩;have cK:Below w.heap.size w WB:=by rw[dw];exact((((Below.refl _ _).alloc (Nat.le_refl _) _).alloc (by simp) _).alloc (by simp<;>omega) _).alloc (by simp<;>omega) _
 have wU:WB.heap.size=w.heap.size+4:=by rw[dw];simp
 have xA:WB.heap[R]?=some (.cells #[.map (some M),.bool false] 84 (0,0)):=by
  rw[dw];have:=heap_alloc_new (((w.alloc (.cells #[.int .i64 k,.int .i64 i,.string t,.slice pk nk ck,.slice pl nl cl] 25)).alloc (.cells #[.string ⟨#[]⟩,.string ⟨#[]⟩,.string ⟨#[]⟩,.bool false,.string ⟨#[]⟩,.int .i64 0,.int .i64 0,.string ⟨#[]⟩,.slice none 0 0,.slice none 0 0,.slice none 0 0,.slice none 0 0,.int .i64 0,.int .i64 0,.string ⟨#[]⟩,.slice none 0 0] 28)).alloc (.map #[] 0)) (.cells #[.map (some M),.bool false] 84);rw[hR];simpa using this
 have vO:WB.heap[w.heap.size]?=some (.cells #[.int .i64 k,.int .i64 i,.string t,.slice pk nk ck,.slice pl nl cl] 25 (0,0)):=by
  rw[dw,Below.heap_alloc _ _ _ (by simp<;>omega),Below.heap_alloc _ _ _ (by simp<;>omega)];exact jL _ _
 have mo:WB.heap[w.heap.size+1]?=some (.cells #[.string ⟨#[]⟩,.string ⟨#[]⟩,.string ⟨#[]⟩,.bool false,.string ⟨#[]⟩,.int .i64 0,.int .i64 0,.string ⟨#[]⟩,.slice none 0 0,.slice none 0 0,.slice none 0 0,.slice none 0 0,.int .i64 0,.int .i64 0,.string ⟨#[]⟩,.slice none 0 0] 28 (0,0)):=by
  rw[dw,Below.heap_alloc _ _ _ (by simp<;>omega),Below.heap_alloc _ _ _ (by simp)];exact iq _ _
 have sW:fD WB M []:=by
  have h1:=fD.made ((w.alloc (.cells #[.int .i64 k,.int .i64 i,.string t,.slice pk nk ck,.slice pl nl cl] 25)).alloc (.cells #[.string ⟨#[]⟩,.string ⟨#[]⟩,.string ⟨#[]⟩,.bool false,.string ⟨#[]⟩,.int .i64 0,.int .i64 0,.string ⟨#[]⟩,.slice none 0 0,.slice none 0 0,.slice none 0 0,.slice none 0 0,.int .i64 0,.int .i64 0,.string ⟨#[]⟩,.slice none 0 0] 28));have h2:((w.alloc (.cells #[.int .i64 k,.int .i64 i,.string t,.slice pk nk ck,.slice pl nl cl] 25)).alloc (.cells #[.string ⟨#[]⟩,.string ⟨#[]⟩,.string ⟨#[]⟩,.bool false,.string ⟨#[]⟩,.int .i64 0,.int .i64 0,.string ⟨#[]⟩,.slice none 0 0,.slice none 0 0,.slice none 0 0,.slice none 0 0,.int .i64 0,.int .i64 0,.string ⟨#[]⟩,.slice none 0 0] 28)).heap.size=M:=by rw[hM];simp
  rw[h2]at h1;rw[dw];exact h1.bf (S:=fun _=>False) ((aj.refl _ _).alloc _) (fun h=>h)
 have Q9:ER O WB R M [] false:=⟨xA,⟨[],sW,rfl⟩,by omega,fun q hq=>by have:=hO q hq;omega⟩;have oq:=(dt hj).2.2.2.1;have mV:=(dt hj).2.2.2.2.1;have lM:=(dt hj).2.2.2.2.2.1;have EK:=(dt hj).2.2.2.2.2.2.1;have ny:=(dt hj).2.2.2.2.2.2.2;have Ca:=lM.1;have jy:Hid (nk=j.keys.length):=oq;have qP:Hid (nl=j.list.length):=mV;have BX:Hid (j.keys.length<=j.list.length):=gM;have HD:Hid (j.keys.Pairwise (· ≠ ·)):=hd;have TQ:Hid (∀x∈j.keys,x.size<=1000000000):=rQ;rw[<-oq]at hn Ca gM;rw[<-mV]at hl EK gM;have GU:Hid (R=w.heap.size+3/\M=w.heap.size+2):=⟨by omega,by omega⟩;have yX:Hid (Qt j=false):=lV;have Bo:Hid (xO j=true):=jm;have ll:Hid (Below w.heap.size w WB):=cK;have HMM:=iO Tryz.underlying82;have T0:=wS hv;have T1:=bN T0 eX;have T2:=bN T1 gH;have T3:=bN T2 bZ;have T4:=bN T3 aS;have T5:=bN T4 eu;have T6:=bN T5 dA;have T7:=bN T6 cu;have T8:=bN T7 uL;have T9:=bN T8 dO;have C0:Hid (∀W,ER O W R M (o_ j) (rB0 j)->Calls Tryz.prog 71 #[.pointer (some ⟨R,0,none⟩),.string eX] W fun x w'=>x=.returned (.string (qC j).text)/\ER O w' R M (U7 j) (Wu j)/\aj (dJ R M) W w'):=fun W h=>d_ h eX (dE (by decide));have C1:Hid (∀W,ER O W R M (U7 j) (Wu j)->Calls Tryz.prog 71 #[.pointer (some ⟨R,0,none⟩),.string gH] W fun x w'=>x=.returned (.string (qD j).text)/\ER O w' R M (U8 j) (Wv j)/\aj (dJ R M) W w'):=fun W h=>d_ h gH (dE (by decide));have C2:Hid (∀W,ER O W R M (U8 j) (Wv j)->Calls Tryz.prog 71 #[.pointer (some ⟨R,0,none⟩),.string bZ] W fun x w'=>x=.returned (.string (qE j).text)/\ER O w' R M (U9 j) (Ww j)/\aj (dJ R M) W w'):=fun W h=>d_ h bZ (dE (by decide));have C3:Hid (∀W,ER O W R M (U9 j) (Ww j)->Calls Tryz.prog 72 #[.pointer (some ⟨R,0,none⟩),.string aS,.int .i64 5] W fun x w'=>(∃k i t pk nk ck pl nl cl,x=.returned (.agg #[.int .i64 k,.int .i64 i,.string t,.slice pk nk ck,.slice pl nl cl])/\isJ O w' (rG3 j) [.int .i64 k,.int .i64 i,.string t,.slice pk nk ck,.slice pl nl cl])/\ER O w' R M (U_ j) (Wx j)/\aj (dJ R M) W w'):=fun W h=>mQ h aS (dE (by decide)) 5;have C4:Hid (∀W,ER O W R M (U_ j) (Wx j)->Calls Tryz.prog 73 #[.pointer (some ⟨R,0,none⟩),.string eu] W fun x w'=>(∃q c,x=.returned (.slice q (oh j).list.length c)/\jT (fB W w') w' q c ((oh j).list.map J.text))/\ER O w' R M (Va j) (Wy j)/\aj (dJ R M) W w'):=fun W h=>jN h eu (dE (by decide)) (gv T4 _).1;have C5:Hid (∀W,ER O W R M (Va j) (Wy j)->Calls Tryz.prog 73 #[.pointer (some ⟨R,0,none⟩),.string dA] W fun x w'=>(∃q c,x=.returned (.slice q (om j).list.length c)/\jT (fB W w') w' q c ((om j).list.map J.text))/\ER O w' R M (Vb j) (Wz j)/\aj (dJ R M) W w'):=fun W h=>jN h dA (dE (by decide)) (gv T5 _).1;have C6:Hid (∀W,ER O W R M (Vb j) (Wz j)->Calls Tryz.prog 74 #[.pointer (some ⟨R,0,none⟩),.string cu] W fun x w'=>x=.returned (.int .i64 (qF j).int)/\ER O w' R M (Vd j) (WC j)/\aj (dJ R M) W w'):=fun W h=>iT h cu (dE (by decide));have C7:Hid (∀W,ER O W R M (Vd j) (WC j)->Calls Tryz.prog 74 #[.pointer (some ⟨R,0,none⟩),.string uL] W fun x w'=>x=.returned (.int .i64 (qG j).int)/\ER O w' R M (Ve j) (WG j)/\aj (dJ R M) W w'):=fun W h=>iT h uL (dE (by decide));have C8:Hid (∀W,ER O W R M (Ve j) (WG j)->Calls Tryz.prog 71 #[.pointer (some ⟨R,0,none⟩),.string dO] W fun x w'=>x=.returned (.string (qH j).text)/\ER O w' R M (Vf j) (WH j)/\aj (dJ R M) W w'):=fun W h=>d_ h dO (dE (by decide));have C9:Hid (∀W,ER O W R M (Vf j) (WH j)->Calls Tryz.prog 75 #[.pointer (some ⟨R,0,none⟩),.string fP] W fun x w'=>(∃q c,x=.returned (.slice q (bH (nC j)).length c)/\Aa (fB W w') w' q c (bH (nC j)))/\ER O w' R M (Bl j) (xO j)/\aj (dJ R M) W w'):=fun W h=>uk h fP (dE (by decide)) (gv T9 _).1 (gv T9 _).2;clear lV jm hj oq mV hv hd rQ cK xA sW T0 T1 T2 T3 T4 T5 T6 T7 T8 T9;go_enter Tryz.func34,Tryz.ntmps34;go_wp2;rw[<-hR,<-hM,<-dw];have hR1:w.heap.size+3<=R:=by omega
 have hR2:R<=w.heap.size+3:=by omega
 have hM1:w.heap.size+2<=M:=by omega
 have hM2:M<=w.heap.size+2:=by omega
 have NG:WB.heap.size<=w.heap.size+4:=by omega
 have Pf:w.heap.size+4<=WB.heap.size:=by omega
 clear dw HMM hR hM wU
 go_loopw [18] (fun v wr=>∃m:Nat,v=.int .i64 m/\m<=nk/\ER O wr R M ((o_ j).take m) false/\aj (One M) WB wr) (fun v _=>nk - (intOf v).toNat)
 case atStart=>exact⟨0,rfl,Nat.zero_le _,by rw[List.take_zero];exact Q9,aj.refl _ _⟩
 case round=>
  obtain⟨m,rfl,hm,j6,rU⟩:=hrel;have fI:=rU.size;have iB:=(rU.block w.heap.size (by omega) (by unfold One;omega)).trans vO;obtain⟨es,wE,hrel⟩:=j6.map;have rP:=j6.c0
  by_cases mW:m<nk
  ·have oL:(m:Int)<(nk:Int):=by omega
   have Wq:(m:Int)<(nl:Int):=by omega
   have sD:m<j.keys.length:=by rw[<-jy.out];exact mW
   have iP:m<j.list.length:=by rw[<-qP.out];omega
   obtain⟨ka,Cy,Ws,Bp⟩:=lM.2 m sD;subst Cy;have jO:∀q,O q->wr.heap[q]?=w.heap[q]?:=fun q hq=>(rU.block q (by have:=hO q hq;omega) (by unfold One;have:=hO q hq;omega)).trans (ll.out.block q (hO q hq));have Gi:wr.cell? (ka.add m)=some (.string (j.keys.getD m aH)):=(World.cell?_of_block (by rw[aY];exact jO _ Ws)).trans Bp;obtain⟨lb,lo,cs,tY,uY,bY,jF⟩:=isJs.at j.list 0 m ny iP;subst tY;obtain⟨x0,x1,x2,p3,n3,c3,p4,n4,c4,rfl⟩:=dD jF;have jA:=jO lb uY;have jH:j.keys.getD m aH∈j.keys:=by rw[List.getD_eq_getElem?_getD,List.getElem?_eq_getElem sD];exact List.getElem_mem _
   have wC:tZ (j.keys.getD m aH):=dE (TQ.out _ jH);have ru:=zF BX.out HD.out sD;rw[<-hrel.keys]at ru;have Mo:es.length<90000:=by
    have:=congrArg List.length hrel.keys;rw[List.length_map,List.length_map,List.length_take]at this;omega
   have TR:Hid ((o_ j).take (m+1)=(o_ j).take m++ [(j.keys.getD m aH,j.list.getD m J.zero)]):=wT BX.out sD;obtain⟨u,hu⟩:∃u,j.keys.getD m aH=u:=⟨_,rfl⟩;rw[hu]at Gi wC ru TR;have TS:vJ O wr (j.list.getD m J.zero) (.agg #[.int .i64 x0,.int .i64 x1,.string x2,.slice p3 n3 c3,.slice p4 n4 c4]):=⟨_,_,_,_,_,_,_,_,_,rfl,jF.carry fun q hq=>⟨hq,jO q hq⟩⟩;have HVJ:Hid _:=TS;have Kt:Hid (lb<w.heap.size):=hO lb uY;have hC:∀W:World,(∀q,q<wr.heap.size->q≠M->W.heap[q]?=wr.heap[q]?)->W.cell? ⟨R,0,none⟩=some (.map (some M))/\W.cell? ⟨w.heap.size,4,none⟩=some (.slice (some ⟨lb,lo,none⟩) nl cl)/\∀n v, [Value.int .i64 x0,.int .i64 x1,.string x2,.slice p3 n3 c3,.slice p4 n4 c4][n]?=some v->W.cell? ⟨lb,lo+m*5+n,none⟩=some v:=fun W hW=>by
    have Sc:=hO lb uY;refine⟨(World.cell?_of_block (a:=⟨R,0,none⟩) (hW R (by omega) (by omega))).trans rP,(World.cell?_of_block (a:=⟨w.heap.size,4,none⟩) (hW w.heap.size (by omega) (by omega))).trans (bA iB),fun n v h=> ?_⟩;have:=bY n v h;rw[Nat.zero_add]at this;exact(World.cell?_of_block (a:=⟨lb,lo+m*5+n,none⟩) ((hW lb (by omega) (by omega)).trans jA)).trans this
   have HC:Hid _:=hC;have b3:=fK iB;have Bq:fD wr.drew M es:=wE.bf (S:=fun _=>False) (aj.refl _ _).drew (fun h=>h);have fE:∀q,q<wr.heap.size->q≠M->wr.drew.heap[q]?=wr.heap[q]?:=fun q _ _=>rfl;clear hC TS bY jF jO hu Bp jH jA rP;go_wp2;refine aD (by kernel_rfl) (fun W=>∀q,q<wr.heap.size->q≠M->W.heap[q]?=wr.heap[q]?) ?_;change wpIn _ _ _ _ _ _ _ _ (World.drew _);refine aa (i:=0) (d:=some 23) rfl ?_;refine aB (i:=1) (d:=some 24) rfl (by(intro wq hq;have q0:=(HC.out wq hq).1;go_simp;first| done| with_reducible rfl)) ?_;refine aa (i:=2) (d:=some 25) rfl ?_;refine aa (i:=3) (d:=some 26) rfl ?_;refine aB (i:=4) (d:=some 27) rfl (by(intro wq hq;have q0:=(HC.out wq hq).2.1;go_simp;first| done| with_reducible rfl)) ?_;refine aa (i:=5) (d:=some 28) rfl ?_;refine aa (i:=6) (d:=some 29) rfl ?_;refine aB (i:=7) (d:=some 30) rfl (by(intro wq hq;have qq:=(HC.out wq hq).2.2;have q0:=qq 0 _ rfl;rw[Nat.add_zero]at q0;have q1:=qq 1 _ rfl;have q2:=qq 2 _ rfl;have q3:=qq 3 _ rfl;have q4:=qq 4 _ rfl;clear qq;go_simp;first| done| with_reducible rfl)) ?_;refine ak (i:=8) fE rfl ?_;intro K hK;refine zD _ _ _ rfl (.agg #[.int .i64 x0,.int .i64 x1,.string x2,.slice p3 n3 c3,.slice p4 n4 c4]) rfl rfl rfl Bq wC ru Mo ?_;intro W2 Qr m_;refine hK _ _ ?_;clear hK K;have ou:aj (One M) wr.drew W2:=aj.dm m_ fun _ _ e=>(Option.some.inj e).symm;have jG:aj (One M) wr W2:=⟨ou.os,ou.tape,ou.output,ou.size,ou.block⟩;have h_:∀q,q<wr.heap.size->q≠M->W2.heap[q]?=wr.heap[q]?:=fun q hq hn=>jG.block q hq hn;have CZ:ER O W2 R M ((o_ j).take m++ [(u,j.list.getD m J.zero)]) false:=⟨(jG.block R (by have:=GU.out;omega) j6.ne).trans j6.obj,⟨_,Qr,og.snoc (vJ.carry HVJ.out fun q hq=>⟨hq,jG.block q (j6.low q hq).2.2 (j6.low q hq).2.1⟩) (hrel.carry fun q hq=>⟨hq,jG.block q (j6.low q hq).2.2 (j6.low q hq).2.1⟩)⟩,j6.ne,fun q hq=>⟨(j6.low q hq).1,(j6.low q hq).2.1,Nat.lt_of_lt_of_le (j6.low q hq).2.2 jG.size⟩⟩;refine aA h_ (by kernel_rfl) ?_ _;go_wp2;go_roundw
   case rel=>exact⟨m+1,by go_num,mW,by rw[TR.out];exact CZ,rU.then jG⟩
   case measure=>simp[intOf];omega
  ·obtain rfl:m=nk:=by omega
   have AR:(o_ j).take m=o_ j:=List.take_of_length_le (by unfold o_;rw[List.length_zip,<-jy.out];omega);rw[AR]at j6 hrel;clear AR;obtain⟨⟨kz,iz,tz,pz,nz,cz,Mq,Mr,Ms,hvz,_⟩,sZ⟩:=hrel.look lY;have TT:(lookE es ⟨#[107,101,121]⟩).isSome=false:=sZ.trans yX.out;clear sZ;have yJ:=j6.below ((Below.refl _ _).alloc (Nat.le_refl _) (.cells #[.int .i64 kz,.int .i64 iz,.string tz,.slice pz nz cz,.slice Mq Mr Ms] 25));have D0:=C0.out _ yJ;have Br:aj (dJ R M) WB (wr.alloc (.cells #[.int .i64 kz,.int .i64 iz,.string tz,.slice pz nz cz,.slice Mq Mr Ms] 25)):=(rU.mono fun q _ e=>.inr e).alloc _;have HW0:Hid (aj (dJ R M) WB (wr.alloc (.cells #[.int .i64 kz,.int .i64 iz,.string tz,.slice pz nz cz,.slice Mq Mr Ms] 25))):=Br;clear Br;go_wp2_with(first
    | (go_at_call 75;have _g:=D9;refine D9.mono ?_;rintro x kD ⟨⟨q9,c9,rfl,hq9⟩,Fz,se⟩
       have ry:Hid (aj (dJ R M) WB kD):=TU.out.then se;clear D9;have FB:=Fz.below ((Below.refl _ _).alloc (Nat.le_refl _) (.cells #[.string (qC j).text,.string (qD j).text,.string (qE j).text,.bool false,.string ⟨#[]⟩,.int .i64 kC,.int .i64 iC,.string tC,.slice nG qo nH,.slice nI qp nJ,.slice q4 (oh j).list.length c4,.slice q5 (om j).list.length c5,.int .i64 (qF j).int,.int .i64 (qG j).int,.string (qH j).text,.slice q9 (bH (nC j)).length c9] 28));have e1:=FB.c1;rw[Bo.out]at e1;have e0:=FB.c0;obtain⟨TV,Bt,Bu⟩:=FB.map;obtain⟨n9,Mt⟩:∃n,TV.length=n:=⟨_,rfl⟩;have cB:=Bt.len;simp only[Mt]at cB;have HN9:Hid (TV.length=n9):=Mt;clear Mt;have bu:=((ry.out.alloc (.cells #[.string (qC j).text,.string (qD j).text,.string (qE j).text,.bool false,.string ⟨#[]⟩,.int .i64 kC,.int .i64 iC,.string tC,.slice nG qo nH,.slice nI qp nJ,.slice q4 (oh j).list.length c4,.slice q5 (om j).list.length c5,.int .i64 (qF j).int,.int .i64 (qG j).int,.string (qH j).text,.slice q9 (bH (nC j)).length c9] 28)).block (w.heap.size+1) (by omega) (by unfold dJ;omega)).trans mo;have i0:=az bu 0 _ rfl;have i1:=az bu 1 _ rfl;have i2:=az bu 2 _ rfl;have i3:=az bu 3 _ rfl;have i4:=az bu 4 _ rfl;have i5:=az bu 5 _ rfl;have i6:=az bu 6 _ rfl;have i7:=az bu 7 _ rfl;have i8:=az bu 8 _ rfl;have i9:=az bu 9 _ rfl;have i10:=az bu 10 _ rfl;have i11:=az bu 11 _ rfl;have i12:=az bu 12 _ rfl;have i13:=az bu 13 _ rfl;have i14:=az bu 14 _ rfl;have i15:=az bu 15 _ rfl;have z0:=aU bu 0;have z1:=aU bu 1;have z2:=aU bu 2;have z3:=aU bu 3;have z4:=aU bu 4;have z5:=aU bu 5;have z6:=aU bu 6;have z7:=aU bu 7;have z8:=aU bu 8;have z9:=aU bu 9;have z10:=aU bu 10;have z11:=aU bu 11;have z12:=aU bu 12;have z13:=aU bu 13;have z14:=aU bu 14;have z15:=aU bu 15)
    | (go_at_call 71;have _g:=D8;refine D8.mono ?_;rintro x w9 ⟨rfl,hE9,Mv⟩
       have TU:Hid (aj (dJ R M) WB w9):=HW8.out.then Mv;clear D8;have D9:=C9.out w9 hE9)
    | (go_at_call 74;have _g:=D7;refine D7.mono ?_;rintro x w8 ⟨rfl,hE8,pK⟩
       have HW8:Hid (aj (dJ R M) WB w8):=HW7.out.then pK;clear D7;have D8:=C8.out w8 hE8)
    | (go_at_call 74;have _g:=D6;refine D6.mono ?_;rintro x w7 ⟨rfl,hE7,o7⟩
       have HW7:Hid (aj (dJ R M) WB w7):=HW6.out.then o7;clear D6;have D7:=C7.out w7 hE7)
    | (go_at_call 73;have _g:=D5;refine D5.mono ?_;rintro x w6 ⟨⟨q5,c5,rfl,VY⟩,hE6,qX⟩
       have HW6:Hid (aj (dJ R M) WB w6):=TW.out.then qX;clear D5;have D6:=C6.out w6 hE6)
    | (go_at_call 73;have _g:=D4;refine D4.mono ?_;rintro x w5 ⟨⟨q4,c4,rfl,WI⟩,vC,uF⟩
       have TW:Hid (aj (dJ R M) WB w5):=Mw.out.then uF;clear D4;have D5:=C5.out w5 vC)
    | (go_at_call 72;have _g:=D3;refine D3.mono ?_;rintro x w4 ⟨⟨kC,iC,tC,nG,qo,nH,nI,qp,nJ,rfl,Mx⟩,TG,eY⟩
       have Mw:Hid (aj (dJ R M) WB w4):=HW3.out.then eY;clear D3;have D4:=C4.out w4 TG)
    | (go_at_call 71;have _g:=D2;refine D2.mono ?_;rintro x w3 ⟨rfl,Wh,iX⟩
       have HW3:Hid (aj (dJ R M) WB w3):=HW2.out.then iX;clear D2;have D3:=C3.out w3 Wh)
    | (go_at_call 71;have _g:=D1;refine D1.mono ?_;rintro x w2 ⟨rfl,CZ,jY⟩
       have HW2:Hid (aj (dJ R M) WB w2):=HW1.out.then jY;clear D1;have D2:=C2.out w2 CZ)
    | (go_at_call 71;have _g:=D0;refine D0.mono ?_;rintro x w1 ⟨rfl,DD,xh⟩
       have HW1:Hid (aj (dJ R M) WB w1):=HW0.out.then xh;clear D0;have D1:=C1.out w1 DD)
    | (at_lookup;refine mI rfl _ _ rfl rfl rfl wE (dE (s:=⟨#[107,101,121]⟩) (by decide)) _ hvz ?_;rw[TT]))
   have iF:=jQ bu (.string (qC j).text) (.string (qD j).text) (.string (qE j).text) (.bool false) (.string ⟨#[]⟩) (.int .i64 kC) (.int .i64 iC) (.string tC) (.slice nG qo nH) (.slice nI qp nJ) (.slice q4 (oh j).list.length c4) (.slice q5 (om j).list.length c5) (.int .i64 (qF j).int) (.int .i64 (qG j).int) (.string (qH j).text) (.slice q9 (bH (nC j)).length c9);have mD:aj (One (w.heap.size+1)) _ _:=jR (kD.alloc (.cells #[.string (qC j).text,.string (qD j).text,.string (qE j).text,.bool false,.string ⟨#[]⟩,.int .i64 kC,.int .i64 iC,.string tC,.slice nG qo nH,.slice nI qp nJ,.slice q4 (oh j).list.length c4,.slice q5 (om j).list.length c5,.int .i64 (qF j).int,.int .i64 (qG j).int,.string (qH j).text,.slice q9 (bH (nC j)).length c9] 28)) (w.heap.size+1) (.string (qC j).text) (.string (qD j).text) (.string (qE j).text) (.bool false) (.string ⟨#[]⟩) (.int .i64 kC) (.int .i64 iC) (.string tC) (.slice nG qo nH) (.slice nI qp nJ) (.slice q4 (oh j).list.length c4) (.slice q5 (om j).list.length c5) (.int .i64 (qF j).int) (.int .i64 (qG j).int) (.string (qH j).text) (.slice q9 (bH (nC j)).length c9);obtain⟨WE,jr⟩:∃WE,WE=lQ (kD.alloc (.cells #[.string (qC j).text,.string (qD j).text,.string (qE j).text,.bool false,.string ⟨#[]⟩,.int .i64 kC,.int .i64 iC,.string tC,.slice nG qo nH,.slice nI qp nJ,.slice q4 (oh j).list.length c4,.slice q5 (om j).list.length c5,.int .i64 (qF j).int,.int .i64 (qG j).int,.string (qH j).text,.slice q9 (bH (nC j)).length c9] 28)) (w.heap.size+1) (.string (qC j).text) (.string (qD j).text) (.string (qE j).text) (.bool false) (.string ⟨#[]⟩) (.int .i64 kC) (.int .i64 iC) (.string tC) (.slice nG qo nH) (.slice nI qp nJ) (.slice q4 (oh j).list.length c4) (.slice q5 (om j).list.length c5) (.int .i64 (qF j).int) (.int .i64 (qG j).int) (.string (qH j).text) (.slice q9 (bH (nC j)).length c9):=⟨_,rfl⟩;rw[<-jr]at iF mD;unfold lQ at jr;rw[<-jr];clear jr;have k0:=az iF 0 _ rfl;have k1:=az iF 1 _ rfl;have k2:=az iF 2 _ rfl;have k3:=az iF 3 _ rfl;have k4:=az iF 4 _ rfl;have k5:=az iF 5 _ rfl;have k6:=az iF 6 _ rfl;have k7:=az iF 7 _ rfl;have k8:=az iF 8 _ rfl;have k9:=az iF 9 _ rfl;have Oh:=az iF 10 _ rfl;have TL:=az iF 11 _ rfl;have Mm:=az iF 12 _ rfl;have TM:=az iF 13 _ rfl;have TN:=az iF 14 _ rfl;have TP:=az iF 15 _ rfl;refine bodyPost_ret (v:=.tuple #[.agg #[.string (qC j).text,.string (qD j).text,.string (qE j).text,.bool false,.string ⟨#[]⟩,.int .i64 kC,.int .i64 iC,.string tC,.slice nG qo nH,.slice nI qp nJ,.slice q4 (oh j).list.length c4,.slice q5 (om j).list.length c5,.int .i64 (qF j).int,.int .i64 (qG j).int,.string (qH j).text,.slice q9 (bH (nC j)).length c9],.bool (false)]) (by simp[results,Tryz.results34,go_sem,k0,k1,k2,k3,k4,k5,k6,k7,k8,k9,Oh,TL,Mm,TM,TN,TP]) rfl ?_;have je:=ry.out;have TY:=je.size;have kN:aj (fun q=>q=w.heap.size+1) kD WE:=((aj.refl _ _).alloc (.cells #[.string (qC j).text,.string (qD j).text,.string (qE j).text,.bool false,.string ⟨#[]⟩,.int .i64 kC,.int .i64 iC,.string tC,.slice nG qo nH,.slice nI qp nJ,.slice q4 (oh j).list.length c4,.slice q5 (om j).list.length c5,.int .i64 (qF j).int,.int .i64 (qG j).int,.string (qH j).text,.slice q9 (bH (nC j)).length c9] 28)).then mD;have TZ:=kN.size;have cN:∀q,WB.heap.size<=q->q<kD.heap.size->(O q\/ fB w WE q)/\WE.heap[q]?=kD.heap[q]?:=fun q h1 h2=>⟨.inr ⟨by omega,Nat.lt_of_lt_of_le h2 TZ⟩,kN.block q h2 (fun e=>by omega)⟩;have cO:∀q,O q->(O q\/ fB w WE q)/\WE.heap[q]?=w4.heap[q]?:=fun q hq=>⟨.inl hq,by
    have h0:=hO q hq;have h1:=Mw.out.block q (by omega) (by unfold dJ;omega);have h2:=je.block q (by omega) (by unfold dJ;omega);have h3:=kN.block q (by omega) (fun e=>by omega);exact h3.trans (h2.trans h1.symm)⟩
   have t4:aj (dJ R M) w5 kD:=qX.then (o7.then (pK.then (Mv.then se)));have t5:aj (dJ R M) w6 kD:=o7.then (pK.then (Mv.then se));have s4:=Mw.out.size;have s5:=TW.out.size;have s9:=TU.out.size;refine⟨⟨⟨nG,nH,nI,nJ,q4,c4,q5,c5,q9,c9⟩, ?_, ?_⟩, ?_⟩
   ·have f:=dt Mx;have I6:n9=(Bl j).length:=by have:=congrArg List.length Bu.keys;rw[List.length_map,List.length_map]at this;exact HN9.out.symm.trans this
    unfold jP;rw[yX.out,Bo.out];simp only[ed,eP,dG,yX.out,f.1,f.2.1,f.2.2.1,<-f.2.2.2.1,<-f.2.2.2.2.1,List.length_map]
    rfl
   ·refine⟨?_, ?_, ?_, ?_⟩
    ·have f:=dt Mx;have e:pO (dG j).content ⟨nG,nH,nI,nJ,q4,c4,q5,c5,q9,c9⟩= [.int .i64 kC,.int .i64 iC,.string tC,.slice nG qo nH,.slice nI qp nJ]:=by
      simp only[pO,dG,f.1,f.2.1,f.2.2.1,<-f.2.2.2.1,<-f.2.2.2.2.1]
     rw[e];exact Mx.carry cO
    ·exact WI.carry fun q hq=>⟨(cN q (by have:=hq.1;omega) (Nat.lt_of_lt_of_le hq.2 t4.size)).1,(cN q (by have:=hq.1;omega) (Nat.lt_of_lt_of_le hq.2 t4.size)).2.trans (t4.block q hq.2 (by unfold dJ;have:=hq.1;omega))⟩
    ·exact VY.carry fun q hq=>⟨(cN q (by have:=hq.1;omega) (Nat.lt_of_lt_of_le hq.2 t5.size)).1,(cN q (by have:=hq.1;omega) (Nat.lt_of_lt_of_le hq.2 t5.size)).2.trans (t5.block q hq.2 (by unfold dJ;have:=hq.1;omega))⟩
    ·exact hq9.carry fun q hq=>cN q (by have:=hq.1;omega) hq.2
   ·refine ll.out.trans ⟨kN.os.trans je.os,kN.tape.trans je.tape,kN.output.trans je.output,Nat.le_trans je.size TZ,fun q hq=> ?_⟩;have h2:=je.block q (by omega) (by unfold dJ;omega);exact(kN.block q (by omega) (fun e=>by omega)).trans h2
end Go.Proofs.YtegcgbjjpgjnmaaGreatDoor

/- A part. -/
import Derived.Test.YtldegjjaknelgaaGreatDoorAJ19
import Derived.Deep.QuietTactic
set_option maxRecDepth 100000
set_option maxHeartbeats 64000000
namespace Go.Proofs.YtldegjjaknelgaaGreatDoor
open Go.RowKit
theorem Pz:M6 0:=fun _ _ j _ _ _ _ _ _ _ _ _ _ hg=>by unfold goodJ at hg;cases hg
theorem XE:∀d,M6 d
 | 0=>Pz
 | d+1=>Py (XE d)
def Sq(j:J):J:=if goodJ 12 j=true then ord j else J.zero
theorem Sr{w:World}(o1 o2:Obj):((w.alloc o1).alloc o2).heap[w.heap.size+1]?=some o2:=by
 have:=heap_alloc_new (w.alloc o1) o2;simpa using this
theorem xS{w w2 w3:World}(h:Below w.heap.size w w2)(hk:ay (One (w.heap.size+1)) w2 w3):Below w.heap.size w w3:=
 h.trans (hk.below h.size fun k U6 e=>by unfold One at e;omega)
theorem Ap{w:World}{O:Nat->Prop}{j:J}{k i:Int}{t:ByteArray}{pk pl:Option Addr}{nk ck nl cl:Nat}(hO:∀x,O x->x<w.heap.size)(fK:szJ 12 j=true)
    (hj:isJ O w j [.int .i64 k,.int .i64 i,.string t,.slice pk nk ck,.slice pl nl cl]):
    Calls Tryz.prog 45 #[.agg #[.int .i64 k,.int .i64 i,.string t,.slice pk nk ck,.slice pl nl cl]] w fun x w'=>(∃kr ir tr pr nr cr qr mr dr,x=.returned (.agg #[.int .i64 kr,.int .i64 ir,.string tr,.slice pr nr cr,.slice qr mr dr])/\isJ (fun b=>O b\/ (w.heap.size<=b/\b<w'.heap.size)) w' (Sq j) [.int .i64 kr,.int .i64 ir,.string tr,.slice pr nr cr,.slice qr mr dr])/\Below w.heap.size w w':=by
 have CS:Below w.heap.size w ((w.alloc (.cells #[.int .i64 k,.int .i64 i,.string t,.slice pk nk ck,.slice pl nl cl] 25)).alloc (.cells #[.int .i64 0,.int .i64 0,.string ⟨#[]⟩,.slice none 0 0,.slice none 0 0] 25)):=((Below.refl _ _).alloc (Nat.le_refl _) _).alloc (by simp) _;obtain⟨wB,vD⟩:∃wB,wB=((w.alloc (.cells #[.int .i64 k,.int .i64 i,.string t,.slice pk nk ck,.slice pl nl cl] 25)).alloc (.cells #[.int .i64 0,.int .i64 0,.string ⟨#[]⟩,.slice none 0 0,.slice none 0 0] 25)):=⟨_,rfl⟩;have hA:wB.heap[w.heap.size]?=some (.cells #[.int .i64 k,.int .i64 i,.string t,.slice pk nk ck,.slice pl nl cl] 25 (0,0)):=by
  rw[vD,Below.heap_alloc _ _ _ (by simp)];exact heap_alloc_new _ _
 have hR:wB.heap[w.heap.size+1]?=some (.cells #[.int .i64 0,.int .i64 0,.string ⟨#[]⟩,.slice none 0 0,.slice none 0 0] 25 (0,0)):=by rw[vD];exact Sr _ _
 rw[<-vD]at CS;have YW:∀x,O x->x<wB.heap.size:=fun x hx=>Nat.lt_of_lt_of_le (hO x hx) CS.size;have P9:=hj.carry (O':=O) (w':=wB) fun x hx=>⟨hx,CS.block x (hO x hx)⟩;have hG:=qZ YW fK P9;have hsA:w.heap.size<wB.heap.size:=(Array.getElem?_eq_some_iff.1 hA).1;have YS:w.heap.size+1<wB.heap.size:=(Array.getElem?_eq_some_iff.1 hR).1;have c0:=yx hA
 cases hg:goodJ 12 j with
 | false=>
  have HZ:Hid (Sq j=J.zero):=by show _=_;unfold Sq;rw[hg];rfl
  rw[hg]at hG;rw[vD]at hG;clear hj P9 c0;go_enter Tryz.func45,Tryz.ntmps45;go_wp2_with(go_at_call 37;refine hG.mono ?_;rintro x w2 ⟨rfl,aY⟩;rw[<-vD]at aY;have jq:=(aY.block _ YS).trans hR;obtain⟨i0,i1,i2,i3,i4⟩:=aU jq;obtain⟨z0,z1,z2,z3,z4⟩:=fZ jq);have h5:=dS jq (.int .i64 0) (.int .i64 0) (.string ⟨#[]⟩) (.slice none 0 0) (.slice none 0 0);have eD:ay (One (w.heap.size+1)) w2 _:=dU w2 (w.heap.size+1) (.int .i64 0) (.int .i64 0) (.string ⟨#[]⟩) (.slice none 0 0) (.slice none 0 0);unfold lN at h5 eD;obtain⟨k0,k1,k2,k3,k4⟩:=aU h5;refine bodyPost_ret (v:=.agg #[.int .i64 0,.int .i64 0,.string ⟨#[]⟩,.slice none 0 0,.slice none 0 0]) (by simp[results,Tryz.results45,go_sem,k0,k1,k2,k3,k4]) rfl ?_;refine⟨⟨_,_,_,_,_,_,_,_,_,rfl, ?_⟩,xS (av CS aY) eD⟩;rw[HZ.out];exact yL _ _
 | true=>
  have HZ:Hid (Sq j=ord j):=by show _=_;unfold Sq;rw[hg];rfl
  have Xf:Hid (goodJ 12 j=true):=hg;have HJ:Hid (isJ O wB j [.int .i64 k,.int .i64 i,.string t,.slice pk nk ck,.slice pl nl cl]):=P9;rw[hg]at hG;rw[vD]at hG;clear hj P9 hg c0;go_enter Tryz.func45,Tryz.ntmps45;go_wp2_with(first
   | (go_at_call 37;refine hG.mono ?_;rintro x w2 ⟨rfl,aY⟩
      rw[<-vD]at aY;have YX:=(aY.block _ hsA).trans hA;obtain⟨c0,c1,c2,c3,c4⟩:=aU YX;have YY:=XE 12 w2 O j k i t pk pl nk ck nl cl (fun x hx=>Nat.lt_of_lt_of_le (YW x hx) aY.size) Xf.out fK (HJ.out.carry fun x hx=>⟨hx,aY.block x (YW x hx)⟩))
   | (go_at_call 74;refine YY.mono ?_;rintro x w4 ⟨⟨kr,ir,tr,pr,nr,cr,qr,mr,dr,rfl,Ht⟩,dF⟩
      have vE:=av aY dF;have jq:=(vE.block _ YS).trans hR;obtain⟨i0,i1,i2,i3,i4⟩:=aU jq;obtain⟨z0,z1,z2,z3,z4⟩:=fZ jq))
  have h5:=dS jq (.int .i64 kr) (.int .i64 ir) (.string tr) (.slice pr nr cr) (.slice qr mr dr);have eD:ay (One (w.heap.size+1)) w4 _:=dU w4 (w.heap.size+1) (.int .i64 kr) (.int .i64 ir) (.string tr) (.slice pr nr cr) (.slice qr mr dr);unfold lN at h5 eD;obtain⟨k0,k1,k2,k3,k4⟩:=aU h5;refine bodyPost_ret (v:=.agg #[.int .i64 kr,.int .i64 ir,.string tr,.slice pr nr cr,.slice qr mr dr]) (by simp[results,Tryz.results45,go_sem,k0,k1,k2,k3,k4]) rfl ?_;refine⟨⟨_,_,_,_,_,_,_,_,_,rfl, ?_⟩,xS (av CS vE) eD⟩;rw[HZ.out];refine Ht.carry fun x hx=> ?_;have s2:=aY.size;have s4:=dF.size
  rcases hx with hx| hx
  ·have:=hO x hx;exact⟨.inl hx,eD.block x (by have:=CS.size;omega) (by unfold One;omega)⟩
  ·have:=hx.1;exact⟨.inr ⟨by omega,Nat.lt_of_lt_of_le hx.2 eD.size⟩,eD.block x hx.2 (by unfold One;omega)⟩
open Go.RowKit Go.Maps
theorem Kz{w:World}{b:Nat}{t:TypeId}{a0 a1 a2 a3 a4:Value}(h:w.heap[b]?=some (.cells #[a0,a1,a2,a3,a4] t (0,0))):(loadVar 25 ⟨b,0,none⟩).run Tryz.prog w=.ok (.agg #[a0,a1,a2,a3,a4]) w:=by
 obtain⟨k0,k1,k2,k3,k4⟩:=aU h;simp[loadVar,go_sem,k0,k1,k2,k3,k4]
open Go Go.RowKit Go.Maps
theorem Gq{O:Nat->Prop}{w:World}{j:J}{cs:List Value}(h:isJ O w j cs):∀u∈cs,u.oneCell'=true:=by
 obtain⟨k,i,t,pk,nk,ck,pl,nl,cl,rfl⟩:=dw h;intro u hu;simp only[List.mem_cons,List.not_mem_nil,or_false]at hu
 rcases hu with rfl| rfl| rfl| rfl| rfl<;>rfl
theorem Cw{O:Nat->Prop}{w:World}{p:Option Addr}:∀(l:List J) (n:Nat),isJs O w p n l->∃xs,isRow O w l xs/\xs.length=l.length*5/\(∀u∈xs,u.oneCell'=true)/\∀ad,p=some ad->∀(m:Nat) u,xs[m]?=some u->O ad.block/\w.cell? (ad.add (n*5+m))=some u
 | [],n,_=>⟨[],by unfold isRow;rfl,rfl,(fun u hu=>absurd hu (by simp)),(fun ad _ m u h=>absurd h (by simp))⟩
 | j::r,n,h=>by
  unfold isJs at h;obtain⟨⟨b,o,cs,rfl,hO,hc,hj⟩,hr⟩:=h;obtain⟨xs,h1,h2,h3,h4⟩:=Cw r (n+1) hr;have h5:=hj.AP;refine⟨cs++xs, ?_,by rw[List.length_append,h5,h2,List.length_cons];omega,fun u hu=> ?_,fun ad e m u hm=> ?_⟩
  ·unfold isRow;exact⟨cs,xs,rfl,h5,hj,h1⟩
  ·rcases List.mem_append.1 hu with hu| hu
   ·exact Gq hj u hu
   ·exact h3 u hu
  ·cases e
   have wO:∀m,(⟨b,o,none⟩:Addr).add m=⟨b,o+m,none⟩:=fun m=>by unfold Addr.add;split<;>simp_all
   refine⟨hO, ?_⟩
   by_cases bQ:m<5
   ·rw[List.getElem?_append_left (by omega)]at hm;have:=hc m u hm;rw[wO]
    rwa [Nat.add_assoc]at this
   ·rw[List.getElem?_append_right (by omega),h5]at hm;have:=(h4 _ rfl (m - 5) u hm).2;rw[wO]at this ⊢;rw[show n*5+m=(n+1)*5+(m - 5) by omega];exact this
theorem Su{O:Nat->Prop}{w:World}{j v:J}{k i vk vi:Int}{t vt:ByteArray}{pk pl vpk vpl:Option Addr}{nk ck nl cl vnk vck vnl vcl:Nat}(key:ByteArray)(hO:∀b,O b->b<w.heap.size)
    (hj:isJ O w j [.int .i64 k,.int .i64 i,.string t,.slice pk nk ck,.slice pl nl cl]) (hv:isJ O w v [.int .i64 vk,.int .i64 vi,.string vt,.slice vpk vnk vck,.slice vpl vnl vcl]) (MQ:pk=none->ck=0) (hlp:pl=none->cl=0) (kX:nk<=100000) (o_:nl<=100000):
    Calls Tryz.prog 44 #[.agg #[.int .i64 k,.int .i64 i,.string t,.slice pk nk ck,.slice pl nl cl],.string key,.agg #[.int .i64 vk,.int .i64 vi,.string vt,.slice vpk vnk vck,.slice vpl vnl vcl]] w fun x w'=>(∃b1 c1 b2 c2,x=.returned (.agg #[.int .i64 5,.int .i64 0,.string ⟨#[]⟩,.slice (some ⟨b1,0,none⟩) (nk+1) c1,.slice (some ⟨b2,0,none⟩) (nl+1) c2])/\isJ (fun b=>O b\/ tN w w' b) w' (.mk 5 0 aT (j.keys++ [key]) (j.list++ [v])) [.int .i64 5,.int .i64 0,.string ⟨#[]⟩,.slice (some ⟨b1,0,none⟩) (nk+1) c1,.slice (some ⟨b2,0,none⟩) (nl+1) c2])/\Below w.heap.size w w':=by
 obtain⟨W0,cO⟩:∃W0,W0=((w.alloc (.cells #[.int .i64 k,.int .i64 i,.string t,.slice pk nk ck,.slice pl nl cl] 25)).alloc (.cells #[.int .i64 vk,.int .i64 vi,.string vt,.slice vpk vnk vck,.slice vpl vnl vcl] 25)).alloc (.cells #[.int .i64 0,.int .i64 0,.string ⟨#[]⟩,.slice none 0 0,.slice none 0 0] 25):=⟨_,rfl⟩;have dM:Below w.heap.size w W0:=by rw[cO];exact(((Below.refl _ _).alloc (Nat.le_refl _) _).alloc (by simp) _).alloc (by simp;omega) _
 have AY:W0.heap[w.heap.size]?=some (.cells #[.int .i64 k,.int .i64 i,.string t,.slice pk nk ck,.slice pl nl cl] 25 (0,0)):=by rw[cO,Below.heap_alloc _ _ _ (by simp;omega)];exact wm _ _
 have Iw:W0.heap[w.heap.size+1]?=some (.cells #[.int .i64 vk,.int .i64 vi,.string vt,.slice vpk vnk vck,.slice vpl vnl vcl] 25 (0,0)):=by rw[cO,Below.heap_alloc _ _ _ (by simp)];exact sV _ _
 have hr:W0.heap[w.heap.size+1+1]?=some (.cells #[.int .i64 0,.int .i64 0,.string ⟨#[]⟩,.slice none 0 0,.slice none 0 0] 25 (0,0)):=by
  have h:=heap_alloc_new ((w.alloc (.cells #[.int .i64 k,.int .i64 i,.string t,.slice pk nk ck,.slice pl nl cl] 25)).alloc (.cells #[.int .i64 vk,.int .i64 vi,.string vt,.slice vpk vnk vck,.slice vpl vnl vcl] 25)) (.cells #[.int .i64 0,.int .i64 0,.string ⟨#[]⟩,.slice none 0 0,.slice none 0 0] 25);rw[cO];simpa using h
 have Zb:w.heap.size+3=W0.heap.size:=by rw[cO];simp
 have P9:=hj.carry (O':=O) (w':=W0) fun b hb=>⟨hb,dM.block b (hO b hb)⟩;have hvB:=hv.carry (O':=O) (w':=W0) fun b hb=>⟨hb,dM.block b (hO b hb)⟩;have iR:=R9 P9;have e4:=iR.2.2.2.1;have e5:=iR.2.2.2.2.1;have oJ:=iR.2.2.2.2.2.1;have Em:=iR.2.2.2.2.2.2.1;have oo:=iR.2.2.2.2.2.2.2;clear iR;obtain⟨xs,r1,r2,r3,r4⟩:=Cw j.list 0 oo;have HP:Hid (iY W0 (w.heap.size+1+1) key j.keys pk pl nk ck nl cl xs (.int .i64 vk) (.int .i64 vi) (.string vt) (.slice vpk vnk vck) (.slice vpl vnl vcl)):=by
  have hz:∀{l:List ByteArray} {p:Option Addr} {c:Nat},jP O W0 p c l->p=none->l.length=0:=fun{l p c} h hp=>by
   cases l with
   | nil=>rfl
   | cons a r=>obtain⟨ad,e,_⟩:=h.2 0 (by simp);rw[hp]at e;cases e
  refine⟨by omega,e4.symm,by rw[r2,e5],kX,o_,fun hp=>⟨by rw[e4];exact hz oJ hp,MQ hp⟩,fun hp=>⟨?_,hlp hp⟩,fun ad e m u hm=> ?_,fun ad e m u hm=> ?_,r3,Gq hv⟩
  ·rw[e5]
   cases hl:j.list with
   | nil=>rfl
   | cons a r=>
    rw[hl]at oo;unfold isJs at oo;obtain⟨⟨b,o,cs,e,_⟩,_⟩:=oo;rw[hp]at e
    cases e
  ·have Ic:m<j.keys.length:=by
     have:=(List.getElem?_eq_some_iff.1 hm).1;simpa using this
   obtain⟨ad',e',qR,hc⟩:=oJ.2 m Ic;rw[e]at e'
   cases e'
   rw[List.getElem?_map,List.getElem?_eq_getElem Ic]at hm
   cases hm
   refine⟨by rw[bK];exact Nat.lt_of_lt_of_le (hO _ qR) dM.size, ?_⟩;rw[hc,List.getD_eq_getElem?_getD,List.getElem?_eq_getElem Ic]
   rfl
  ·obtain⟨h1,h2⟩:=r4 ad e m u hm;refine⟨by rw[bK];exact Nat.lt_of_lt_of_le (hO _ h1) dM.size, ?_⟩;rw[Nat.zero_mul,Nat.zero_add]at h2;exact h2
 have hQ:Hid (∀wq,Below (w.heap.size+1+1) W0 wq->wq.cell? ⟨w.heap.size,3,none⟩=some (.slice pk nk ck)/\wq.cell? ⟨w.heap.size,4,none⟩=some (.slice pl nl cl)/\wq.cell? ⟨w.heap.size+1,0,none⟩=some (.int .i64 vk)/\wq.cell? ⟨w.heap.size+1,1,none⟩=some (.int .i64 vi)/\wq.cell? ⟨w.heap.size+1,2,none⟩=some (.string vt)/\wq.cell? ⟨w.heap.size+1,3,none⟩=some (.slice vpk vnk vck)/\wq.cell? ⟨w.heap.size+1,4,none⟩=some (.slice vpl vnl vcl)):=fun wq h=>by
  have h0:=(h.block w.heap.size (by omega)).trans AY;have h1:=(h.block (w.heap.size+1) (by omega)).trans Iw;exact⟨fV h0,bG h0,yx h1,Mt h1,Mv h1,fV h1,bG h1⟩
 have HR:Hid (∀wq,Below W0.heap.size W0 wq->wq.heap[w.heap.size+1+1]?=some (.cells #[.int .i64 0,.int .i64 0,.string ⟨#[]⟩,.slice none 0 0,.slice none 0 0] 25 (0,0))):=fun wq h=>(h.block _ (by omega)).trans hr;have HS:Hid (w.heap.size+3=W0.heap.size):=Zb;have bX:Hid (Below w.heap.size w W0):=dM;have xD:Hid (isRow O W0 j.list xs):=r1;have HVB:Hid (isJ O W0 v [.int .i64 vk,.int .i64 vi,.string vt,.slice vpk vnk vck,.slice vpl vnl vcl]):=hvB;have HO:Hid (∀b,O b->b<w.heap.size):=hO;have HE:Hid (nk=j.keys.length/\nl=j.list.length):=⟨e4,e5⟩;clear hj hv P9 hvB oJ Em oo r1 r2 r3 r4 e4 e5 AY Iw hr MQ hlp Zb dM hO;go_enter Tryz.func44,Tryz.ntmps44;go_wp2;rw[<-cO];clear cO;have gP:Below W0.heap.size W0 W0.drew:=(Below.refl _ _).drew;refine aI (by kernel_rfl) (fun w'=>Below (w.heap.size+1+1) W0 w') ?_;change wpIn _ _ _ _ _ _ _ _ (World.drew _);refine aa (i:=1) (d:=some 8) rfl ?_;refine aC (i:=2) (d:=some 9) rfl (by(intro wq hq;obtain⟨q3,q4,q5,q6,q7,q8,q9⟩:=hQ.out wq hq;go_simp;first| done| with_reducible rfl)) ?_;refine aa (i:=4) (d:=some 11) rfl ?_;refine aa (i:=8) (d:=some 15) rfl ?_;refine aC (i:=9) (d:=some 16) rfl (by(intro wq hq;obtain⟨q3,q4,q5,q6,q7,q8,q9⟩:=hQ.out wq hq;go_simp;first| done| with_reducible rfl)) ?_;refine aC (i:=11) (d:=some 18) rfl (by(intro wq hq;obtain⟨q3,q4,q5,q6,q7,q8,q9⟩:=hQ.out wq hq;go_simp;first| done| with_reducible rfl)) ?_;refine VF (r:=w.heap.size+1+1) ?_ HP.out _ gP;intro w2 aY x7 Dq FT vG kW AL Vz x17 x19 Un OW o20;unfold dm;refine aa (i:=14) (d:=some 21) rfl ?_;have jq:=HR.out w2 aY;obtain⟨i0,i1,i2,i3,i4⟩:=aU jq;obtain⟨z0,z1,z2,z3,z4⟩:=fZ jq;refine ax (i:=15) (aY.mono HP.out.rQ) rfl ?_;intro K hK;go_simp;refine hK _ _ ?_;clear hK K;have h5:=dS jq (.int .i64 5) (.int .i64 0) (.string ⟨#[]⟩) (.slice vG (nk+1) kW) (.slice Un (nl+1) OW);have eD:ay (One (w.heap.size+1+1)) w2 _:=dU w2 (w.heap.size+1+1) (.int .i64 5) (.int .i64 0) (.string ⟨#[]⟩) (.slice vG (nk+1) kW) (.slice Un (nl+1) OW);obtain⟨WE,Cc⟩:∃WE,WE=lN w2 (w.heap.size+1+1) (.int .i64 5) (.int .i64 0) (.string ⟨#[]⟩) (.slice vG (nk+1) kW) (.slice Un (nl+1) OW):=⟨_,rfl⟩;rw[<-Cc]at h5 eD;unfold lN at Cc;rw[<-Cc];have hS:=HS.out;have hB:=bX.out.size;have s2:=aY.size;have sE:=eD.size;have gU:Below (w.heap.size+1+1) W0 WE:=(aY.mono HP.out.rQ).trans (eD.below (by omega) fun q hq=>by unfold One;omega);refine aH gU (by kernel_rfl) ?_ _;clear i0 i1 i2 i3 i4 z0 z1 z2 z3 z4 Cc;go_wp2;refine bodyPost_ret (o7 rfl _ _ _ rfl (Kz h5)) rfl ?_;obtain⟨b1,c1',e1⟩:=gW AL;obtain⟨b2,Np,e2⟩:=gW o20
 cases e1
 cases e2
 have g13:=aO AL b1 rfl;have g20:=aO o20 b2 rfl;have zg8:w2.ownsRow W0.heap.size 9 1 (.slice (some ⟨b1,0,none⟩) (nk+1) kW) (j.keys++ [key]).length ((j.keys++ [key]).map Value.string):=by
  rw[List.length_append,List.map_append,<-HE.out.1];exact AL
 have zg9:w2.ownsRow W0.heap.size 25 5 (.slice (some ⟨b2,0,none⟩) (nl+1) OW) (j.list++ [v]).length (xs++ [.int .i64 vk,.int .i64 vi,.string vt,.slice vpk vnk vck,.slice vpl vnl vcl]):=by
  rw[List.length_append,<-HE.out.2];exact o20
 have ze2:∀q,O q->O q/\w2.heap[q]?=W0.heap[q]?:=fun q hq=>⟨hq,aY.block q (by have:=HO.out q hq;omega)⟩;have kC:isRow O w2 (j.list++ [v]) (xs++ [.int .i64 vk,.int .i64 vi,.string vt,.slice vpk vnk vck,.slice vpl vnl vcl]):=isRow.snoc rfl (HVB.out.carry ze2) _ _ (isRow.carry ze2 _ _ xD.out);obtain⟨qk,cqk,ek,hk⟩:=qN zg8;obtain⟨ql,cql,el,BF,hl⟩:=sH zg9 kC;simp only[Value.slice.injEq]at ek el;obtain⟨rfl,AJ,rfl⟩:=ek;obtain⟨rfl,He,rfl⟩:=el;have Hu:∀q,q<w2.heap.size->q≠w.heap.size+1+1->WE.heap[q]?=w2.heap[q]?:=fun q h1 h2=>eD.block q h1 (by unfold One;omega);have bE:Below w.heap.size w WE:=bX.out.trans (gU.mono (by omega));refine⟨⟨b1,kW,b2,OW,rfl, ?_⟩,bE⟩;unfold isJ;refine⟨some ⟨b1,0,none⟩,kW,some ⟨b2,0,none⟩,OW, ?_,hk.carry fun q hq=> ?_,BF,hl.carry fun q hq=> ?_⟩
 ·rw[<-AJ,<-He]
  rfl
 ·exact⟨.inr ⟨by have:=hq.1;omega,by have:=hq.2;omega⟩,Hu q hq.2 (by have:=hq.1;omega)⟩
 ·rcases hq with hq| hq
  ·have:=HO.out q hq;exact⟨.inl hq,Hu q (by omega) (by omega)⟩
  ·exact⟨.inr ⟨by have:=hq.1;omega,by have:=hq.2;omega⟩,Hu q hq.2 (by have:=hq.1;omega)⟩
open Go.RowKit
theorem rh{most:Nat}{l:List ByteArray}:bI most l=true↔l.length<=most/\l.Pairwise (· ≠ ·)/\∀x∈l,Id.qL x=true:=by
 unfold bI;rw[Bool.and_eq_true,Bool.and_eq_true,decide_eq_true_eq,List.all_eq_true];exact⟨fun h=>⟨h.1.1,gM h.1.2,h.2⟩,fun h=>⟨⟨h.1,fE h.2.1⟩,h.2.2⟩⟩
theorem Cx{α:Type}(l:List α)(k:Nat)(d:α)(hk:k<l.length):l.take (k+1)=l.take k++ [l.getD k d]:=by
 rw[List.take_succ_eq_append_getElem hk,List.getD_eq_getElem?_getD,List.getElem?_eq_getElem hk];rfl
theorem Gr{α:Type}{l:List α}{k:Nat}{d:α}(h:k<l.length):l.getD k d∈l:=by
 rw[List.getD_eq_getElem?_getD,List.getElem?_eq_getElem h];exact List.getElem_mem _
theorem ze3(s t:ByteArray):(s.toList==t.toList)=decide (s=t):=by
 rw[Bool.eq_iff_iff,beq_iff_eq,decide_eq_true_eq]
 constructor
 ·intro h;rw[ByteArray.toList_eq,ByteArray.toList_eq]at h;exact ByteArray.ext (Array.toList_inj.1 h)
 ·rintro rfl;rfl
theorem xU{O:Nat->Prop}{l:List ByteArray}{p:Option Addr}{c:Nat}{w:World}(most:Nat)(iK:jP O w p c l)(hO:∀k,O k->k<w.heap.size)(_hl:l.length<=100000)(hm:most<=1000):
    Calls Tryz.prog 39 #[.slice p l.length c,.int .i64 most] w fun x w'=>x=.returned (.bool (bI most l))/\Below w.heap.size w w':=by
 by_cases hlm:l.length<=most
 ·have HLM:Hid (l.length<=most):=hlm;have hdm:decide (most<l.length)=false:=by simp;omega
  go_enter Tryz.func39,Tryz.ntmps39;go_wp2
  go_loopw [5] (fun i wr=>∃k:Nat,k<=l.length/\i=.int .i64 k/\(∀x∈l.take k,Id.qL x=true)/\(l.take k).Pairwise (· ≠ ·)/\Below w.heap.size w wr) (fun i _=>l.length - (intOf i).toNat)
  case atStart=>exact⟨0,Nat.zero_le _,rfl,by simp,by simp,Below.refl _ _⟩
  case round=>
   obtain⟨k,hk,rfl,fo,hpw,hb⟩:=hrel;have HA:Hid (∀x∈l.take k,Id.qL x=true):=fo;have HP:Hid ((l.take k).Pairwise (· ≠ ·)):=hpw;clear fo hpw
   by_cases bQ:k<l.length
   ·obtain⟨a,rfl,qR,y_⟩:=iK.2 k bQ;have HC:Hid (∀j,j<l.length->∀wx,Below w.heap.size w wx->wx.cell? (a.add j)=some (.string (l.getD j aT))):=fun j hj wx hx=>by
     obtain⟨a',e,hO',hc'⟩:=iK.2 j hj
     cases e
     exact(World.cell?_of_block (by rw[bK];exact hx.block _ (hO _ hO'))).trans hc'
    have gu:=HC.out k bQ wr hb;have HT:Hid (l.take (k+1)=l.take k++ [l.getD k aT]):=Cx l k _ bQ;have HM:Hid (l.getD k aT∈l):=Gr bQ;have HX2:Hid (∀wx,Below w.heap.size w wx->wx.cell? (a.add k)=some (.string (l.getD k aT))):=HC.out k bQ;have HTW:Hid (∀m,m<k->l.getD m aT=l.getD k aT->bI most l=false):=by
     intro m P5 e
     cases hn:bI most l with
     | false=>rfl
     | true=>
      have hp:=(rh.1 hn).2.1;have:=List.pairwise_iff_getElem.1 hp m k (by omega) bQ P5;rw[List.getD_eq_getElem?_getD,List.getD_eq_getElem?_getD,List.getElem?_eq_getElem bQ,List.getElem?_eq_getElem (show m<l.length by omega)]at e;exact absurd e this
    clear y_;generalize l.getD k aT=x at*;have hev:=Id.oH x wr
    cases hx:Id.qL x with
    | false=>
     rw[hx]at hev;have HE:Hid (bI most l=false):=by
      show _=_
      cases hn:bI most l with
      | false=>rfl
      | true=>have:=(rh.1 hn).2.2 x HM.out;rw[hx]at this;cases this
     clear hx;go_wp2_with(first
      | (go_at_call 41;refine hev.mono ?_;rintro e w1 ⟨rfl,aL⟩))
     go_ret;exact⟨aj HE.out.symm,hb.trans (aL.mono hb.size)⟩
    | true=>
     rw[hx]at hev;have HX:Hid (Id.qL x=true):=hx;clear hx;go_wp2_with(first
      | (go_at_call 41;refine hev.mono ?_;rintro e w1 ⟨rfl,aL⟩
         have dM:=hb.trans (aL.mono hb.size)))
     clear hev gu aL
     go_loopw [6] (fun i wx=>∃m:Nat,m<=k/\i=.int .i64 m/\x∉l.take m/\Below w.heap.size w wx) (fun i _=>k - (intOf i).toNat)
     case atStart=>exact⟨0,Nat.zero_le _,rfl,by simp,dM⟩
     case round=>
      clear dM;obtain⟨m,hm',rfl,El,Ef⟩:=hrel;have HNX:Hid (x∉l.take m):=El;clear El
      by_cases Rw:m<k
      ·have AX:m<l.length:=by omega
       have c1:=HC.out m AX wr Ef;have c2:=HX2.out wr Ef;have fD:Hid (l.take (m+1)=l.take m++ [l.getD m aT]):=Cx l m _ AX;have HTM:=HTW.out m Rw;have zha:Hid (l.getD m aT=x->bI most l=false):=HTM;clear HTM;generalize l.getD m aT=y at*
       by_cases yn:y=x
       ·have xh:(x.toList==y.toList)=true:=by rw[ze3];simpa using yn.symm
        have HE:Hid (bI most l=false):=zha.out yn;go_wp2;go_quiet (fail);go_wp2;go_ret;exact⟨aj HE.out.symm,below_drewN Ef _⟩
       ·have xh:(x.toList==y.toList)=false:=by rw[ze3];simpa using fun e=>yn e.symm
        have Qb:Hid (x∉l.take (m+1)):=by
         show x∉l.take (m+1)
         rw[fD.out,List.mem_append,List.mem_singleton];rintro(h| h)
         ·exact HNX.out h
         ·exact yn h.symm
        go_wp2;go_quiet (fail);go_wp2;go_roundw
        case rel=>exact⟨m+1,by omega,by go_num,Qb.out,below_drewN Ef _⟩
        case measure=>simp[intOf];omega
      ·obtain rfl:k=m:=by omega
       go_wp2;go_roundw
       case rel=>
        refine⟨k+1,by omega,by go_num,fun y hy=> ?_, ?_,Ef⟩
        ·rw[HT.out,List.mem_append,List.mem_singleton]at hy
         rcases hy with hy| rfl
         ·exact HA.out y hy
         ·exact HX.out
        ·rw[HT.out,List.pairwise_append];refine⟨HP.out,by simp,fun y hy z hz e=> ?_⟩;rw[List.mem_singleton.1 hz]at e;exact HNX.out (e ▸ hy)
       case measure=>simp[intOf];omega
   ·obtain rfl:k=l.length:=by omega
    have HE:Hid (bI most l=true):=by
     have h1:=HA.out;have h2:=HP.out;rw[List.take_length]at h1 h2;exact rh.2 ⟨HLM.out,h2,h1⟩
    go_wp2;go_ret;exact⟨aj HE.out.symm,hb⟩
 ·have HE:Hid (bI most l=false):=by
    show _=_
    cases hn:bI most l with
    | false=>rfl
    | true=>exact absurd (rh.1 hn).1 hlm
  go_enter Tryz.func39,Tryz.ntmps39;go_wp2;go_ret;exact⟨aj HE.out.symm,Below.refl _ _⟩
theorem VP{n:Int}(h0:0<=n)(h1:n<9223372036854775808):IntKind.i64.wrap n=n:=by
 first| (rw[IntKind.wrap_i64];omega)| (unfold IntKind.wrap;simp;omega)
theorem DL{O:Nat->Prop}{l:List (ByteArray×ByteArray)}{p:Option Addr}{c:Nat}{w:World}(iK:Hm O w p c l)(hO:∀k,O k->k<w.heap.size)(hl:l.length<=100000)(hz:∀x∈l,x.1.size<=1000000000/\x.2.size<=1000000000):
    Calls Tryz.prog 40 #[.slice p l.length c] w fun x w'=>x=.returned (.bool (bR l))/\Below w.heap.size w w':=by
 have Oz:=iK.1
 by_cases h4:l.length<=4
 ·have HL4:Hid (l.length<=4):=h4;have hd4:decide (4<(l.length:Int))=false:=by simp;omega
  go_enter Tryz.func40,Tryz.ntmps40;go_wp2
  go_loopw [3] (fun i wr=>∃k:Nat,k<=l.length/\i=.int .i64 k/\(∀j,j<k->rR (l.getD j (aT,aT))=true/\(0<j->jB (l.getD (j - 1) (aT,aT)).1 (l.getD j (aT,aT)).1=true))/\Below w.heap.size w wr) (fun i _=>l.length - (intOf i).toNat)
  case atStart=>exact⟨0,Nat.zero_le _,rfl,fun j hj=>absurd hj (by omega),Below.refl _ _⟩
  case round=>
   obtain⟨k,hk,rfl,hg,hb⟩:=hrel;have HG:Hid (∀j,j<k->rR (l.getD j (aT,aT))=true/\(0<j->jB (l.getD (j - 1) (aT,aT)).1 (l.getD j (aT,aT)).1=true)):=hg;clear hg
   by_cases bQ:k<l.length
   ·obtain⟨b,o,rfl,lY,x_,nI⟩:=iK.2 k bQ;have HCP:Hid (∀j,j<l.length->∀W:World,Below w.heap.size w W->W.cell? ⟨b,o+j*2,none⟩=some (.string (l.getD j (aT,aT)).1)):=by
     intro j hj W hW;obtain⟨b',o',hp',hO',ED,Qs⟩:=iK.2 j hj
     cases hp'
     exact(World.cell?_of_block (a:=⟨b,o+j*2,none⟩) (hW.block _ (hO _ hO'))).trans ED
    have hx:=hz (l.getD k (aT,aT)) (Gr bQ);have pq:Hid (∀W:World,Below w.heap.size w W->W.cell? ⟨b,o+k*2,none⟩=some (.string (l.getD k (aT,aT)).1)):=HCP.out k bQ;have zt:Hid (∀W:World,Below w.heap.size w W->W.cell? ⟨b,o+k*2+1,none⟩=some (.string (l.getD k (aT,aT)).2)):=fun W hW=>(World.cell?_of_block (a:=⟨b,o+k*2+1,none⟩) (hW.block _ (hO _ lY))).trans nI;have uK:Hid (rR (l.getD k (aT,aT))=(Id.CG (l.getD k (aT,aT)).1&&Id.qL (NK (l.getD k (aT,aT)).2))):=rfl;obtain⟨x1,Iw⟩:∃x,(l.getD k (aT,aT)).1=x:=⟨_,rfl⟩;obtain⟨x2,PZ⟩:∃x,(l.getD k (aT,aT)).2=x:=⟨_,rfl⟩;have qz:Hid ((l.getD k (aT,aT)).1=x1):=Iw;rw[Iw]at hx uK pq;rw[PZ]at hx uK zt;clear x_ nI Iw PZ;have pX:Below w.heap.size w wr.drew:=hb.drew;have hS:=Id.mV x1 wr.drew (by omega);have hD:=fun W=>Id.oH (NK x2) W;unfold NK at hD;have MN:Hid (k<l.length):=bQ
    cases hs:Id.CG x1 with
    | false=>
     have HF:Hid (bR l=false):=o5 bQ (by rw[uK.out,hs];rfl);rw[hs]at hS;clear hs;go_wp2;refine aI (by kernel_rfl) (fun w'=>Below w.heap.size w w') ?_;change wpIn _ _ _ _ _ _ _ _ (World.drew _);refine aa (i:=0) (d:=some 13) rfl ?_;refine aa (i:=1) (d:=some 14) rfl ?_;refine aa (i:=2) (d:=some 15) rfl ?_;refine aa (i:=3) (d:=some 16) rfl ?_;refine aC (i:=4) (d:=some 17) rfl (by(intro wq hq;have z1:=pq.out wq hq;have z2:=zt.out wq hq;go_simp;first| done| with_reducible rfl)) ?_;refine ax (i:=5) pX rfl ?_;intro K hK;go_simp;go_wp2_with(go_at_call 72;refine hS.mono ?_;rintro e w1 ⟨rfl,rfl⟩);refine aa (i:=6) (d:=some 19) rfl ?_;refine aa (i:=7) (d:=some 20) rfl ?_;refine ae (i:=8) (d:=(some 21)) (v:=undef) (a':= ?aqaq8) rfl rfl (by kernel_rfl) (by kernel_rfl) (by kernel_rfl) (fun _ _ _ h=>h) (Or.inr ⟨by rfl,rfl⟩) ?fqaq8 ?_
     case fqaq8=>(go_frame;rfl)
     refine ae (i:=9) (d:=(some 22)) (v:=undef) (a':= ?aqaq9) rfl rfl (by kernel_rfl) (by kernel_rfl) (by kernel_rfl) (fun _ _ _ h=>h) (Or.inr ⟨by rfl,rfl⟩) ?fqaq9 ?_
     case fqaq9=>(go_frame;rfl)
     refine ae (i:=10) (d:=(some 23)) (v:=undef) (a':= ?aqaq10) rfl rfl (by kernel_rfl) (by kernel_rfl) (by kernel_rfl) (fun _ _ _ h=>h) (Or.inr ⟨by rfl,rfl⟩) ?fqaq10 ?_
     case fqaq10=>(go_frame;rfl)
     refine ae (i:=11) (d:=(some 24)) (v:=undef) (a':= ?aqaq11) rfl rfl (by kernel_rfl) (by kernel_rfl) (by kernel_rfl) (fun _ _ _ h=>h) (Or.inr ⟨by rfl,rfl⟩) ?fqaq11 ?_
     case fqaq11=>(go_frame;rfl)
     refine ae (i:=12) (d:=(some 25)) (v:=undef) (a':= ?aqaq12) rfl rfl (by kernel_rfl) (by kernel_rfl) (by kernel_rfl) (fun _ _ _ h=>h) (Or.inr ⟨by rfl,rfl⟩) ?fqaq12 ?_
     case fqaq12=>(go_frame;rfl)
     refine ae (i:=13) (d:=(some 26)) (v:=undef) (a':= ?aqaq13) rfl rfl (by kernel_rfl) (by kernel_rfl) (by kernel_rfl) (fun _ _ _ h=>h) (Or.inr ⟨by rfl,rfl⟩) ?fqaq13 ?_
     case fqaq13=>(go_frame;rfl)
     refine ae (i:=14) (d:=(some 27)) (v:=undef) (a':= ?aqaq14) rfl rfl (by kernel_rfl) (by kernel_rfl) (by kernel_rfl) (fun _ _ _ h=>h) (Or.inr ⟨by rfl,rfl⟩) ?fqaq14 ?_
     case fqaq14=>(go_frame;rfl)
     refine ae (i:=15) (d:=(some 28)) (v:=undef) (a':= ?aqaq15) rfl rfl (by kernel_rfl) (by kernel_rfl) (by kernel_rfl) (fun _ _ _ h=>h) (Or.inr ⟨by rfl,rfl⟩) ?fqaq15 ?_
     case fqaq15=>(go_frame;rfl)
     refine aa (i:=16) (d:=some 29) rfl ?_;refine aa (i:=17) (d:=some 30) rfl ?_;refine ae (i:=18) (d:=(some 31)) (v:=undef) (a':= ?aqaq18) rfl rfl (by kernel_rfl) (by kernel_rfl) (by kernel_rfl) (fun _ _ _ h=>h) (Or.inr ⟨by rfl,rfl⟩) ?fqaq18 ?_
     case fqaq18=>(go_frame;rfl)
     refine ae (i:=19) (d:=(some 32)) (v:=undef) (a':= ?aqaq19) rfl rfl (by kernel_rfl) (by kernel_rfl) (by kernel_rfl) (fun _ _ _ h=>h) (Or.inr ⟨by rfl,rfl⟩) ?fqaq19 ?_
     case fqaq19=>(go_frame;rfl)
     refine ae (i:=20) (d:=(some 33)) (v:=undef) (a':= ?aqaq20) rfl rfl (by kernel_rfl) (by kernel_rfl) (by kernel_rfl) (fun _ _ _ h=>h) (Or.inr ⟨by rfl,rfl⟩) ?fqaq20 ?_
     case fqaq20=>(go_frame;rfl)
     refine ae (i:=21) (d:=(some 34)) (v:=undef) (a':= ?aqaq21) rfl rfl (by kernel_rfl) (by kernel_rfl) (by kernel_rfl) (fun _ _ _ h=>h) (Or.inr ⟨by rfl,rfl⟩) ?fqaq21 ?_
     case fqaq21=>(go_frame;rfl)
     refine ae (i:=22) (d:=(some 35)) (v:=undef) (a':= ?aqaq22) rfl rfl (by kernel_rfl) (by kernel_rfl) (by kernel_rfl) (fun _ _ _ h=>h) (Or.inr ⟨by rfl,rfl⟩) ?fqaq22 ?_
     case fqaq22=>(go_frame;rfl)
     refine ae (i:=23) (d:=(some 36)) (v:=undef) (a':= ?aqaq23) rfl rfl (by kernel_rfl) (by kernel_rfl) (by kernel_rfl) (fun _ _ _ h=>h) (Or.inr ⟨by rfl,rfl⟩) ?fqaq23 ?_
     case fqaq23=>(go_frame;rfl)
     refine ae (i:=24) (d:=(some 37)) (v:=undef) (a':= ?aqaq24) rfl rfl (by kernel_rfl) (by kernel_rfl) (by kernel_rfl) (fun _ _ _ h=>h) (Or.inr ⟨by rfl,rfl⟩) ?fqaq24 ?_
     case fqaq24=>(go_frame;rfl)
     refine ae (i:=25) (d:=(some 38)) (v:=undef) (a':= ?aqaq25) rfl rfl (by kernel_rfl) (by kernel_rfl) (by kernel_rfl) (fun _ _ _ h=>h) (Or.inr ⟨by rfl,rfl⟩) ?fqaq25 ?_
     case fqaq25=>(go_frame;rfl)
     refine ae (i:=26) (d:=(some 39)) (v:=undef) (a':= ?aqaq26) rfl rfl (by kernel_rfl) (by kernel_rfl) (by kernel_rfl) (fun _ _ _ h=>h) (Or.inr ⟨by rfl,rfl⟩) ?fqaq26 ?_
     case fqaq26=>(go_frame;rfl)
     refine ae (i:=27) (d:=(some 40)) (v:=undef) (a':= ?aqaq27) rfl rfl (by kernel_rfl) (by kernel_rfl) (by kernel_rfl) (fun _ _ _ h=>h) (Or.inr ⟨by rfl,rfl⟩) ?fqaq27 ?_
     case fqaq27=>(go_frame;rfl)
     refine ae (i:=28) (d:=(some 41)) (v:=undef) (a':= ?aqaq28) rfl rfl (by kernel_rfl) (by kernel_rfl) (by kernel_rfl) (fun _ _ _ h=>h) (Or.inr ⟨by rfl,rfl⟩) ?fqaq28 ?_
     case fqaq28=>(go_frame;rfl)
     refine ae (i:=29) (d:=(some 42)) (v:=undef) (a':= ?aqaq29) rfl rfl (by kernel_rfl) (by kernel_rfl) (by kernel_rfl) (fun _ _ _ h=>h) (Or.inr ⟨by rfl,rfl⟩) ?fqaq29 ?_
     case fqaq29=>(go_frame;rfl)
     refine ae (i:=30) (d:=(some 43)) (v:=undef) (a':= ?aqaq30) rfl rfl (by kernel_rfl) (by kernel_rfl) (by kernel_rfl) (fun _ _ _ h=>h) (Or.inr ⟨by rfl,rfl⟩) ?fqaq30 ?_
     case fqaq30=>(go_frame;rfl)
     refine ae (i:=31) (d:=(some 44)) (v:=undef) (a':= ?aqaq31) rfl rfl (by kernel_rfl) (by kernel_rfl) (by kernel_rfl) (fun _ _ _ h=>h) (Or.inr ⟨by rfl,rfl⟩) ?fqaq31 ?_
     case fqaq31=>(go_frame;rfl)
     refine ae (i:=32) (d:=(some 45)) (v:=undef) (a':= ?aqaq32) rfl rfl (by kernel_rfl) (by kernel_rfl) (by kernel_rfl) (fun _ _ _ h=>h) (Or.inr ⟨by rfl,rfl⟩) ?fqaq32 ?_
     case fqaq32=>(go_frame;rfl)
     refine ae (i:=33) (d:=(some 46)) (v:=undef) (a':= ?aqaq33) rfl rfl (by kernel_rfl) (by kernel_rfl) (by kernel_rfl) (fun _ _ _ h=>h) (Or.inr ⟨by rfl,rfl⟩) ?fqaq33 ?_
     case fqaq33=>(go_frame;rfl)
     refine aa (i:=34) (d:=some 47) rfl ?_;refine aH pX (by kernel_rfl) ?_ _;go_wp2;go_ret;exact⟨aj HF.out.symm,pX⟩
    | true=>
     rw[hs]at hS
     cases hd:Id.qL (NK x2)with
     | false=>
      have HF:Hid (bR l=false):=o5 bQ (by rw[uK.out,hs,hd];rfl);unfold NK at hd;rw[hd]at hD;clear hs hd;go_wp2;refine aI (by kernel_rfl) (fun w'=>Below w.heap.size w w') ?_;change wpIn _ _ _ _ _ _ _ _ (World.drew _);refine aa (i:=0) (d:=some 13) rfl ?_;refine aa (i:=1) (d:=some 14) rfl ?_;refine aa (i:=2) (d:=some 15) rfl ?_;refine aa (i:=3) (d:=some 16) rfl ?_;refine aC (i:=4) (d:=some 17) rfl (by(intro wq hq;have z1:=pq.out wq hq;have z2:=zt.out wq hq;go_simp;first| done| with_reducible rfl)) ?_;refine ax (i:=5) pX rfl ?_;intro K hK;go_simp;go_wp2_with(go_at_call 72;refine hS.mono ?_;rintro e w1 ⟨rfl,rfl⟩);refine aa (i:=6) (d:=some 19) rfl ?_;refine aa (i:=7) (d:=some 20) rfl ?_;refine aa (i:=8) (d:=some 21) rfl ?_;refine aa (i:=9) (d:=some 22) rfl ?_;refine aa (i:=10) (d:=some 23) rfl ?_;refine aa (i:=11) (d:=some 24) rfl ?_;refine aC (i:=12) (d:=some 25) rfl (by(intro wq hq;have z1:=pq.out wq hq;have z2:=zt.out wq hq;go_simp;first| done| with_reducible rfl)) ?_;refine aC (i:=13) (d:=some 26) rfl (by(intro wq hq;have Z9:¬9223372036854775807<1+x2.size:=(by omega);go_simp;first| done| with_reducible rfl)) ?_;refine ax (i:=14) pX rfl ?_;intro K hK;go_simp;go_wp2_with(go_at_call 41;refine(hD _).mono ?_;rintro e w2 ⟨rfl,aY⟩;have Aq:=pX.trans (aY.mono pX.size));refine aa (i:=15) (d:=some 28) rfl ?_;refine aa (i:=16) (d:=some 29) rfl ?_;refine aa (i:=17) (d:=some 30) rfl ?_;refine ae (i:=18) (d:=(some 31)) (v:=undef) (a':= ?aqbq18) rfl rfl (by kernel_rfl) (by kernel_rfl) (by kernel_rfl) (fun _ _ _ h=>h) (Or.inr ⟨by rfl,rfl⟩) ?fqbq18 ?_
      case fqbq18=>(go_frame;rfl)
      refine ae (i:=19) (d:=(some 32)) (v:=undef) (a':= ?aqbq19) rfl rfl (by kernel_rfl) (by kernel_rfl) (by kernel_rfl) (fun _ _ _ h=>h) (Or.inr ⟨by rfl,rfl⟩) ?fqbq19 ?_
      case fqbq19=>(go_frame;rfl)
      refine ae (i:=20) (d:=(some 33)) (v:=undef) (a':= ?aqbq20) rfl rfl (by kernel_rfl) (by kernel_rfl) (by kernel_rfl) (fun _ _ _ h=>h) (Or.inr ⟨by rfl,rfl⟩) ?fqbq20 ?_
      case fqbq20=>(go_frame;rfl)
      refine ae (i:=21) (d:=(some 34)) (v:=undef) (a':= ?aqbq21) rfl rfl (by kernel_rfl) (by kernel_rfl) (by kernel_rfl) (fun _ _ _ h=>h) (Or.inr ⟨by rfl,rfl⟩) ?fqbq21 ?_
      case fqbq21=>(go_frame;rfl)
      refine ae (i:=22) (d:=(some 35)) (v:=undef) (a':= ?aqbq22) rfl rfl (by kernel_rfl) (by kernel_rfl) (by kernel_rfl) (fun _ _ _ h=>h) (Or.inr ⟨by rfl,rfl⟩) ?fqbq22 ?_
      case fqbq22=>(go_frame;rfl)
      refine ae (i:=23) (d:=(some 36)) (v:=undef) (a':= ?aqbq23) rfl rfl (by kernel_rfl) (by kernel_rfl) (by kernel_rfl) (fun _ _ _ h=>h) (Or.inr ⟨by rfl,rfl⟩) ?fqbq23 ?_
      case fqbq23=>(go_frame;rfl)
      refine ae (i:=24) (d:=(some 37)) (v:=undef) (a':= ?aqbq24) rfl rfl (by kernel_rfl) (by kernel_rfl) (by kernel_rfl) (fun _ _ _ h=>h) (Or.inr ⟨by rfl,rfl⟩) ?fqbq24 ?_
      case fqbq24=>(go_frame;rfl)
      refine ae (i:=25) (d:=(some 38)) (v:=undef) (a':= ?aqbq25) rfl rfl (by kernel_rfl) (by kernel_rfl) (by kernel_rfl) (fun _ _ _ h=>h) (Or.inr ⟨by rfl,rfl⟩) ?fqbq25 ?_
      case fqbq25=>(go_frame;rfl)
      refine ae (i:=26) (d:=(some 39)) (v:=undef) (a':= ?aqbq26) rfl rfl (by kernel_rfl) (by kernel_rfl) (by kernel_rfl) (fun _ _ _ h=>h) (Or.inr ⟨by rfl,rfl⟩) ?fqbq26 ?_
      case fqbq26=>(go_frame;rfl)
      refine ae (i:=27) (d:=(some 40)) (v:=undef) (a':= ?aqbq27) rfl rfl (by kernel_rfl) (by kernel_rfl) (by kernel_rfl) (fun _ _ _ h=>h) (Or.inr ⟨by rfl,rfl⟩) ?fqbq27 ?_
      case fqbq27=>(go_frame;rfl)
      refine ae (i:=28) (d:=(some 41)) (v:=undef) (a':= ?aqbq28) rfl rfl (by kernel_rfl) (by kernel_rfl) (by kernel_rfl) (fun _ _ _ h=>h) (Or.inr ⟨by rfl,rfl⟩) ?fqbq28 ?_
      case fqbq28=>(go_frame;rfl)
      refine ae (i:=29) (d:=(some 42)) (v:=undef) (a':= ?aqbq29) rfl rfl (by kernel_rfl) (by kernel_rfl) (by kernel_rfl) (fun _ _ _ h=>h) (Or.inr ⟨by rfl,rfl⟩) ?fqbq29 ?_
      case fqbq29=>(go_frame;rfl)
      refine ae (i:=30) (d:=(some 43)) (v:=undef) (a':= ?aqbq30) rfl rfl (by kernel_rfl) (by kernel_rfl) (by kernel_rfl) (fun _ _ _ h=>h) (Or.inr ⟨by rfl,rfl⟩) ?fqbq30 ?_
      case fqbq30=>(go_frame;rfl)
      refine ae (i:=31) (d:=(some 44)) (v:=undef) (a':= ?aqbq31) rfl rfl (by kernel_rfl) (by kernel_rfl) (by kernel_rfl) (fun _ _ _ h=>h) (Or.inr ⟨by rfl,rfl⟩) ?fqbq31 ?_
      case fqbq31=>(go_frame;rfl)
      refine ae (i:=32) (d:=(some 45)) (v:=undef) (a':= ?aqbq32) rfl rfl (by kernel_rfl) (by kernel_rfl) (by kernel_rfl) (fun _ _ _ h=>h) (Or.inr ⟨by rfl,rfl⟩) ?fqbq32 ?_
      case fqbq32=>(go_frame;rfl)
      refine ae (i:=33) (d:=(some 46)) (v:=undef) (a':= ?aqbq33) rfl rfl (by kernel_rfl) (by kernel_rfl) (by kernel_rfl) (fun _ _ _ h=>h) (Or.inr ⟨by rfl,rfl⟩) ?fqbq33 ?_
      case fqbq33=>(go_frame;rfl)
      refine aa (i:=34) (d:=some 47) rfl ?_;refine aH Aq (by kernel_rfl) ?_ _;go_wp2;go_ret;exact⟨aj HF.out.symm,Aq⟩
     | true=>
      have RY:Hid (rR (l.getD k (aT,aT))=true):=by show _=_;rw[uK.out,hs,hd];rfl
      unfold NK at hd;rw[hd]at hD;clear hs hd uK
      by_cases Ur:k=0
      ·subst Ur;simp only[Nat.zero_mul,Nat.add_zero]at pq zt;go_wp2;refine aI (by kernel_rfl) (fun w'=>Below w.heap.size w w') ?_;change wpIn _ _ _ _ _ _ _ _ (World.drew _);refine aa (i:=0) (d:=some 13) rfl ?_;refine aa (i:=1) (d:=some 14) rfl ?_;refine aa (i:=2) (d:=some 15) rfl ?_;refine aa (i:=3) (d:=some 16) rfl ?_;refine aC (i:=4) (d:=some 17) rfl (by(intro wq hq;have z1:=pq.out wq hq;have z2:=zt.out wq hq;go_simp;first| done| with_reducible rfl)) ?_;refine ax (i:=5) pX rfl ?_;intro K hK;go_simp;go_wp2_with(go_at_call 72;refine hS.mono ?_;rintro e w1 ⟨rfl,rfl⟩);refine aa (i:=6) (d:=some 19) rfl ?_;refine aa (i:=7) (d:=some 20) rfl ?_;refine aa (i:=8) (d:=some 21) rfl ?_;refine aa (i:=9) (d:=some 22) rfl ?_;refine aa (i:=10) (d:=some 23) rfl ?_;refine aa (i:=11) (d:=some 24) rfl ?_;refine aC (i:=12) (d:=some 25) rfl (by(intro wq hq;have z1:=pq.out wq hq;have z2:=zt.out wq hq;go_simp;first| done| with_reducible rfl)) ?_;refine aC (i:=13) (d:=some 26) rfl (by(intro wq hq;have Z9:¬9223372036854775807<1+x2.size:=(by omega);go_simp;first| done| with_reducible rfl)) ?_;refine ax (i:=14) pX rfl ?_;intro K hK;go_simp;go_wp2_with(go_at_call 41;refine(hD _).mono ?_;rintro e w2 ⟨rfl,aY⟩;have Aq:=pX.trans (aY.mono pX.size));refine aa (i:=15) (d:=some 28) rfl ?_;refine aa (i:=16) (d:=some 29) rfl ?_;refine aa (i:=17) (d:=some 30) rfl ?_;refine aa (i:=18) (d:=some 31) rfl ?_;refine aa (i:=19) (d:=some 32) rfl ?_;refine aa (i:=20) (d:=some 33) rfl ?_;refine ae (i:=21) (d:=(some 34)) (v:=undef) (a':= ?aqcq21) rfl rfl (by kernel_rfl) (by kernel_rfl) (by kernel_rfl) (fun _ _ _ h=>h) (Or.inr ⟨by rfl,rfl⟩) ?fqcq21 ?_
       case fqcq21=>(go_frame;rfl)
       refine ae (i:=22) (d:=(some 35)) (v:=undef) (a':= ?aqcq22) rfl rfl (by kernel_rfl) (by kernel_rfl) (by kernel_rfl) (fun _ _ _ h=>h) (Or.inr ⟨by rfl,rfl⟩) ?fqcq22 ?_
       case fqcq22=>(go_frame;rfl)
       refine ae (i:=23) (d:=(some 36)) (v:=undef) (a':= ?aqcq23) rfl rfl (by kernel_rfl) (by kernel_rfl) (by kernel_rfl) (fun _ _ _ h=>h) (Or.inr ⟨by rfl,rfl⟩) ?fqcq23 ?_
       case fqcq23=>(go_frame;rfl)
       refine ae (i:=24) (d:=(some 37)) (v:=undef) (a':= ?aqcq24) rfl rfl (by kernel_rfl) (by kernel_rfl) (by kernel_rfl) (fun _ _ _ h=>h) (Or.inr ⟨by rfl,rfl⟩) ?fqcq24 ?_
       case fqcq24=>(go_frame;rfl)
       refine ae (i:=25) (d:=(some 38)) (v:=undef) (a':= ?aqcq25) rfl rfl (by kernel_rfl) (by kernel_rfl) (by kernel_rfl) (fun _ _ _ h=>h) (Or.inr ⟨by rfl,rfl⟩) ?fqcq25 ?_
       case fqcq25=>(go_frame;rfl)
       refine ae (i:=26) (d:=(some 39)) (v:=undef) (a':= ?aqcq26) rfl rfl (by kernel_rfl) (by kernel_rfl) (by kernel_rfl) (fun _ _ _ h=>h) (Or.inr ⟨by rfl,rfl⟩) ?fqcq26 ?_
       case fqcq26=>(go_frame;rfl)
       refine ae (i:=27) (d:=(some 40)) (v:=undef) (a':= ?aqcq27) rfl rfl (by kernel_rfl) (by kernel_rfl) (by kernel_rfl) (fun _ _ _ h=>h) (Or.inr ⟨by rfl,rfl⟩) ?fqcq27 ?_
       case fqcq27=>(go_frame;rfl)
       refine ae (i:=28) (d:=(some 41)) (v:=undef) (a':= ?aqcq28) rfl rfl (by kernel_rfl) (by kernel_rfl) (by kernel_rfl) (fun _ _ _ h=>h) (Or.inr ⟨by rfl,rfl⟩) ?fqcq28 ?_
       case fqcq28=>(go_frame;rfl)
       refine ae (i:=29) (d:=(some 42)) (v:=undef) (a':= ?aqcq29) rfl rfl (by kernel_rfl) (by kernel_rfl) (by kernel_rfl) (fun _ _ _ h=>h) (Or.inr ⟨by rfl,rfl⟩) ?fqcq29 ?_
       case fqcq29=>(go_frame;rfl)
       refine ae (i:=30) (d:=(some 43)) (v:=undef) (a':= ?aqcq30) rfl rfl (by kernel_rfl) (by kernel_rfl) (by kernel_rfl) (fun _ _ _ h=>h) (Or.inr ⟨by rfl,rfl⟩) ?fqcq30 ?_
       case fqcq30=>(go_frame;rfl)
       refine ae (i:=31) (d:=(some 44)) (v:=undef) (a':= ?aqcq31) rfl rfl (by kernel_rfl) (by kernel_rfl) (by kernel_rfl) (fun _ _ _ h=>h) (Or.inr ⟨by rfl,rfl⟩) ?fqcq31 ?_
       case fqcq31=>(go_frame;rfl)
       refine ae (i:=32) (d:=(some 45)) (v:=undef) (a':= ?aqcq32) rfl rfl (by kernel_rfl) (by kernel_rfl) (by kernel_rfl) (fun _ _ _ h=>h) (Or.inr ⟨by rfl,rfl⟩) ?fqcq32 ?_
       case fqcq32=>(go_frame;rfl)
       refine aa (i:=33) (d:=some 46) rfl ?_;refine aa (i:=34) (d:=some 47) rfl ?_;refine aH Aq (by kernel_rfl) ?_ _;go_wp2;go_roundw
       case rel=>exact⟨1,by omega,by go_num,fun j hj=>(by
           obtain rfl:j=0:=(by omega);exact⟨RY.out,fun h=>absurd h (by omega)⟩),Aq⟩
       case measure=>simp[intOf];omega
      ·obtain⟨m,hm⟩:∃m,m=k - 1:=⟨_,rfl⟩;have HKM:Hid (k=m+1):=by show _=_;omega
       have AX:m<l.length:=by omega
       have em:(k:Int) - 1=(m:Int):=by omega
       have hwm:IntKind.i64.wrap (m:Int)=(m:Int):=VP (by omega) (by omega);have JJ:decide (0<k)=true:=by simp;omega
       have hd1:decide (0<(k:Int))=true:=by simp;omega
       have hmp:(m:Int)<(l.length:Int):=by omega
       obtain⟨y1,Ul⟩:∃x,(l.getD m (aT,aT)).1=x:=⟨_,rfl⟩;have HY1:Hid ((l.getD m (aT,aT)).1=y1):=Ul;have Zt:Hid (∀W:World,Below w.heap.size w W->W.cell? ⟨b,o+m*2,none⟩=some (.string y1)):=by rw[<-Ul];exact HCP.out m AX
       clear Ul hm;have hge:=JY y1 x1
       cases vC:jB y1 x1 with
       | true=>
        rw[vC]at hge;have yA:Hid (jB y1 x1=true):=vC;clear vC;go_wp2;refine aI (by kernel_rfl) (fun w'=>Below w.heap.size w w') ?_;change wpIn _ _ _ _ _ _ _ _ (World.drew _);refine aa (i:=0) (d:=some 13) rfl ?_;refine aa (i:=1) (d:=some 14) rfl ?_;refine aa (i:=2) (d:=some 15) rfl ?_;refine aa (i:=3) (d:=some 16) rfl ?_;refine aC (i:=4) (d:=some 17) rfl (by(intro wq hq;have z1:=pq.out wq hq;have z2:=zt.out wq hq;go_simp;first| done| with_reducible rfl)) ?_;refine ax (i:=5) pX rfl ?_;intro K hK;go_simp;go_wp2_with(go_at_call 72;refine hS.mono ?_;rintro e w1 ⟨rfl,rfl⟩);refine aa (i:=6) (d:=some 19) rfl ?_;refine aa (i:=7) (d:=some 20) rfl ?_;refine aa (i:=8) (d:=some 21) rfl ?_;refine aa (i:=9) (d:=some 22) rfl ?_;refine aa (i:=10) (d:=some 23) rfl ?_;refine aa (i:=11) (d:=some 24) rfl ?_;refine aC (i:=12) (d:=some 25) rfl (by(intro wq hq;have z1:=pq.out wq hq;have z2:=zt.out wq hq;go_simp;first| done| with_reducible rfl)) ?_;refine aC (i:=13) (d:=some 26) rfl (by(intro wq hq;have Z9:¬9223372036854775807<1+x2.size:=(by omega);go_simp;first| done| with_reducible rfl)) ?_;refine ax (i:=14) pX rfl ?_;intro K hK;go_simp;go_wp2_with(go_at_call 41;refine(hD _).mono ?_;rintro e w2 ⟨rfl,aY⟩;have Aq:=pX.trans (aY.mono pX.size));refine aa (i:=15) (d:=some 28) rfl ?_;refine aa (i:=16) (d:=some 29) rfl ?_;refine aa (i:=17) (d:=some 30) rfl ?_;refine aa (i:=18) (d:=some 31) rfl ?_;refine aa (i:=19) (d:=some 32) rfl ?_;refine aa (i:=20) (d:=some 33) rfl ?_;refine aa (i:=21) (d:=some 34) rfl ?_;refine aa (i:=22) (d:=some 35) rfl ?_;refine aa (i:=23) (d:=some 36) rfl ?_;refine aa (i:=24) (d:=some 37) rfl ?_;refine aa (i:=25) (d:=some 38) rfl ?_;refine aC (i:=26) (d:=some 39) rfl (by(intro wq hq;have z1:=pq.out wq hq;have z3:=Zt.out wq hq;go_simp;first| done| with_reducible rfl)) ?_;refine aa (i:=27) (d:=some 40) rfl ?_;refine aa (i:=28) (d:=some 41) rfl ?_;refine aa (i:=29) (d:=some 42) rfl ?_;refine aa (i:=30) (d:=some 43) rfl ?_;refine aC (i:=31) (d:=some 44) rfl (by(intro wq hq;have z1:=pq.out wq hq;have z3:=Zt.out wq hq;go_simp;first| done| with_reducible rfl)) ?_;refine aa (i:=32) (d:=some 45) rfl ?_;refine aa (i:=33) (d:=some 46) rfl ?_;refine aa (i:=34) (d:=some 47) rfl ?_;refine aH Aq (by kernel_rfl) ?_ _;go_wp2;go_roundw
        case rel=>
         refine⟨k+1,by omega,by go_num,fun j hj=> ?_,Aq⟩
         by_cases e:j=k
         ·subst e;refine⟨RY.out,fun _=> ?_⟩;rw[show j - 1=m by have:=HKM.out;omega,HY1.out,qz.out];exact yA.out
         ·exact HG.out j (by omega)
        case measure=>simp[intOf];omega
       | false=>
        rw[vC]at hge;have HF:Hid (bR l=false):=rT (j:=k) (by omega) MN.out (by rw[show k - 1=m by have:=HKM.out;omega,HY1.out,qz.out];exact vC);clear vC;go_wp2;refine aI (by kernel_rfl) (fun w'=>Below w.heap.size w w') ?_;change wpIn _ _ _ _ _ _ _ _ (World.drew _);refine aa (i:=0) (d:=some 13) rfl ?_;refine aa (i:=1) (d:=some 14) rfl ?_;refine aa (i:=2) (d:=some 15) rfl ?_;refine aa (i:=3) (d:=some 16) rfl ?_;refine aC (i:=4) (d:=some 17) rfl (by(intro wq hq;have z1:=pq.out wq hq;have z2:=zt.out wq hq;go_simp;first| done| with_reducible rfl)) ?_;refine ax (i:=5) pX rfl ?_;intro K hK;go_simp;go_wp2_with(go_at_call 72;refine hS.mono ?_;rintro e w1 ⟨rfl,rfl⟩);refine aa (i:=6) (d:=some 19) rfl ?_;refine aa (i:=7) (d:=some 20) rfl ?_;refine aa (i:=8) (d:=some 21) rfl ?_;refine aa (i:=9) (d:=some 22) rfl ?_;refine aa (i:=10) (d:=some 23) rfl ?_;refine aa (i:=11) (d:=some 24) rfl ?_;refine aC (i:=12) (d:=some 25) rfl (by(intro wq hq;have z1:=pq.out wq hq;have z2:=zt.out wq hq;go_simp;first| done| with_reducible rfl)) ?_;refine aC (i:=13) (d:=some 26) rfl (by(intro wq hq;have Z9:¬9223372036854775807<1+x2.size:=(by omega);go_simp;first| done| with_reducible rfl)) ?_;refine ax (i:=14) pX rfl ?_;intro K hK;go_simp;go_wp2_with(go_at_call 41;refine(hD _).mono ?_;rintro e w2 ⟨rfl,aY⟩;have Aq:=pX.trans (aY.mono pX.size));refine aa (i:=15) (d:=some 28) rfl ?_;refine aa (i:=16) (d:=some 29) rfl ?_;refine aa (i:=17) (d:=some 30) rfl ?_;refine aa (i:=18) (d:=some 31) rfl ?_;refine aa (i:=19) (d:=some 32) rfl ?_;refine aa (i:=20) (d:=some 33) rfl ?_;refine aa (i:=21) (d:=some 34) rfl ?_;refine aa (i:=22) (d:=some 35) rfl ?_;refine aa (i:=23) (d:=some 36) rfl ?_;refine aa (i:=24) (d:=some 37) rfl ?_;refine aa (i:=25) (d:=some 38) rfl ?_;refine aC (i:=26) (d:=some 39) rfl (by(intro wq hq;have z1:=pq.out wq hq;have z3:=Zt.out wq hq;go_simp;first| done| with_reducible rfl)) ?_;refine aa (i:=27) (d:=some 40) rfl ?_;refine aa (i:=28) (d:=some 41) rfl ?_;refine aa (i:=29) (d:=some 42) rfl ?_;refine aa (i:=30) (d:=some 43) rfl ?_;refine aC (i:=31) (d:=some 44) rfl (by(intro wq hq;have z1:=pq.out wq hq;have z3:=Zt.out wq hq;go_simp;first| done| with_reducible rfl)) ?_;refine aa (i:=32) (d:=some 45) rfl ?_;refine aa (i:=33) (d:=some 46) rfl ?_;refine aa (i:=34) (d:=some 47) rfl ?_;refine aH Aq (by kernel_rfl) ?_ _;go_wp2;go_ret;exact⟨aj HF.out.symm,Aq⟩
   ·obtain rfl:k=l.length:=by omega
    have HF:Hid (bR l=true):=xN HL4.out HG.out;go_wp2;go_ret;exact⟨aj HF.out.symm,hb⟩
 ·have HF:Hid (bR l=false):=by
    show _=_
    unfold bR;rw[decide_eq_false h4,Bool.false_and,Bool.false_and]
  go_enter Tryz.func40,Tryz.ntmps40;go_wp2;go_ret;exact⟨aj HF.out.symm,Below.refl _ _⟩
open Go.RowKit Go.Maps
theorem Gs(s:ByteArray)(w:World)(hs:s.size<=1000000):
    Calls Tryz.prog 35 #[.string s] w fun x w'=>x=.returned (.bool (Id.parts 64 s).2.2)/\Below w.heap.size w w':=by
 go_enter Tryz.func35,Tryz.ntmps35;go_wp2_with(go_at_call 69;refine(Id.mD s _ (by omega)).mono ?_;rintro e w1 ⟨rfl,aL⟩;unfold Id.told);go_ret;exact⟨rfl,aL⟩
theorem Sw(s:ByteArray)(w:World):
    Calls Tryz.prog 65 #[.string s] w fun x w'=>x=.returned (.agg #[.int .i64 3,.int .i64 0,.string s,.slice none 0 0,.slice none 0 0])/\Below w.heap.size w w':=by
 have hr:(w.alloc (.cells #[.int .i64 0,.int .i64 0,.string ⟨#[]⟩,.slice none 0 0,.slice none 0 0] 25)).heap[w.heap.size]?=some (.cells #[.int .i64 0,.int .i64 0,.string ⟨#[]⟩,.slice none 0 0,.slice none 0 0] 25 (0,0)):=heap_alloc_new _ _;have hb:Below w.heap.size w (w.alloc (.cells #[.int .i64 0,.int .i64 0,.string ⟨#[]⟩,.slice none 0 0,.slice none 0 0] 25)):=(Below.refl _ _).alloc (Nat.le_refl _) _;go_enter Tryz.func65,Tryz.ntmps65
 go_upto_region 1 with fail
 generalize w.alloc (.cells #[.int .i64 0,.int .i64 0,.string ⟨#[]⟩,.slice none 0 0,.slice none 0 0] 25)=WB at*;obtain⟨i0,i1,i2,i3,i4⟩:=aU hr;obtain⟨z0,z1,z2,z3,z4⟩:=fZ hr;go_wp2;have h5:=dS hr (.int .i64 3) (.int .i64 0) (.string s) (.slice none 0 0) (.slice none 0 0);have eD:ay (One w.heap.size) WB _:=dU WB w.heap.size (.int .i64 3) (.int .i64 0) (.string s) (.slice none 0 0) (.slice none 0 0);obtain⟨WE,Cc⟩:∃WE,WE=lN WB w.heap.size (.int .i64 3) (.int .i64 0) (.string s) (.slice none 0 0) (.slice none 0 0):=⟨_,rfl⟩;rw[<-Cc]at h5 eD;unfold lN at Cc;rw[<-Cc];refine bodyPost_ret (o7 rfl _ _ _ rfl (Kz h5)) rfl ?_;exact⟨rfl,hb.trans (eD.below hb.size fun q hq=>by unfold One;omega)⟩
open Go.RowKit
theorem wP(O:Nat->Prop)(w:World)(k i:Int)(t:ByteArray):isJ O w (.mk k i t [] []) [.int .i64 k,.int .i64 i,.string t,.slice none 0 0,.slice none 0 0]:=by
 unfold isJ;exact⟨none,0,none,0,rfl,jP.nil _ _,Nat.le_refl _,by unfold isJs;trivial⟩
theorem Sy:(Tryz.prog.info? 25).map (·.size)=some 5:=by kernel_rfl
theorem Sz{w:World}{b o:Nat}{e:Ev}{p:Pt}(h:w.rangeAt b o (aA e p)):(loadVar 28 ⟨b,o,none⟩).run Tryz.prog w=.ok (eF e p) w:=run_loadVar_mid w b o 28 (aA e p) _ h Tryz.underlying28 rfl dX
abbrev tC(key s:ByteArray):J:=.mk 5 0 aT [key] [.mk 3 0 s [] []]
def XF(b1 c1 b2 c2:Nat):List Value:= [.int .i64 5,.int .i64 0,.string aT,.slice (some ⟨b1,0,none⟩) 1 c1,.slice (some ⟨b2,0,none⟩) 1 c2]
theorem VQ(b1 c1 b2 c2:Nat):(XF b1 c1 b2 c2).toArray.all (·.oneCell')=true:=all_oneCell_toArray fun v hv=>by
 simp only[XF,List.mem_cons,List.not_mem_nil,or_false]at hv
 rcases hv with rfl| rfl| rfl| rfl| rfl<;>rfl
theorem PC{w:World}{b o b1 c1 b2 c2:Nat}(h:w.rangeAt b o (XF b1 c1 b2 c2)):(loadVar 25 ⟨b,o,none⟩).run Tryz.prog w=.ok (.agg (XF b1 c1 b2 c2).toArray) w:=run_loadVar_mid w b o 25 (XF b1 c1 b2 c2) _ h Tryz.underlying25 rfl Sy
theorem tF(key s:ByteArray)(w:World):Calls Tryz.prog 30 #[.string key,.string s] w fun x w'=>
    (∃pk ck pl cl,x=.returned (.agg #[.int .i64 5,.int .i64 0,.string aT,.slice pk 1 ck,.slice pl 1 cl])/\isJ (· <w'.heap.size) w' (tC key s) [.int .i64 5,.int .i64 0,.string aT,.slice pk 1 ck,.slice pl 1 cl])/\Below w.heap.size w w':=by
 obtain⟨W,hW⟩:∃W,W=w.alloc (.cells #[.int .i64 0,.int .i64 0,.string ⟨#[]⟩,.slice none 0 0,.slice none 0 0] 25):=⟨_,rfl⟩;have cK:Below w.heap.size w W:=by rw[hW];exact(Below.refl _ _).alloc (Nat.le_refl _) _
 have kU:W.heap[w.heap.size]?=some (.cells #[.int .i64 0,.int .i64 0,.string ⟨#[]⟩,.slice none 0 0,.slice none 0 0] 25 (0,0)):=by rw[hW];exact bz _
 have hS:=Sw s W;have HP:Hid (∀X,Below W.heap.size W X->Calls Tryz.prog 44 #[.agg #[.int .i64 5,.int .i64 0,.string ⟨#[]⟩,.slice none 0 0,.slice none 0 0],.string key,.agg #[.int .i64 3,.int .i64 0,.string s,.slice none 0 0,.slice none 0 0]] X fun x w'=>(∃b1 c1 b2 c2,x=.returned (.agg (XF b1 c1 b2 c2).toArray)/\isJ (fun b=>b<w.heap.size\/ tN X w' b) w' (tC key s) [.int .i64 5,.int .i64 0,.string ⟨#[]⟩,.slice (some ⟨b1,0,none⟩) 1 c1,.slice (some ⟨b2,0,none⟩) 1 c2])/\Below X.heap.size X w'):=fun X hX=>by
  refine(Su (O:=(· <w.heap.size)) (w:=X) (j:=.mk 5 0 aT [] []) (v:=.mk 3 0 s [] []) (k:=5) (i:=0) (t:=⟨#[]⟩) (vk:=3) (vi:=0) (vt:=s) (pk:=none) (pl:=none) (vpk:=none) (vpl:=none) (nk:=0) (ck:=0) (nl:=0) (cl:=0) (vnk:=0) (vck:=0) (vnl:=0) (vcl:=0) key (fun b hb=>Nat.lt_of_lt_of_le hb (ag cK hX).size) ?_ ?_ (fun _=>rfl) (fun _=>rfl) (by decide) (by decide)).mono fun x w' hh=>hh
  ·exact wP _ _ _ _ _
  ·exact wP _ _ _ _ _
 go_enter Tryz.func30,Tryz.ntmps30
 go_upto_region 1 with fail
 rw[<-hW];clear hW;go_wp2_with(first
  | (go_at_call 65;refine hS.mono ?_;rintro x w1 ⟨rfl,aL⟩;have hP1:=HP.out w1 aL)
  | (go_at_call 44;refine hP1.mono ?_;rintro x w2 ⟨⟨b1,c1,b2,c2,rfl,hj⟩,aY⟩
     have hX2:w2.heap[w.heap.size]?=some (.cells #[.int .i64 0,.int .i64 0,.string ⟨#[]⟩,.slice none 0 0,.slice none 0 0] 25 (0,0)):=((ag aL aY).block _ (aP kU)).trans kU;have HX2:=(show Hid _ from hX2);clear hX2)
  | (refine wpList_store_row rfl 25 _ _ rfl w.heap.size 25 _ (XF b1 c1 b2 c2).toArray rfl rfl HX2.out Sy rfl (VQ _ _ _ _) ?_))
 have hk:=aX w2 w.heap.size (XF b1 c1 b2 c2).toArray;refine bodyPost_ret (gY rfl _ _ _ rfl (PC (dY (setRow_heap _ _ _ _ _ _ HX2.out)))) rfl ?_;have ny:Below w.heap.size w w2:=ag cK (ag aL aY);have bQ:=aP kU;have s1:=aL.size;refine⟨⟨some ⟨b1,0,none⟩,c1,some ⟨b2,0,none⟩,c2,rfl,hj.carry fun b hb=> ?_⟩,ny.trans (hk.below ny.size fun k hk e=>by unfold aJ at e;omega)⟩;have h2:b<w2.heap.size/\b≠w.heap.size:=by
  rcases hb with hb| hb
  ·exact⟨Nat.lt_of_lt_of_le hb ny.size,by omega⟩
  ·unfold tN at hb;exact⟨by omega,by omega⟩
 exact⟨Nat.lt_of_lt_of_le h2.1 hk.size,hk.block b h2.1 (by unfold aJ;exact h2.2)⟩
abbrev stE(kind key ah:ByteArray)(c:J):Ev:=⟨⟨#[33,114,58,115,49]⟩,kind,ah,true,key,c, [], [],0,0,aT, []⟩
theorem Gt(kind key ah kk s:ByteArray)(pk:Option Addr)(ck:Nat)(pl:Option Addr)(cl:Nat)(w:World):Calls Tryz.prog 29 #[.string kind,.string key,.string ah,.agg #[.int .i64 5,.int .i64 0,.string aT,.slice pk 1 ck,.slice pl 1 cl]] w fun x w'=>
    x=.returned (eF (stE kind key ah (tC kk s)) ⟨pk,ck,pl,cl,none,0,none,0,none,0⟩)/\Below w.heap.size w w':=by
 obtain⟨W,hW⟩:∃W,W=(w.alloc (.cells #[.int .i64 5,.int .i64 0,.string aT,.slice pk 1 ck,.slice pl 1 cl] 25)).alloc (.cells (aA Ev.zero Pt.zero).toArray 28):=⟨_,rfl⟩;have cK:Below w.heap.size w W:=by rw[hW];exact((Below.refl _ _).alloc (Nat.le_refl _) _).alloc (by simp) _
 have kU:W.heap[w.heap.size]?=some (.cells #[.int .i64 5,.int .i64 0,.string aT,.slice pk 1 ck,.slice pl 1 cl] 25 (0,0)):=by rw[hW,Below.heap_alloc _ _ _ (by simp)];exact bz _
 have qz:Hid (W.heap[w.heap.size+1]?=some (.cells (aA Ev.zero Pt.zero).toArray 28 (0,0))):=by
  show _=_
  rw[hW];have:=bz (w:=w.alloc (.cells #[.int .i64 5,.int .i64 0,.string aT,.slice pk 1 ck,.slice pl 1 cl] 25)) (.cells (aA Ev.zero Pt.zero).toArray 28);rw[World.size_alloc]at this;exact this
 have HR:Hid (W.rangeAt w.heap.size 0 [.int .i64 5,.int .i64 0,.string aT,.slice pk 1 ck,.slice pl 1 cl]):=dY kU;clear kU;go_enter Tryz.func29,Tryz.ntmps29
 go_upto_region 1 with fail
 change Code.wp _ _ _ _ ((w.alloc (.cells #[.int .i64 5,.int .i64 0,.string aT,.slice pk 1 ck,.slice pl 1 cl] 25)).alloc (.cells (aA Ev.zero Pt.zero).toArray 28));rw[<-hW];clear hW;go_wp2_with(first
  | (refine wpList_load_mid rfl 25 _ rfl w.heap.size 0 rfl _ _ HR.out Tryz.underlying25 rfl (by kernel_rfl) ?_)
  | (refine wpList_store_row rfl 28 _ _ rfl (w.heap.size+1) 28 _ (aA (stE kind key ah (tC kk s)) ⟨pk,ck,pl,cl,none,0,none,0,none,0⟩).toArray rfl rfl qz.out dX rfl (Cg _ _) ?_))
 refine bodyPost_ret (gY rfl _ _ _ rfl (Sz (dY (setRow_heap _ _ _ _ _ _ qz.out)))) rfl ?_;refine⟨rfl,cK.trans ((aX _ (w.heap.size+1) _).below cK.size fun k hk e=>by unfold aJ at e;omega)⟩
end Go.Proofs.YtldegjjaknelgaaGreatDoor

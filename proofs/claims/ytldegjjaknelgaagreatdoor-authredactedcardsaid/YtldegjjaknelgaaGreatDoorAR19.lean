/- A part. -/
import Derived.Test.YtldegjjaknelgaaGreatDoorAR18
import Derived.Deep.QuietTactic
set_option maxRecDepth 100000
set_option maxHeartbeats 64000000
namespace Go.Proofs.YtldegjjaknelgaaGreatDoor
open Go.RowKit
theorem Nn:KH 0:=fun _ _ j _ _ _ _ _ _ _ _ _ _ hg=>by unfold goodJ at hg;cases hg
theorem U5:∀d,KH d
 | 0=>Nn
 | d+1=>Nl (U5 d)
def Co(j:J):J:=if goodJ 12 j=true then ord j else J.zero
theorem Qs{w:World}(o1 o2:Obj):((w.alloc o1).alloc o2).heap[w.heap.size+1]?=some o2:=by
 have:=heap_alloc_new (w.alloc o1) o2;simpa using this
theorem wz{w w2 w3:World}(h:Below w.heap.size w w2)(hk:av (One (w.heap.size+1)) w2 w3):Below w.heap.size w w3:=
 h.trans (hk.below h.size fun k Sd e=>by unfold One at e;omega)
theorem Jr{w:World}{O:Nat->Prop}{j:J}{k i:Int}{t:ByteArray}{pk pl:Option Addr}{nk ck nl cl:Nat}(hO:∀x,O x->x<w.heap.size)(fq:szJ 12 j=true)
    (hj:isJ O w j [.int .i64 k,.int .i64 i,.string t,.slice pk nk ck,.slice pl nl cl]):
    Calls Tryz.prog 45 #[.agg #[.int .i64 k,.int .i64 i,.string t,.slice pk nk ck,.slice pl nl cl]] w fun x w'=>(∃kr ir tr pr nr cr qr mr dr,x=.returned (.agg #[.int .i64 kr,.int .i64 ir,.string tr,.slice pr nr cr,.slice qr mr dr])/\isJ (fun b=>O b\/ (w.heap.size<=b/\b<w'.heap.size)) w' (Co j) [.int .i64 kr,.int .i64 ir,.string tr,.slice pr nr cr,.slice qr mr dr])/\Below w.heap.size w w':=by
 have BA:Below w.heap.size w ((w.alloc (.cells #[.int .i64 k,.int .i64 i,.string t,.slice pk nk ck,.slice pl nl cl] 25)).alloc (.cells #[.int .i64 0,.int .i64 0,.string ⟨#[]⟩,.slice none 0 0,.slice none 0 0] 25)):=((Below.refl _ _).alloc (Nat.le_refl _) _).alloc (by simp) _;obtain⟨wB,ug⟩:∃wB,wB=((w.alloc (.cells #[.int .i64 k,.int .i64 i,.string t,.slice pk nk ck,.slice pl nl cl] 25)).alloc (.cells #[.int .i64 0,.int .i64 0,.string ⟨#[]⟩,.slice none 0 0,.slice none 0 0] 25)):=⟨_,rfl⟩;have hA:wB.heap[w.heap.size]?=some (.cells #[.int .i64 k,.int .i64 i,.string t,.slice pk nk ck,.slice pl nl cl] 25 (0,0)):=by
  rw[ug,Below.heap_alloc _ _ _ (by simp)];exact heap_alloc_new _ _
 have hR:wB.heap[w.heap.size+1]?=some (.cells #[.int .i64 0,.int .i64 0,.string ⟨#[]⟩,.slice none 0 0,.slice none 0 0] 25 (0,0)):=by rw[ug];exact Qs _ _
 rw[<-ug]at BA;have V_:∀x,O x->x<wB.heap.size:=fun x hx=>Nat.lt_of_lt_of_le (hO x hx) BA.size;have NS:=hj.carry (O':=O) (w':=wB) fun x hx=>⟨hx,BA.block x (hO x hx)⟩;have hG:=uZ V_ fq NS;have hsA:w.heap.size<wB.heap.size:=(Array.getElem?_eq_some_iff.1 hA).1;have V6:w.heap.size+1<wB.heap.size:=(Array.getElem?_eq_some_iff.1 hR).1;have c0:=wY hA
 cases hg:goodJ 12 j with
 | false=>
  have HZ:Hid (Co j=J.zero):=by show _=_;unfold Co;rw[hg];rfl
  rw[hg]at hG;rw[ug]at hG;clear hj NS c0;go_enter Tryz.func45,Tryz.ntmps45;go_wp2_with(go_at_call 37;refine hG.mono ?_;rintro x w2 ⟨rfl,aT⟩;rw[<-ug]at aT;have iI:=(aT.block _ V6).trans hR;obtain⟨i0,i1,i2,i3,i4⟩:=aM iI;obtain⟨z0,z1,z2,z3,z4⟩:=fD iI);have h5:=dG iI (.int .i64 0) (.int .i64 0) (.string ⟨#[]⟩) (.slice none 0 0) (.slice none 0 0);have dR:av (One (w.heap.size+1)) w2 _:=dH w2 (w.heap.size+1) (.int .i64 0) (.int .i64 0) (.string ⟨#[]⟩) (.slice none 0 0) (.slice none 0 0);unfold kK at h5 dR;obtain⟨k0,k1,k2,k3,k4⟩:=aM h5;refine bodyPost_ret (v:=.agg #[.int .i64 0,.int .i64 0,.string ⟨#[]⟩,.slice none 0 0,.slice none 0 0]) (by simp[results,Tryz.results45,go_sem,k0,k1,k2,k3,k4]) rfl ?_;refine⟨⟨_,_,_,_,_,_,_,_,_,rfl, ?_⟩,wz (aj BA aT) dR⟩;rw[HZ.out];exact xq _ _
 | true=>
  have HZ:Hid (Co j=ord j):=by show _=_;unfold Co;rw[hg];rfl
  have UH:Hid (goodJ 12 j=true):=hg;have HJ:Hid (isJ O wB j [.int .i64 k,.int .i64 i,.string t,.slice pk nk ck,.slice pl nl cl]):=NS;rw[hg]at hG;rw[ug]at hG;clear hj NS hg c0;go_enter Tryz.func45,Tryz.ntmps45;go_wp2_with(first
   | (go_at_call 37;refine hG.mono ?_;rintro x w2 ⟨rfl,aT⟩
      rw[<-ug]at aT;have Wd:=(aT.block _ hsA).trans hA;obtain⟨c0,c1,c2,c3,c4⟩:=aM Wd;have We:=U5 12 w2 O j k i t pk pl nk ck nl cl (fun x hx=>Nat.lt_of_lt_of_le (V_ x hx) aT.size) UH.out fq (HJ.out.carry fun x hx=>⟨hx,aT.block x (V_ x hx)⟩))
   | (go_at_call 74;refine We.mono ?_;rintro x w4 ⟨⟨kr,ir,tr,pr,nr,cr,qr,mr,dr,rfl,Aq⟩,dB⟩
      have rY:=aj aT dB;have iI:=(rY.block _ V6).trans hR;obtain⟨i0,i1,i2,i3,i4⟩:=aM iI;obtain⟨z0,z1,z2,z3,z4⟩:=fD iI))
  have h5:=dG iI (.int .i64 kr) (.int .i64 ir) (.string tr) (.slice pr nr cr) (.slice qr mr dr);have dR:av (One (w.heap.size+1)) w4 _:=dH w4 (w.heap.size+1) (.int .i64 kr) (.int .i64 ir) (.string tr) (.slice pr nr cr) (.slice qr mr dr);unfold kK at h5 dR;obtain⟨k0,k1,k2,k3,k4⟩:=aM h5;refine bodyPost_ret (v:=.agg #[.int .i64 kr,.int .i64 ir,.string tr,.slice pr nr cr,.slice qr mr dr]) (by simp[results,Tryz.results45,go_sem,k0,k1,k2,k3,k4]) rfl ?_;refine⟨⟨_,_,_,_,_,_,_,_,_,rfl, ?_⟩,wz (aj BA rY) dR⟩;rw[HZ.out];refine Aq.carry fun x hx=> ?_;have s2:=aT.size;have s4:=dB.size
  rcases hx with hx| hx
  ·have:=hO x hx;exact⟨.inl hx,dR.block x (by have:=BA.size;omega) (by unfold One;omega)⟩
  ·have:=hx.1;exact⟨.inr ⟨by omega,Nat.lt_of_lt_of_le hx.2 dR.size⟩,dR.block x hx.2 (by unfold One;omega)⟩
open Go.RowKit Go.Maps
theorem Js{w:World}{b:Nat}{t:TypeId}{a0 a1 a2 a3 a4:Value}(h:w.heap[b]?=some (.cells #[a0,a1,a2,a3,a4] t (0,0))):(loadVar 25 ⟨b,0,none⟩).run Tryz.prog w=.ok (.agg #[a0,a1,a2,a3,a4]) w:=by
 obtain⟨k0,k1,k2,k3,k4⟩:=aM h;simp[loadVar,go_sem,k0,k1,k2,k3,k4]
open Go Go.RowKit Go.Maps
theorem E8{O:Nat->Prop}{w:World}{j:J}{cs:List Value}(h:isJ O w j cs):∀u∈cs,u.oneCell'=true:=by
 obtain⟨k,i,t,pk,nk,ck,pl,nl,cl,rfl⟩:=dI h;intro u hu;simp only[List.mem_cons,List.not_mem_nil,or_false]at hu
 rcases hu with rfl| rfl| rfl| rfl| rfl<;>rfl
theorem Be{O:Nat->Prop}{w:World}{p:Option Addr}:∀(l:List J) (n:Nat),isJs O w p n l->∃xs,isRow O w l xs/\xs.length=l.length*5/\(∀u∈xs,u.oneCell'=true)/\∀ad,p=some ad->∀(m:Nat) u,xs[m]?=some u->O ad.block/\w.cell? (ad.add (n*5+m))=some u
 | [],n,_=>⟨[],by unfold isRow;rfl,rfl,(fun u hu=>absurd hu (by simp)),(fun ad _ m u h=>absurd h (by simp))⟩
 | j::r,n,h=>by
  unfold isJs at h;obtain⟨⟨b,o,cs,rfl,hO,hc,hj⟩,hr⟩:=h;obtain⟨xs,h1,h2,h3,h4⟩:=Be r (n+1) hr;have h5:=hj.zm;refine⟨cs++xs, ?_,by rw[List.length_append,h5,h2,List.length_cons];omega,fun u hu=> ?_,fun ad e m u hm=> ?_⟩
  ·unfold isRow;exact⟨cs,xs,rfl,h5,hj,h1⟩
  ·rcases List.mem_append.1 hu with hu| hu
   ·exact E8 hj u hu
   ·exact h3 u hu
  ·cases e
   have vg:∀m,(⟨b,o,none⟩:Addr).add m=⟨b,o+m,none⟩:=fun m=>by unfold Addr.add;split<;>simp_all
   refine⟨hO, ?_⟩
   by_cases bH:m<5
   ·rw[List.getElem?_append_left (by omega)]at hm;have:=hc m u hm;rw[vg]
    rwa [Nat.add_assoc]at this
   ·rw[List.getElem?_append_right (by omega),h5]at hm;have:=(h4 _ rfl (m - 5) u hm).2;rw[vg]at this ⊢;rw[show n*5+m=(n+1)*5+(m - 5) by omega];exact this
theorem yP{O:Nat->Prop}{w:World}{j v:J}{k i vk vi:Int}{t vt:ByteArray}{pk pl vpk vpl:Option Addr}{nk ck nl cl vnk vck vnl vcl:Nat}(key:ByteArray)(hO:∀b,O b->b<w.heap.size)
    (hj:isJ O w j [.int .i64 k,.int .i64 i,.string t,.slice pk nk ck,.slice pl nl cl]) (hv:isJ O w v [.int .i64 vk,.int .i64 vi,.string vt,.slice vpk vnk vck,.slice vpl vnl vcl]) (Kv:pk=none->ck=0) (hlp:pl=none->cl=0) (nz:nk<=100000) (oo:nl<=100000):
    Calls Tryz.prog 44 #[.agg #[.int .i64 k,.int .i64 i,.string t,.slice pk nk ck,.slice pl nl cl],.string key,.agg #[.int .i64 vk,.int .i64 vi,.string vt,.slice vpk vnk vck,.slice vpl vnl vcl]] w fun x w'=>(∃b1 c1 b2 c2,x=.returned (.agg #[.int .i64 5,.int .i64 0,.string ⟨#[]⟩,.slice (some ⟨b1,0,none⟩) (nk+1) c1,.slice (some ⟨b2,0,none⟩) (nl+1) c2])/\isJ (fun b=>O b\/ qx w w' b) w' (.mk 5 0 aN (j.keys++ [key]) (j.list++ [v])) [.int .i64 5,.int .i64 0,.string ⟨#[]⟩,.slice (some ⟨b1,0,none⟩) (nk+1) c1,.slice (some ⟨b2,0,none⟩) (nl+1) c2])/\Below w.heap.size w w':=by
 obtain⟨W0,fw⟩:∃W0,W0=((w.alloc (.cells #[.int .i64 k,.int .i64 i,.string t,.slice pk nk ck,.slice pl nl cl] 25)).alloc (.cells #[.int .i64 vk,.int .i64 vi,.string vt,.slice vpk vnk vck,.slice vpl vnl vcl] 25)).alloc (.cells #[.int .i64 0,.int .i64 0,.string ⟨#[]⟩,.slice none 0 0,.slice none 0 0] 25):=⟨_,rfl⟩;have bX:Below w.heap.size w W0:=by rw[fw];exact(((Below.refl _ _).alloc (Nat.le_refl _) _).alloc (by simp) _).alloc (by simp;omega) _
 have zw:W0.heap[w.heap.size]?=some (.cells #[.int .i64 k,.int .i64 i,.string t,.slice pk nk ck,.slice pl nl cl] 25 (0,0)):=by rw[fw,Below.heap_alloc _ _ _ (by simp;omega)];exact uM _ _
 have Gv:W0.heap[w.heap.size+1]?=some (.cells #[.int .i64 vk,.int .i64 vi,.string vt,.slice vpk vnk vck,.slice vpl vnl vcl] 25 (0,0)):=by rw[fw,Below.heap_alloc _ _ _ (by simp)];exact rh _ _
 have hr:W0.heap[w.heap.size+1+1]?=some (.cells #[.int .i64 0,.int .i64 0,.string ⟨#[]⟩,.slice none 0 0,.slice none 0 0] 25 (0,0)):=by
  have h:=heap_alloc_new ((w.alloc (.cells #[.int .i64 k,.int .i64 i,.string t,.slice pk nk ck,.slice pl nl cl] 25)).alloc (.cells #[.int .i64 vk,.int .i64 vi,.string vt,.slice vpk vnk vck,.slice vpl vnl vcl] 25)) (.cells #[.int .i64 0,.int .i64 0,.string ⟨#[]⟩,.slice none 0 0,.slice none 0 0] 25);rw[fw];simpa using h
 have hs0:w.heap.size+3=W0.heap.size:=by rw[fw];simp
 have NS:=hj.carry (O':=O) (w':=W0) fun b hb=>⟨hb,bX.block b (hO b hb)⟩;have hvB:=hv.carry (O':=O) (w':=W0) fun b hb=>⟨hb,bX.block b (hO b hb)⟩;have iC:=Qg NS;have e4:=iC.2.2.2.1;have e5:=iC.2.2.2.2.1;have qR:=iC.2.2.2.2.2.1;have CX:=iC.2.2.2.2.2.2.1;have l9:=iC.2.2.2.2.2.2.2;clear iC;obtain⟨xs,r1,r2,r3,r4⟩:=Be j.list 0 l9;have HP:Hid (ic W0 (w.heap.size+1+1) key j.keys pk pl nk ck nl cl xs (.int .i64 vk) (.int .i64 vi) (.string vt) (.slice vpk vnk vck) (.slice vpl vnl vcl)):=by
  have hz:∀{l:List ByteArray} {p:Option Addr} {c:Nat},ig O W0 p c l->p=none->l.length=0:=fun{l p c} h hp=>by
   cases l with
   | nil=>rfl
   | cons a r=>obtain⟨ad,e,_⟩:=h.2 0 (by simp);rw[hp]at e;cases e
  refine⟨by omega,e4.symm,by rw[r2,e5],nz,oo,fun hp=>⟨by rw[e4];exact hz qR hp,Kv hp⟩,fun hp=>⟨?_,hlp hp⟩,fun ad e m u hm=> ?_,fun ad e m u hm=> ?_,r3,E8 hv⟩
  ·rw[e5]
   cases hl:j.list with
   | nil=>rfl
   | cons a r=>
    rw[hl]at l9;unfold isJs at l9;obtain⟨⟨b,o,cs,e,_⟩,_⟩:=l9;rw[hp]at e
    cases e
  ·have Gg:m<j.keys.length:=by
     have:=(List.getElem?_eq_some_iff.1 hm).1;simpa using this
   obtain⟨ad',e',rX,hc⟩:=qR.2 m Gg;rw[e]at e'
   cases e'
   rw[List.getElem?_map,List.getElem?_eq_getElem Gg]at hm
   cases hm
   refine⟨by rw[bF];exact Nat.lt_of_lt_of_le (hO _ rX) bX.size, ?_⟩;rw[hc,List.getD_eq_getElem?_getD,List.getElem?_eq_getElem Gg]
   rfl
  ·obtain⟨h1,h2⟩:=r4 ad e m u hm;refine⟨by rw[bF];exact Nat.lt_of_lt_of_le (hO _ h1) bX.size, ?_⟩;rw[Nat.zero_mul,Nat.zero_add]at h2;exact h2
 have hQ:Hid (∀wq,Below (w.heap.size+1+1) W0 wq->wq.cell? ⟨w.heap.size,3,none⟩=some (.slice pk nk ck)/\wq.cell? ⟨w.heap.size,4,none⟩=some (.slice pl nl cl)/\wq.cell? ⟨w.heap.size+1,0,none⟩=some (.int .i64 vk)/\wq.cell? ⟨w.heap.size+1,1,none⟩=some (.int .i64 vi)/\wq.cell? ⟨w.heap.size+1,2,none⟩=some (.string vt)/\wq.cell? ⟨w.heap.size+1,3,none⟩=some (.slice vpk vnk vck)/\wq.cell? ⟨w.heap.size+1,4,none⟩=some (.slice vpl vnl vcl)):=fun wq h=>by
  have h0:=(h.block w.heap.size (by omega)).trans zw;have h1:=(h.block (w.heap.size+1) (by omega)).trans Gv;exact⟨fC h0,bg h0,wY h1,Kc h1,Ke h1,fC h1,bg h1⟩
 have HR:Hid (∀wq,Below W0.heap.size W0 wq->wq.heap[w.heap.size+1+1]?=some (.cells #[.int .i64 0,.int .i64 0,.string ⟨#[]⟩,.slice none 0 0,.slice none 0 0] 25 (0,0))):=fun wq h=>(h.block _ (by omega)).trans hr;have HS:Hid (w.heap.size+3=W0.heap.size):=hs0;have fQ:Hid (Below w.heap.size w W0):=bX;have vW:Hid (isRow O W0 j.list xs):=r1;have HVB:Hid (isJ O W0 v [.int .i64 vk,.int .i64 vi,.string vt,.slice vpk vnk vck,.slice vpl vnl vcl]):=hvB;have HO:Hid (∀b,O b->b<w.heap.size):=hO;have HE:Hid (nk=j.keys.length/\nl=j.list.length):=⟨e4,e5⟩;clear hj hv NS hvB qR CX l9 r1 r2 r3 r4 e4 e5 zw Gv hr Kv hlp hs0 bX hO;go_enter Tryz.func44,Tryz.ntmps44;go_wp2;rw[<-fw];clear fw;have f_:Below W0.heap.size W0 W0.drew:=(Below.refl _ _).drew;refine aF (by kernel_rfl) (fun w'=>Below (w.heap.size+1+1) W0 w') ?_;change wpIn _ _ _ _ _ _ _ _ (World.drew _);refine aa (i:=1) (d:=some 8) rfl ?_;refine az (i:=2) (d:=some 9) rfl (by(intro wq hq;obtain⟨q3,q4,q5,q6,q7,q8,q9⟩:=hQ.out wq hq;go_simp;first| done| with_reducible rfl)) ?_;refine aa (i:=4) (d:=some 11) rfl ?_;refine aa (i:=8) (d:=some 15) rfl ?_;refine az (i:=9) (d:=some 16) rfl (by(intro wq hq;obtain⟨q3,q4,q5,q6,q7,q8,q9⟩:=hQ.out wq hq;go_simp;first| done| with_reducible rfl)) ?_;refine az (i:=11) (d:=some 18) rfl (by(intro wq hq;obtain⟨q3,q4,q5,q6,q7,q8,q9⟩:=hQ.out wq hq;go_simp;first| done| with_reducible rfl)) ?_;refine SS (r:=w.heap.size+1+1) ?_ HP.out _ f_;intro w2 aT x7 BX Ex uh jX zl SH x17 x19 Rn MN o20;unfold bZ;refine aa (i:=14) (d:=some 21) rfl ?_;have iI:=HR.out w2 aT;obtain⟨i0,i1,i2,i3,i4⟩:=aM iI;obtain⟨z0,z1,z2,z3,z4⟩:=fD iI;refine ak (i:=15) (aT.mono HP.out.qC) rfl ?_;intro K hK;go_simp;refine hK _ _ ?_;clear hK K;have h5:=dG iI (.int .i64 5) (.int .i64 0) (.string ⟨#[]⟩) (.slice uh (nk+1) jX) (.slice Rn (nl+1) MN);have dR:av (One (w.heap.size+1+1)) w2 _:=dH w2 (w.heap.size+1+1) (.int .i64 5) (.int .i64 0) (.string ⟨#[]⟩) (.slice uh (nk+1) jX) (.slice Rn (nl+1) MN);obtain⟨WE,AP⟩:∃WE,WE=kK w2 (w.heap.size+1+1) (.int .i64 5) (.int .i64 0) (.string ⟨#[]⟩) (.slice uh (nk+1) jX) (.slice Rn (nl+1) MN):=⟨_,rfl⟩;rw[<-AP]at h5 dR;unfold kK at AP;rw[<-AP];have hS:=HS.out;have hB:=fQ.out.size;have s2:=aT.size;have sE:=dR.size;have lD:Below (w.heap.size+1+1) W0 WE:=(aT.mono HP.out.qC).trans (dR.below (by omega) fun q hq=>by unfold One;omega);refine aD lD (by kernel_rfl) ?_ _;clear i0 i1 i2 i3 i4 z0 z1 z2 z3 z4 AP;go_wp2;refine bodyPost_ret (n_ rfl _ _ _ rfl (Js h5)) rfl ?_;obtain⟨b1,c1',e1⟩:=gv zl;obtain⟨b2,KX,e2⟩:=gv o20
 cases e1
 cases e2
 have g13:=aJ zl b1 rfl;have g20:=aJ o20 b2 rfl;have zet:w2.ownsRow W0.heap.size 9 1 (.slice (some ⟨b1,0,none⟩) (nk+1) jX) (j.keys++ [key]).length ((j.keys++ [key]).map Value.string):=by
  rw[List.length_append,List.map_append,<-HE.out.1];exact zl
 have zeu:w2.ownsRow W0.heap.size 25 5 (.slice (some ⟨b2,0,none⟩) (nl+1) MN) (j.list++ [v]).length (xs++ [.int .i64 vk,.int .i64 vi,.string vt,.slice vpk vnk vck,.slice vpl vnl vcl]):=by
  rw[List.length_append,<-HE.out.2];exact o20
 have zcu:∀q,O q->O q/\w2.heap[q]?=W0.heap[q]?:=fun q hq=>⟨hq,aT.block q (by have:=HO.out q hq;omega)⟩;have jF:isRow O w2 (j.list++ [v]) (xs++ [.int .i64 vk,.int .i64 vi,.string vt,.slice vpk vnk vck,.slice vpl vnl vcl]):=isRow.snoc rfl (HVB.out.carry zcu) _ _ (isRow.carry zcu _ _ vW.out);obtain⟨qk,cqk,ek,hk⟩:=pQ zet;obtain⟨ql,cql,el,Dq,hl⟩:=qQ zeu jF;simp only[Value.slice.injEq]at ek el;obtain⟨rfl,Rh,rfl⟩:=ek;obtain⟨rfl,FY,rfl⟩:=el;have F8:∀q,q<w2.heap.size->q≠w.heap.size+1+1->WE.heap[q]?=w2.heap[q]?:=fun q h1 h2=>dR.block q h1 (by unfold One;omega);have bE:Below w.heap.size w WE:=fQ.out.trans (lD.mono (by omega));refine⟨⟨b1,jX,b2,MN,rfl, ?_⟩,bE⟩;unfold isJ;refine⟨some ⟨b1,0,none⟩,jX,some ⟨b2,0,none⟩,MN, ?_,hk.carry fun q hq=> ?_,Dq,hl.carry fun q hq=> ?_⟩
 ·rw[<-Rh,<-FY]
  rfl
 ·exact⟨.inr ⟨by have:=hq.1;omega,by have:=hq.2;omega⟩,F8 q hq.2 (by have:=hq.1;omega)⟩
 ·rcases hq with hq| hq
  ·have:=HO.out q hq;exact⟨.inl hq,F8 q (by omega) (by omega)⟩
  ·exact⟨.inr ⟨by have:=hq.1;omega,by have:=hq.2;omega⟩,F8 q hq.2 (by have:=hq.1;omega)⟩
open Go.RowKit
theorem p8{most:Nat}{l:List ByteArray}:bu most l=true↔l.length<=most/\l.Pairwise (· ≠ ·)/\∀x∈l,Id.pK x=true:=by
 unfold bu;rw[Bool.and_eq_true,Bool.and_eq_true,decide_eq_true_eq,List.all_eq_true];exact⟨fun h=>⟨h.1.1,fV h.1.2,h.2⟩,fun h=>⟨⟨h.1,eY h.2.1⟩,h.2.2⟩⟩
theorem Bf{α:Type}(l:List α)(k:Nat)(d:α)(hk:k<l.length):l.take (k+1)=l.take k++ [l.getD k d]:=by
 rw[List.take_succ_eq_append_getElem hk,List.getD_eq_getElem?_getD,List.getElem?_eq_getElem hk];rfl
theorem E9{α:Type}{l:List α}{k:Nat}{d:α}(h:k<l.length):l.getD k d∈l:=by
 rw[List.getD_eq_getElem?_getD,List.getElem?_eq_getElem h];exact List.getElem_mem _
theorem zcv(s t:ByteArray):(s.toList==t.toList)=decide (s=t):=by
 rw[Bool.eq_iff_iff,beq_iff_eq,decide_eq_true_eq]
 constructor
 ·intro h;rw[ByteArray.toList_eq,ByteArray.toList_eq]at h;exact ByteArray.ext (Array.toList_inj.1 h)
 ·rintro rfl;rfl
theorem wC{O:Nat->Prop}{l:List ByteArray}{p:Option Addr}{c:Nat}{w:World}(most:Nat)(gW:ig O w p c l)(hO:∀k,O k->k<w.heap.size)(_hl:l.length<=100000)(hm:most<=1000):
    Calls Tryz.prog 39 #[.slice p l.length c,.int .i64 most] w fun x w'=>x=.returned (.bool (bu most l))/\Below w.heap.size w w':=by
 by_cases hlm:l.length<=most
 ·have HLM:Hid (l.length<=most):=hlm;have hdm:decide (most<l.length)=false:=by simp;omega
  go_enter Tryz.func39,Tryz.ntmps39;go_wp2
  go_loopw [5] (fun i wr=>∃k:Nat,k<=l.length/\i=.int .i64 k/\(∀x∈l.take k,Id.pK x=true)/\(l.take k).Pairwise (· ≠ ·)/\Below w.heap.size w wr) (fun i _=>l.length - (intOf i).toNat)
  case atStart=>exact⟨0,Nat.zero_le _,rfl,by simp,by simp,Below.refl _ _⟩
  case round=>
   obtain⟨k,hk,rfl,eF,hpw,hb⟩:=hrel;have HA:Hid (∀x∈l.take k,Id.pK x=true):=eF;have HP:Hid ((l.take k).Pairwise (· ≠ ·)):=hpw;clear eF hpw
   by_cases bH:k<l.length
   ·obtain⟨a,rfl,rX,rW⟩:=gW.2 k bH;have HC:Hid (∀j,j<l.length->∀wx,Below w.heap.size w wx->wx.cell? (a.add j)=some (.string (l.getD j aN))):=fun j hj wx hx=>by
     obtain⟨a',e,hO',hc'⟩:=gW.2 j hj
     cases e
     exact(World.cell?_of_block (by rw[bF];exact hx.block _ (hO _ hO'))).trans hc'
    have fF:=HC.out k bH wr hb;have HT:Hid (l.take (k+1)=l.take k++ [l.getD k aN]):=Bf l k _ bH;have HM:Hid (l.getD k aN∈l):=E9 bH;have HX2:Hid (∀wx,Below w.heap.size w wx->wx.cell? (a.add k)=some (.string (l.getD k aN))):=HC.out k bH;have HTW:Hid (∀m,m<k->l.getD m aN=l.getD k aN->bu most l=false):=by
     intro m NN e
     cases hn:bu most l with
     | false=>rfl
     | true=>
      have hp:=(p8.1 hn).2.1;have:=List.pairwise_iff_getElem.1 hp m k (by omega) bH NN;rw[List.getD_eq_getElem?_getD,List.getD_eq_getElem?_getD,List.getElem?_eq_getElem bH,List.getElem?_eq_getElem (show m<l.length by omega)]at e;exact absurd e this
    clear rW;generalize l.getD k aN=x at*;have hev:=Id.nJ x wr
    cases hx:Id.pK x with
    | false=>
     rw[hx]at hev;have HE:Hid (bu most l=false):=by
      show _=_
      cases hn:bu most l with
      | false=>rfl
      | true=>have:=(p8.1 hn).2.2 x HM.out;rw[hx]at this;cases this
     clear hx;go_wp2_with(first
      | (go_at_call 41;refine hev.mono ?_;rintro e w1 ⟨rfl,aP⟩))
     go_ret;exact⟨ai HE.out.symm,hb.trans (aP.mono hb.size)⟩
    | true=>
     rw[hx]at hev;have HX:Hid (Id.pK x=true):=hx;clear hx;go_wp2_with(first
      | (go_at_call 41;refine hev.mono ?_;rintro e w1 ⟨rfl,aP⟩
         have bX:=hb.trans (aP.mono hb.size)))
     clear hev fF aP
     go_loopw [6] (fun i wx=>∃m:Nat,m<=k/\i=.int .i64 m/\x∉l.take m/\Below w.heap.size w wx) (fun i _=>k - (intOf i).toNat)
     case atStart=>exact⟨0,Nat.zero_le _,rfl,by simp,bX⟩
     case round=>
      clear bX;obtain⟨m,hm',rfl,CW,CR⟩:=hrel;have Tf:Hid (x∉l.take m):=CW;clear CW
      by_cases PS:m<k
      ·have zu:m<l.length:=by omega
       have c1:=HC.out m zu wr CR;have c2:=HX2.out wr CR;have tO:Hid (l.take (m+1)=l.take m++ [l.getD m aN]):=Bf l m _ zu;have HTM:=HTW.out m PS;have zev:Hid (l.getD m aN=x->bu most l=false):=HTM;clear HTM;generalize l.getD m aN=y at*
       by_cases NK:y=x
       ·have vK:(x.toList==y.toList)=true:=by rw[zcv];simpa using NK.symm
        have HE:Hid (bu most l=false):=zev.out NK;go_wp2;go_quiet (fail);go_wp2;go_ret;exact⟨ai HE.out.symm,below_drewN CR _⟩
       ·have vK:(x.toList==y.toList)=false:=by rw[zcv];simpa using fun e=>NK e.symm
        have HN2:Hid (x∉l.take (m+1)):=by
         show x∉l.take (m+1)
         rw[tO.out,List.mem_append,List.mem_singleton];rintro(h| h)
         ·exact Tf.out h
         ·exact NK h.symm
        go_wp2;go_quiet (fail);go_wp2;go_roundw
        case rel=>exact⟨m+1,by omega,by go_num,HN2.out,below_drewN CR _⟩
        case measure=>simp[intOf];omega
      ·obtain rfl:k=m:=by omega
       go_wp2;go_roundw
       case rel=>
        refine⟨k+1,by omega,by go_num,fun y hy=> ?_, ?_,CR⟩
        ·rw[HT.out,List.mem_append,List.mem_singleton]at hy
         rcases hy with hy| rfl
         ·exact HA.out y hy
         ·exact HX.out
        ·rw[HT.out,List.pairwise_append];refine⟨HP.out,by simp,fun y hy z hz e=> ?_⟩;rw[List.mem_singleton.1 hz]at e;exact Tf.out (e ▸ hy)
       case measure=>simp[intOf];omega
   ·obtain rfl:k=l.length:=by omega
    have HE:Hid (bu most l=true):=by
     have h1:=HA.out;have h2:=HP.out;rw[List.take_length]at h1 h2;exact p8.2 ⟨HLM.out,h2,h1⟩
    go_wp2;go_ret;exact⟨ai HE.out.symm,hb⟩
 ·have HE:Hid (bu most l=false):=by
    show _=_
    cases hn:bu most l with
    | false=>rfl
    | true=>exact absurd (p8.1 hn).1 hlm
  go_enter Tryz.func39,Tryz.ntmps39;go_wp2;go_ret;exact⟨ai HE.out.symm,Below.refl _ _⟩
theorem Tg{n:Int}(h0:0<=n)(h1:n<9223372036854775808):IntKind.i64.wrap n=n:=by
 first| (rw[IntKind.wrap_i64];omega)| (unfold IntKind.wrap;simp;omega)
theorem Cq{O:Nat->Prop}{l:List (ByteArray×ByteArray)}{p:Option Addr}{c:Nat}{w:World}(gW:Dv O w p c l)(hO:∀k,O k->k<w.heap.size)(hl:l.length<=100000)(hz:∀x∈l,x.1.size<=1000000000/\x.2.size<=1000000000):
    Calls Tryz.prog 40 #[.slice p l.length c] w fun x w'=>x=.returned (.bool (bJ l))/\Below w.heap.size w w':=by
 have Mt:=gW.1
 by_cases h4:l.length<=4
 ·have HL4:Hid (l.length<=4):=h4;have hd4:decide (4<(l.length:Int))=false:=by simp;omega
  go_enter Tryz.func40,Tryz.ntmps40;go_wp2
  go_loopw [3] (fun i wr=>∃k:Nat,k<=l.length/\i=.int .i64 k/\(∀j,j<k->qD (l.getD j (aN,aN))=true/\(0<j->iN (l.getD (j - 1) (aN,aN)).1 (l.getD j (aN,aN)).1=true))/\Below w.heap.size w wr) (fun i _=>l.length - (intOf i).toNat)
  case atStart=>exact⟨0,Nat.zero_le _,rfl,fun j hj=>absurd hj (by omega),Below.refl _ _⟩
  case round=>
   obtain⟨k,hk,rfl,hg,hb⟩:=hrel;have HG:Hid (∀j,j<k->qD (l.getD j (aN,aN))=true/\(0<j->iN (l.getD (j - 1) (aN,aN)).1 (l.getD j (aN,aN)).1=true)):=hg;clear hg
   by_cases bH:k<l.length
   ·obtain⟨b,o,rfl,mG,wL,mE⟩:=gW.2 k bH;have HCP:Hid (∀j,j<l.length->∀W:World,Below w.heap.size w W->W.cell? ⟨b,o+j*2,none⟩=some (.string (l.getD j (aN,aN)).1)):=by
     intro j hj W hW;obtain⟨b',o',hp',hO',J5,Om⟩:=gW.2 j hj
     cases hp'
     exact(World.cell?_of_block (a:=⟨b,o+j*2,none⟩) (hW.block _ (hO _ hO'))).trans J5
    have hx:=hz (l.getD k (aN,aN)) (E9 bH);have oV:Hid (∀W:World,Below w.heap.size w W->W.cell? ⟨b,o+k*2,none⟩=some (.string (l.getD k (aN,aN)).1)):=HCP.out k bH;have xX:Hid (∀W:World,Below w.heap.size w W->W.cell? ⟨b,o+k*2+1,none⟩=some (.string (l.getD k (aN,aN)).2)):=fun W hW=>(World.cell?_of_block (a:=⟨b,o+k*2+1,none⟩) (hW.block _ (hO _ mG))).trans mE;have uI:Hid (qD (l.getD k (aN,aN))=(Id.Bp (l.getD k (aN,aN)).1&&Id.pK (Lu (l.getD k (aN,aN)).2))):=rfl;obtain⟨x1,Gv⟩:∃x,(l.getD k (aN,aN)).1=x:=⟨_,rfl⟩;obtain⟨x2,NM⟩:∃x,(l.getD k (aN,aN)).2=x:=⟨_,rfl⟩;have KC:Hid ((l.getD k (aN,aN)).1=x1):=Gv;rw[Gv]at hx uI oV;rw[NM]at hx uI xX;clear wL mE Gv NM;have oK:Below w.heap.size w wr.drew:=hb.drew;have hS:=Id.lN x1 wr.drew (by omega);have hD:=fun W=>Id.nJ (Lu x2) W;unfold Lu at hD;have Mq:Hid (k<l.length):=bH
    cases hs:Id.Bp x1 with
    | false=>
     have HF:Hid (bJ l=false):=nY bH (by rw[uI.out,hs];rfl);rw[hs]at hS;clear hs;go_wp2;refine aF (by kernel_rfl) (fun w'=>Below w.heap.size w w') ?_;change wpIn _ _ _ _ _ _ _ _ (World.drew _);refine aa (i:=0) (d:=some 13) rfl ?_;refine aa (i:=1) (d:=some 14) rfl ?_;refine aa (i:=2) (d:=some 15) rfl ?_;refine aa (i:=3) (d:=some 16) rfl ?_;refine az (i:=4) (d:=some 17) rfl (by(intro wq hq;have z1:=oV.out wq hq;have z2:=xX.out wq hq;go_simp;first| done| with_reducible rfl)) ?_;refine ak (i:=5) oK rfl ?_;intro K hK;go_simp;go_wp2_with(go_at_call 72;refine hS.mono ?_;rintro e w1 ⟨rfl,rfl⟩);refine aa (i:=6) (d:=some 19) rfl ?_;refine aa (i:=7) (d:=some 20) rfl ?_;refine ae (i:=8) (d:=(some 21)) (v:=undef) (a':= ?aqaq8) rfl rfl (by kernel_rfl) (by kernel_rfl) (by kernel_rfl) (fun _ _ _ h=>h) (Or.inr ⟨by rfl,rfl⟩) ?fqaq8 ?_
     case fqaq8=>(go_frame;rfl)
     refine ae (i:=9) (d:=(some 22)) (v:=undef) (a':= ?aqaq9) rfl rfl (by kernel_rfl) (by kernel_rfl) (by kernel_rfl) (fun _ _ _ h=>h) (Or.inr ⟨by rfl,rfl⟩) ?fqaq9 ?_
     case fqaq9=>(go_frame;rfl)
     refine ae (i:=10) (d:=(some 23)) (v:=undef) (a':= ?aqaq10) rfl rfl (by kernel_rfl) (by kernel_rfl) (by kernel_rfl) (fun _ _ _ h=>h) (Or.inr ⟨by rfl,rfl⟩) ?fqaq10 ?_
     case fqaq10=>(go_frame;rfl)
     refine ae (i:=11) (d:=(some 24)) (v:=undef) (a':= ?aqaq11) rfl rfl (by kernel_rfl) (by kernel_rfl) (by kernel_rfl) (fun _ _ _ h=>h) (Or.inr ⟨by rfl,rfl⟩) ?fqaq11 ?_
     case fqaq11=>(go_frame;rfl)
     refine ae (i:=12) (d:=(some 25)) (v:=undef) (a':= ?aqaq12) rfl rfl (by kernel_rfl) (by kernel_rfl) (by kernel_rfl) (fun _ _ _ h=>h) (Or.inr ⟨by rfl,rfl⟩) ?fqaq12 ?_
     case fqaq12=>(go_frame;rfl)
     refine ae (i:=13) (d:=(some 26)) (v:=undef) (a':= ?aqaq13) rfl rfl (by kernel_rfl) (by kernel_rfl) (by kernel_rfl) (fun _ _ _ h=>h) (Or.inr ⟨by rfl,rfl⟩) ?fqaq13 ?_
     case fqaq13=>(go_frame;rfl)
     refine ae (i:=14) (d:=(some 27)) (v:=undef) (a':= ?aqaq14) rfl rfl (by kernel_rfl) (by kernel_rfl) (by kernel_rfl) (fun _ _ _ h=>h) (Or.inr ⟨by rfl,rfl⟩) ?fqaq14 ?_
     case fqaq14=>(go_frame;rfl)
     refine ae (i:=15) (d:=(some 28)) (v:=undef) (a':= ?aqaq15) rfl rfl (by kernel_rfl) (by kernel_rfl) (by kernel_rfl) (fun _ _ _ h=>h) (Or.inr ⟨by rfl,rfl⟩) ?fqaq15 ?_
     case fqaq15=>(go_frame;rfl)
     refine aa (i:=16) (d:=some 29) rfl ?_;refine aa (i:=17) (d:=some 30) rfl ?_;refine ae (i:=18) (d:=(some 31)) (v:=undef) (a':= ?aqaq18) rfl rfl (by kernel_rfl) (by kernel_rfl) (by kernel_rfl) (fun _ _ _ h=>h) (Or.inr ⟨by rfl,rfl⟩) ?fqaq18 ?_
     case fqaq18=>(go_frame;rfl)
     refine ae (i:=19) (d:=(some 32)) (v:=undef) (a':= ?aqaq19) rfl rfl (by kernel_rfl) (by kernel_rfl) (by kernel_rfl) (fun _ _ _ h=>h) (Or.inr ⟨by rfl,rfl⟩) ?fqaq19 ?_
     case fqaq19=>(go_frame;rfl)
     refine ae (i:=20) (d:=(some 33)) (v:=undef) (a':= ?aqaq20) rfl rfl (by kernel_rfl) (by kernel_rfl) (by kernel_rfl) (fun _ _ _ h=>h) (Or.inr ⟨by rfl,rfl⟩) ?fqaq20 ?_
     case fqaq20=>(go_frame;rfl)
     refine ae (i:=21) (d:=(some 34)) (v:=undef) (a':= ?aqaq21) rfl rfl (by kernel_rfl) (by kernel_rfl) (by kernel_rfl) (fun _ _ _ h=>h) (Or.inr ⟨by rfl,rfl⟩) ?fqaq21 ?_
     case fqaq21=>(go_frame;rfl)
     refine ae (i:=22) (d:=(some 35)) (v:=undef) (a':= ?aqaq22) rfl rfl (by kernel_rfl) (by kernel_rfl) (by kernel_rfl) (fun _ _ _ h=>h) (Or.inr ⟨by rfl,rfl⟩) ?fqaq22 ?_
     case fqaq22=>(go_frame;rfl)
     refine ae (i:=23) (d:=(some 36)) (v:=undef) (a':= ?aqaq23) rfl rfl (by kernel_rfl) (by kernel_rfl) (by kernel_rfl) (fun _ _ _ h=>h) (Or.inr ⟨by rfl,rfl⟩) ?fqaq23 ?_
     case fqaq23=>(go_frame;rfl)
     refine ae (i:=24) (d:=(some 37)) (v:=undef) (a':= ?aqaq24) rfl rfl (by kernel_rfl) (by kernel_rfl) (by kernel_rfl) (fun _ _ _ h=>h) (Or.inr ⟨by rfl,rfl⟩) ?fqaq24 ?_
     case fqaq24=>(go_frame;rfl)
     refine ae (i:=25) (d:=(some 38)) (v:=undef) (a':= ?aqaq25) rfl rfl (by kernel_rfl) (by kernel_rfl) (by kernel_rfl) (fun _ _ _ h=>h) (Or.inr ⟨by rfl,rfl⟩) ?fqaq25 ?_
     case fqaq25=>(go_frame;rfl)
     refine ae (i:=26) (d:=(some 39)) (v:=undef) (a':= ?aqaq26) rfl rfl (by kernel_rfl) (by kernel_rfl) (by kernel_rfl) (fun _ _ _ h=>h) (Or.inr ⟨by rfl,rfl⟩) ?fqaq26 ?_
     case fqaq26=>(go_frame;rfl)
     refine ae (i:=27) (d:=(some 40)) (v:=undef) (a':= ?aqaq27) rfl rfl (by kernel_rfl) (by kernel_rfl) (by kernel_rfl) (fun _ _ _ h=>h) (Or.inr ⟨by rfl,rfl⟩) ?fqaq27 ?_
     case fqaq27=>(go_frame;rfl)
     refine ae (i:=28) (d:=(some 41)) (v:=undef) (a':= ?aqaq28) rfl rfl (by kernel_rfl) (by kernel_rfl) (by kernel_rfl) (fun _ _ _ h=>h) (Or.inr ⟨by rfl,rfl⟩) ?fqaq28 ?_
     case fqaq28=>(go_frame;rfl)
     refine ae (i:=29) (d:=(some 42)) (v:=undef) (a':= ?aqaq29) rfl rfl (by kernel_rfl) (by kernel_rfl) (by kernel_rfl) (fun _ _ _ h=>h) (Or.inr ⟨by rfl,rfl⟩) ?fqaq29 ?_
     case fqaq29=>(go_frame;rfl)
     refine ae (i:=30) (d:=(some 43)) (v:=undef) (a':= ?aqaq30) rfl rfl (by kernel_rfl) (by kernel_rfl) (by kernel_rfl) (fun _ _ _ h=>h) (Or.inr ⟨by rfl,rfl⟩) ?fqaq30 ?_
     case fqaq30=>(go_frame;rfl)
     refine ae (i:=31) (d:=(some 44)) (v:=undef) (a':= ?aqaq31) rfl rfl (by kernel_rfl) (by kernel_rfl) (by kernel_rfl) (fun _ _ _ h=>h) (Or.inr ⟨by rfl,rfl⟩) ?fqaq31 ?_
     case fqaq31=>(go_frame;rfl)
     refine ae (i:=32) (d:=(some 45)) (v:=undef) (a':= ?aqaq32) rfl rfl (by kernel_rfl) (by kernel_rfl) (by kernel_rfl) (fun _ _ _ h=>h) (Or.inr ⟨by rfl,rfl⟩) ?fqaq32 ?_
     case fqaq32=>(go_frame;rfl)
     refine ae (i:=33) (d:=(some 46)) (v:=undef) (a':= ?aqaq33) rfl rfl (by kernel_rfl) (by kernel_rfl) (by kernel_rfl) (fun _ _ _ h=>h) (Or.inr ⟨by rfl,rfl⟩) ?fqaq33 ?_
     case fqaq33=>(go_frame;rfl)
     refine aa (i:=34) (d:=some 47) rfl ?_;refine aD oK (by kernel_rfl) ?_ _;go_wp2;go_ret;exact⟨ai HF.out.symm,oK⟩
    | true=>
     rw[hs]at hS
     cases hd:Id.pK (Lu x2)with
     | false=>
      have HF:Hid (bJ l=false):=nY bH (by rw[uI.out,hs,hd];rfl);unfold Lu at hd;rw[hd]at hD;clear hs hd;go_wp2;refine aF (by kernel_rfl) (fun w'=>Below w.heap.size w w') ?_;change wpIn _ _ _ _ _ _ _ _ (World.drew _);refine aa (i:=0) (d:=some 13) rfl ?_;refine aa (i:=1) (d:=some 14) rfl ?_;refine aa (i:=2) (d:=some 15) rfl ?_;refine aa (i:=3) (d:=some 16) rfl ?_;refine az (i:=4) (d:=some 17) rfl (by(intro wq hq;have z1:=oV.out wq hq;have z2:=xX.out wq hq;go_simp;first| done| with_reducible rfl)) ?_;refine ak (i:=5) oK rfl ?_;intro K hK;go_simp;go_wp2_with(go_at_call 72;refine hS.mono ?_;rintro e w1 ⟨rfl,rfl⟩);refine aa (i:=6) (d:=some 19) rfl ?_;refine aa (i:=7) (d:=some 20) rfl ?_;refine aa (i:=8) (d:=some 21) rfl ?_;refine aa (i:=9) (d:=some 22) rfl ?_;refine aa (i:=10) (d:=some 23) rfl ?_;refine aa (i:=11) (d:=some 24) rfl ?_;refine az (i:=12) (d:=some 25) rfl (by(intro wq hq;have z1:=oV.out wq hq;have z2:=xX.out wq hq;go_simp;first| done| with_reducible rfl)) ?_;refine az (i:=13) (d:=some 26) rfl (by(intro wq hq;have XA:¬9223372036854775807<1+x2.size:=(by omega);go_simp;first| done| with_reducible rfl)) ?_;refine ak (i:=14) oK rfl ?_;intro K hK;go_simp;go_wp2_with(go_at_call 41;refine(hD _).mono ?_;rintro e w2 ⟨rfl,aT⟩;have yQ:=oK.trans (aT.mono oK.size));refine aa (i:=15) (d:=some 28) rfl ?_;refine aa (i:=16) (d:=some 29) rfl ?_;refine aa (i:=17) (d:=some 30) rfl ?_;refine ae (i:=18) (d:=(some 31)) (v:=undef) (a':= ?aqbq18) rfl rfl (by kernel_rfl) (by kernel_rfl) (by kernel_rfl) (fun _ _ _ h=>h) (Or.inr ⟨by rfl,rfl⟩) ?fqbq18 ?_
      case fqbq18=>(go_frame;rfl)
      refine ae (i:=19) (d:=(some 32)) (v:=undef) (a':= ?aqbq19) rfl rfl (by kernel_rfl) (by kernel_rfl) (by kernel_rfl) (fun _ _ _ h=>h) (Or.inr ⟨by rfl,rfl⟩) ?fqbq19 ?_
      case fqbq19=>(go_frame;rfl)
      refine ae (i:=20) (d:=(some 33)) (v:=undef) (a':= ?aqbq20) rfl rfl (by kernel_rfl) (by kernel_rfl) (by kernel_rfl) (fun _ _ _ h=>h) (Or.inr ⟨by rfl,rfl⟩) ?fqbq20 ?_
      case fqbq20=>(go_frame;rfl)
      refine ae (i:=21) (d:=(some 34)) (v:=undef) (a':= ?aqbq21) rfl rfl (by kernel_rfl) (by kernel_rfl) (by kernel_rfl) (fun _ _ _ h=>h) (Or.inr ⟨by rfl,rfl⟩) ?fqbq21 ?_
      case fqbq21=>(go_frame;rfl)
      refine ae (i:=22) (d:=(some 35)) (v:=undef) (a':= ?aqbq22) rfl rfl (by kernel_rfl) (by kernel_rfl) (by kernel_rfl) (fun _ _ _ h=>h) (Or.inr ⟨by rfl,rfl⟩) ?fqbq22 ?_
      case fqbq22=>(go_frame;rfl)
      refine ae (i:=23) (d:=(some 36)) (v:=undef) (a':= ?aqbq23) rfl rfl (by kernel_rfl) (by kernel_rfl) (by kernel_rfl) (fun _ _ _ h=>h) (Or.inr ⟨by rfl,rfl⟩) ?fqbq23 ?_
      case fqbq23=>(go_frame;rfl)
      refine ae (i:=24) (d:=(some 37)) (v:=undef) (a':= ?aqbq24) rfl rfl (by kernel_rfl) (by kernel_rfl) (by kernel_rfl) (fun _ _ _ h=>h) (Or.inr ⟨by rfl,rfl⟩) ?fqbq24 ?_
      case fqbq24=>(go_frame;rfl)
      refine ae (i:=25) (d:=(some 38)) (v:=undef) (a':= ?aqbq25) rfl rfl (by kernel_rfl) (by kernel_rfl) (by kernel_rfl) (fun _ _ _ h=>h) (Or.inr ⟨by rfl,rfl⟩) ?fqbq25 ?_
      case fqbq25=>(go_frame;rfl)
      refine ae (i:=26) (d:=(some 39)) (v:=undef) (a':= ?aqbq26) rfl rfl (by kernel_rfl) (by kernel_rfl) (by kernel_rfl) (fun _ _ _ h=>h) (Or.inr ⟨by rfl,rfl⟩) ?fqbq26 ?_
      case fqbq26=>(go_frame;rfl)
      refine ae (i:=27) (d:=(some 40)) (v:=undef) (a':= ?aqbq27) rfl rfl (by kernel_rfl) (by kernel_rfl) (by kernel_rfl) (fun _ _ _ h=>h) (Or.inr ⟨by rfl,rfl⟩) ?fqbq27 ?_
      case fqbq27=>(go_frame;rfl)
      refine ae (i:=28) (d:=(some 41)) (v:=undef) (a':= ?aqbq28) rfl rfl (by kernel_rfl) (by kernel_rfl) (by kernel_rfl) (fun _ _ _ h=>h) (Or.inr ⟨by rfl,rfl⟩) ?fqbq28 ?_
      case fqbq28=>(go_frame;rfl)
      refine ae (i:=29) (d:=(some 42)) (v:=undef) (a':= ?aqbq29) rfl rfl (by kernel_rfl) (by kernel_rfl) (by kernel_rfl) (fun _ _ _ h=>h) (Or.inr ⟨by rfl,rfl⟩) ?fqbq29 ?_
      case fqbq29=>(go_frame;rfl)
      refine ae (i:=30) (d:=(some 43)) (v:=undef) (a':= ?aqbq30) rfl rfl (by kernel_rfl) (by kernel_rfl) (by kernel_rfl) (fun _ _ _ h=>h) (Or.inr ⟨by rfl,rfl⟩) ?fqbq30 ?_
      case fqbq30=>(go_frame;rfl)
      refine ae (i:=31) (d:=(some 44)) (v:=undef) (a':= ?aqbq31) rfl rfl (by kernel_rfl) (by kernel_rfl) (by kernel_rfl) (fun _ _ _ h=>h) (Or.inr ⟨by rfl,rfl⟩) ?fqbq31 ?_
      case fqbq31=>(go_frame;rfl)
      refine ae (i:=32) (d:=(some 45)) (v:=undef) (a':= ?aqbq32) rfl rfl (by kernel_rfl) (by kernel_rfl) (by kernel_rfl) (fun _ _ _ h=>h) (Or.inr ⟨by rfl,rfl⟩) ?fqbq32 ?_
      case fqbq32=>(go_frame;rfl)
      refine ae (i:=33) (d:=(some 46)) (v:=undef) (a':= ?aqbq33) rfl rfl (by kernel_rfl) (by kernel_rfl) (by kernel_rfl) (fun _ _ _ h=>h) (Or.inr ⟨by rfl,rfl⟩) ?fqbq33 ?_
      case fqbq33=>(go_frame;rfl)
      refine aa (i:=34) (d:=some 47) rfl ?_;refine aD yQ (by kernel_rfl) ?_ _;go_wp2;go_ret;exact⟨ai HF.out.symm,yQ⟩
     | true=>
      have P8:Hid (qD (l.getD k (aN,aN))=true):=by show _=_;rw[uI.out,hs,hd];rfl
      unfold Lu at hd;rw[hd]at hD;clear hs hd uI
      by_cases U2:k=0
      ·subst U2;simp only[Nat.zero_mul,Nat.add_zero]at oV xX;go_wp2;refine aF (by kernel_rfl) (fun w'=>Below w.heap.size w w') ?_;change wpIn _ _ _ _ _ _ _ _ (World.drew _);refine aa (i:=0) (d:=some 13) rfl ?_;refine aa (i:=1) (d:=some 14) rfl ?_;refine aa (i:=2) (d:=some 15) rfl ?_;refine aa (i:=3) (d:=some 16) rfl ?_;refine az (i:=4) (d:=some 17) rfl (by(intro wq hq;have z1:=oV.out wq hq;have z2:=xX.out wq hq;go_simp;first| done| with_reducible rfl)) ?_;refine ak (i:=5) oK rfl ?_;intro K hK;go_simp;go_wp2_with(go_at_call 72;refine hS.mono ?_;rintro e w1 ⟨rfl,rfl⟩);refine aa (i:=6) (d:=some 19) rfl ?_;refine aa (i:=7) (d:=some 20) rfl ?_;refine aa (i:=8) (d:=some 21) rfl ?_;refine aa (i:=9) (d:=some 22) rfl ?_;refine aa (i:=10) (d:=some 23) rfl ?_;refine aa (i:=11) (d:=some 24) rfl ?_;refine az (i:=12) (d:=some 25) rfl (by(intro wq hq;have z1:=oV.out wq hq;have z2:=xX.out wq hq;go_simp;first| done| with_reducible rfl)) ?_;refine az (i:=13) (d:=some 26) rfl (by(intro wq hq;have XA:¬9223372036854775807<1+x2.size:=(by omega);go_simp;first| done| with_reducible rfl)) ?_;refine ak (i:=14) oK rfl ?_;intro K hK;go_simp;go_wp2_with(go_at_call 41;refine(hD _).mono ?_;rintro e w2 ⟨rfl,aT⟩;have yQ:=oK.trans (aT.mono oK.size));refine aa (i:=15) (d:=some 28) rfl ?_;refine aa (i:=16) (d:=some 29) rfl ?_;refine aa (i:=17) (d:=some 30) rfl ?_;refine aa (i:=18) (d:=some 31) rfl ?_;refine aa (i:=19) (d:=some 32) rfl ?_;refine aa (i:=20) (d:=some 33) rfl ?_;refine ae (i:=21) (d:=(some 34)) (v:=undef) (a':= ?aqcq21) rfl rfl (by kernel_rfl) (by kernel_rfl) (by kernel_rfl) (fun _ _ _ h=>h) (Or.inr ⟨by rfl,rfl⟩) ?fqcq21 ?_
       case fqcq21=>(go_frame;rfl)
       refine ae (i:=22) (d:=(some 35)) (v:=undef) (a':= ?aqcq22) rfl rfl (by kernel_rfl) (by kernel_rfl) (by kernel_rfl) (fun _ _ _ h=>h) (Or.inr ⟨by rfl,rfl⟩) ?fqcq22 ?_
       case fqcq22=>(go_frame;rfl)
       refine ae (i:=23) (d:=(some 36)) (v:=undef) (a':= ?aqcq23) rfl rfl (by kernel_rfl) (by kernel_rfl) (by kernel_rfl) (fun _ _ _ h=>h) (Or.inr ⟨by rfl,rfl⟩) ?fqcq23 ?_
       case fqcq23=>(go_frame;rfl)
       refine ae (i:=24) (d:=(some 37)) (v:=undef) (a':= ?aqcq24) rfl rfl (by kernel_rfl) (by kernel_rfl) (by kernel_rfl) (fun _ _ _ h=>h) (Or.inr ⟨by rfl,rfl⟩) ?fqcq24 ?_
       case fqcq24=>(go_frame;rfl)
       refine ae (i:=25) (d:=(some 38)) (v:=undef) (a':= ?aqcq25) rfl rfl (by kernel_rfl) (by kernel_rfl) (by kernel_rfl) (fun _ _ _ h=>h) (Or.inr ⟨by rfl,rfl⟩) ?fqcq25 ?_
       case fqcq25=>(go_frame;rfl)
       refine ae (i:=26) (d:=(some 39)) (v:=undef) (a':= ?aqcq26) rfl rfl (by kernel_rfl) (by kernel_rfl) (by kernel_rfl) (fun _ _ _ h=>h) (Or.inr ⟨by rfl,rfl⟩) ?fqcq26 ?_
       case fqcq26=>(go_frame;rfl)
       refine ae (i:=27) (d:=(some 40)) (v:=undef) (a':= ?aqcq27) rfl rfl (by kernel_rfl) (by kernel_rfl) (by kernel_rfl) (fun _ _ _ h=>h) (Or.inr ⟨by rfl,rfl⟩) ?fqcq27 ?_
       case fqcq27=>(go_frame;rfl)
       refine ae (i:=28) (d:=(some 41)) (v:=undef) (a':= ?aqcq28) rfl rfl (by kernel_rfl) (by kernel_rfl) (by kernel_rfl) (fun _ _ _ h=>h) (Or.inr ⟨by rfl,rfl⟩) ?fqcq28 ?_
       case fqcq28=>(go_frame;rfl)
       refine ae (i:=29) (d:=(some 42)) (v:=undef) (a':= ?aqcq29) rfl rfl (by kernel_rfl) (by kernel_rfl) (by kernel_rfl) (fun _ _ _ h=>h) (Or.inr ⟨by rfl,rfl⟩) ?fqcq29 ?_
       case fqcq29=>(go_frame;rfl)
       refine ae (i:=30) (d:=(some 43)) (v:=undef) (a':= ?aqcq30) rfl rfl (by kernel_rfl) (by kernel_rfl) (by kernel_rfl) (fun _ _ _ h=>h) (Or.inr ⟨by rfl,rfl⟩) ?fqcq30 ?_
       case fqcq30=>(go_frame;rfl)
       refine ae (i:=31) (d:=(some 44)) (v:=undef) (a':= ?aqcq31) rfl rfl (by kernel_rfl) (by kernel_rfl) (by kernel_rfl) (fun _ _ _ h=>h) (Or.inr ⟨by rfl,rfl⟩) ?fqcq31 ?_
       case fqcq31=>(go_frame;rfl)
       refine ae (i:=32) (d:=(some 45)) (v:=undef) (a':= ?aqcq32) rfl rfl (by kernel_rfl) (by kernel_rfl) (by kernel_rfl) (fun _ _ _ h=>h) (Or.inr ⟨by rfl,rfl⟩) ?fqcq32 ?_
       case fqcq32=>(go_frame;rfl)
       refine aa (i:=33) (d:=some 46) rfl ?_;refine aa (i:=34) (d:=some 47) rfl ?_;refine aD yQ (by kernel_rfl) ?_ _;go_wp2;go_roundw
       case rel=>exact⟨1,by omega,by go_num,fun j hj=>(by
           obtain rfl:j=0:=(by omega);exact⟨P8.out,fun h=>absurd h (by omega)⟩),yQ⟩
       case measure=>simp[intOf];omega
      ·obtain⟨m,hm⟩:∃m,m=k - 1:=⟨_,rfl⟩;have HKM:Hid (k=m+1):=by show _=_;omega
       have zu:m<l.length:=by omega
       have em:(k:Int) - 1=(m:Int):=by omega
       have hwm:IntKind.i64.wrap (m:Int)=(m:Int):=Tg (by omega) (by omega);have X6:decide (0<k)=true:=by simp;omega
       have hd1:decide (0<(k:Int))=true:=by simp;omega
       have hmp:(m:Int)<(l.length:Int):=by omega
       obtain⟨y1,Rl⟩:∃x,(l.getD m (aN,aN)).1=x:=⟨_,rfl⟩;have HY1:Hid ((l.getD m (aN,aN)).1=y1):=Rl;have WN:Hid (∀W:World,Below w.heap.size w W->W.cell? ⟨b,o+m*2,none⟩=some (.string y1)):=by rw[<-Rl];exact HCP.out m zu
       clear Rl hm;have hge:=IV y1 x1
       cases uf:iN y1 x1 with
       | true=>
        rw[uf]at hge;have w_:Hid (iN y1 x1=true):=uf;clear uf;go_wp2;refine aF (by kernel_rfl) (fun w'=>Below w.heap.size w w') ?_;change wpIn _ _ _ _ _ _ _ _ (World.drew _);refine aa (i:=0) (d:=some 13) rfl ?_;refine aa (i:=1) (d:=some 14) rfl ?_;refine aa (i:=2) (d:=some 15) rfl ?_;refine aa (i:=3) (d:=some 16) rfl ?_;refine az (i:=4) (d:=some 17) rfl (by(intro wq hq;have z1:=oV.out wq hq;have z2:=xX.out wq hq;go_simp;first| done| with_reducible rfl)) ?_;refine ak (i:=5) oK rfl ?_;intro K hK;go_simp;go_wp2_with(go_at_call 72;refine hS.mono ?_;rintro e w1 ⟨rfl,rfl⟩);refine aa (i:=6) (d:=some 19) rfl ?_;refine aa (i:=7) (d:=some 20) rfl ?_;refine aa (i:=8) (d:=some 21) rfl ?_;refine aa (i:=9) (d:=some 22) rfl ?_;refine aa (i:=10) (d:=some 23) rfl ?_;refine aa (i:=11) (d:=some 24) rfl ?_;refine az (i:=12) (d:=some 25) rfl (by(intro wq hq;have z1:=oV.out wq hq;have z2:=xX.out wq hq;go_simp;first| done| with_reducible rfl)) ?_;refine az (i:=13) (d:=some 26) rfl (by(intro wq hq;have XA:¬9223372036854775807<1+x2.size:=(by omega);go_simp;first| done| with_reducible rfl)) ?_;refine ak (i:=14) oK rfl ?_;intro K hK;go_simp;go_wp2_with(go_at_call 41;refine(hD _).mono ?_;rintro e w2 ⟨rfl,aT⟩;have yQ:=oK.trans (aT.mono oK.size));refine aa (i:=15) (d:=some 28) rfl ?_;refine aa (i:=16) (d:=some 29) rfl ?_;refine aa (i:=17) (d:=some 30) rfl ?_;refine aa (i:=18) (d:=some 31) rfl ?_;refine aa (i:=19) (d:=some 32) rfl ?_;refine aa (i:=20) (d:=some 33) rfl ?_;refine aa (i:=21) (d:=some 34) rfl ?_;refine aa (i:=22) (d:=some 35) rfl ?_;refine aa (i:=23) (d:=some 36) rfl ?_;refine aa (i:=24) (d:=some 37) rfl ?_;refine aa (i:=25) (d:=some 38) rfl ?_;refine az (i:=26) (d:=some 39) rfl (by(intro wq hq;have z1:=oV.out wq hq;have z3:=WN.out wq hq;go_simp;first| done| with_reducible rfl)) ?_;refine aa (i:=27) (d:=some 40) rfl ?_;refine aa (i:=28) (d:=some 41) rfl ?_;refine aa (i:=29) (d:=some 42) rfl ?_;refine aa (i:=30) (d:=some 43) rfl ?_;refine az (i:=31) (d:=some 44) rfl (by(intro wq hq;have z1:=oV.out wq hq;have z3:=WN.out wq hq;go_simp;first| done| with_reducible rfl)) ?_;refine aa (i:=32) (d:=some 45) rfl ?_;refine aa (i:=33) (d:=some 46) rfl ?_;refine aa (i:=34) (d:=some 47) rfl ?_;refine aD yQ (by kernel_rfl) ?_ _;go_wp2;go_roundw
        case rel=>
         refine⟨k+1,by omega,by go_num,fun j hj=> ?_,yQ⟩
         by_cases e:j=k
         ·subst e;refine⟨P8.out,fun _=> ?_⟩;rw[show j - 1=m by have:=HKM.out;omega,HY1.out,KC.out];exact w_.out
         ·exact HG.out j (by omega)
        case measure=>simp[intOf];omega
       | false=>
        rw[uf]at hge;have HF:Hid (bJ l=false):=qE (j:=k) (by omega) Mq.out (by rw[show k - 1=m by have:=HKM.out;omega,HY1.out,KC.out];exact uf);clear uf;go_wp2;refine aF (by kernel_rfl) (fun w'=>Below w.heap.size w w') ?_;change wpIn _ _ _ _ _ _ _ _ (World.drew _);refine aa (i:=0) (d:=some 13) rfl ?_;refine aa (i:=1) (d:=some 14) rfl ?_;refine aa (i:=2) (d:=some 15) rfl ?_;refine aa (i:=3) (d:=some 16) rfl ?_;refine az (i:=4) (d:=some 17) rfl (by(intro wq hq;have z1:=oV.out wq hq;have z2:=xX.out wq hq;go_simp;first| done| with_reducible rfl)) ?_;refine ak (i:=5) oK rfl ?_;intro K hK;go_simp;go_wp2_with(go_at_call 72;refine hS.mono ?_;rintro e w1 ⟨rfl,rfl⟩);refine aa (i:=6) (d:=some 19) rfl ?_;refine aa (i:=7) (d:=some 20) rfl ?_;refine aa (i:=8) (d:=some 21) rfl ?_;refine aa (i:=9) (d:=some 22) rfl ?_;refine aa (i:=10) (d:=some 23) rfl ?_;refine aa (i:=11) (d:=some 24) rfl ?_;refine az (i:=12) (d:=some 25) rfl (by(intro wq hq;have z1:=oV.out wq hq;have z2:=xX.out wq hq;go_simp;first| done| with_reducible rfl)) ?_;refine az (i:=13) (d:=some 26) rfl (by(intro wq hq;have XA:¬9223372036854775807<1+x2.size:=(by omega);go_simp;first| done| with_reducible rfl)) ?_;refine ak (i:=14) oK rfl ?_;intro K hK;go_simp;go_wp2_with(go_at_call 41;refine(hD _).mono ?_;rintro e w2 ⟨rfl,aT⟩;have yQ:=oK.trans (aT.mono oK.size));refine aa (i:=15) (d:=some 28) rfl ?_;refine aa (i:=16) (d:=some 29) rfl ?_;refine aa (i:=17) (d:=some 30) rfl ?_;refine aa (i:=18) (d:=some 31) rfl ?_;refine aa (i:=19) (d:=some 32) rfl ?_;refine aa (i:=20) (d:=some 33) rfl ?_;refine aa (i:=21) (d:=some 34) rfl ?_;refine aa (i:=22) (d:=some 35) rfl ?_;refine aa (i:=23) (d:=some 36) rfl ?_;refine aa (i:=24) (d:=some 37) rfl ?_;refine aa (i:=25) (d:=some 38) rfl ?_;refine az (i:=26) (d:=some 39) rfl (by(intro wq hq;have z1:=oV.out wq hq;have z3:=WN.out wq hq;go_simp;first| done| with_reducible rfl)) ?_;refine aa (i:=27) (d:=some 40) rfl ?_;refine aa (i:=28) (d:=some 41) rfl ?_;refine aa (i:=29) (d:=some 42) rfl ?_;refine aa (i:=30) (d:=some 43) rfl ?_;refine az (i:=31) (d:=some 44) rfl (by(intro wq hq;have z1:=oV.out wq hq;have z3:=WN.out wq hq;go_simp;first| done| with_reducible rfl)) ?_;refine aa (i:=32) (d:=some 45) rfl ?_;refine aa (i:=33) (d:=some 46) rfl ?_;refine aa (i:=34) (d:=some 47) rfl ?_;refine aD yQ (by kernel_rfl) ?_ _;go_wp2;go_ret;exact⟨ai HF.out.symm,yQ⟩
   ·obtain rfl:k=l.length:=by omega
    have HF:Hid (bJ l=true):=wh HL4.out HG.out;go_wp2;go_ret;exact⟨ai HF.out.symm,hb⟩
 ·have HF:Hid (bJ l=false):=by
    show _=_
    unfold bJ;rw[decide_eq_false h4,Bool.false_and,Bool.false_and]
  go_enter Tryz.func40,Tryz.ntmps40;go_wp2;go_ret;exact⟨ai HF.out.symm,Below.refl _ _⟩
open Go.RowKit Go.Maps
theorem E_(s:ByteArray)(w:World)(hs:s.size<=1000000):
    Calls Tryz.prog 35 #[.string s] w fun x w'=>x=.returned (.bool (Id.parts 64 s).2.2)/\Below w.heap.size w w':=by
 go_enter Tryz.func35,Tryz.ntmps35;go_wp2_with(go_at_call 69;refine(Id.Dj s _ (by omega)).mono ?_;rintro e w1 ⟨rfl,aP⟩;unfold Id.told);go_ret;exact⟨rfl,aP⟩
theorem Qt(s:ByteArray)(w:World):
    Calls Tryz.prog 65 #[.string s] w fun x w'=>x=.returned (.agg #[.int .i64 3,.int .i64 0,.string s,.slice none 0 0,.slice none 0 0])/\Below w.heap.size w w':=by
 have hr:(w.alloc (.cells #[.int .i64 0,.int .i64 0,.string ⟨#[]⟩,.slice none 0 0,.slice none 0 0] 25)).heap[w.heap.size]?=some (.cells #[.int .i64 0,.int .i64 0,.string ⟨#[]⟩,.slice none 0 0,.slice none 0 0] 25 (0,0)):=heap_alloc_new _ _;have hb:Below w.heap.size w (w.alloc (.cells #[.int .i64 0,.int .i64 0,.string ⟨#[]⟩,.slice none 0 0,.slice none 0 0] 25)):=(Below.refl _ _).alloc (Nat.le_refl _) _;go_enter Tryz.func65,Tryz.ntmps65
 go_upto_region 1 with fail
 generalize w.alloc (.cells #[.int .i64 0,.int .i64 0,.string ⟨#[]⟩,.slice none 0 0,.slice none 0 0] 25)=WB at*;obtain⟨i0,i1,i2,i3,i4⟩:=aM hr;obtain⟨z0,z1,z2,z3,z4⟩:=fD hr;go_wp2;have h5:=dG hr (.int .i64 3) (.int .i64 0) (.string s) (.slice none 0 0) (.slice none 0 0);have dR:av (One w.heap.size) WB _:=dH WB w.heap.size (.int .i64 3) (.int .i64 0) (.string s) (.slice none 0 0) (.slice none 0 0);obtain⟨WE,AP⟩:∃WE,WE=kK WB w.heap.size (.int .i64 3) (.int .i64 0) (.string s) (.slice none 0 0) (.slice none 0 0):=⟨_,rfl⟩;rw[<-AP]at h5 dR;unfold kK at AP;rw[<-AP];refine bodyPost_ret (n_ rfl _ _ _ rfl (Js h5)) rfl ?_;exact⟨rfl,hb.trans (dR.below hb.size fun q hq=>by unfold One;omega)⟩
open Go.RowKit
theorem vo(O:Nat->Prop)(w:World)(k i:Int)(t:ByteArray):isJ O w (.mk k i t [] []) [.int .i64 k,.int .i64 i,.string t,.slice none 0 0,.slice none 0 0]:=by
 unfold isJ;exact⟨none,0,none,0,rfl,ig.nil _ _,Nat.le_refl _,by unfold isJs;trivial⟩
theorem jT:(Tryz.prog.info? 25).map (·.size)=some 5:=by kernel_rfl
theorem Fa{w:World}{b o:Nat}{e:Ev}{p:Pt}(h:w.rangeAt b o (aB e p)):(loadVar 28 ⟨b,o,none⟩).run Tryz.prog w=.ok (dZ e p) w:=run_loadVar_mid w b o 28 (aB e p) _ h Tryz.underlying28 rfl eQ
abbrev rD(key s:ByteArray):J:=.mk 5 0 aN [key] [.mk 3 0 s [] []]
def U6(b1 c1 b2 c2:Nat):List Value:= [.int .i64 5,.int .i64 0,.string aN,.slice (some ⟨b1,0,none⟩) 1 c1,.slice (some ⟨b2,0,none⟩) 1 c2]
theorem Ti(b1 c1 b2 c2:Nat):(U6 b1 c1 b2 c2).toArray.all (·.oneCell')=true:=all_oneCell_toArray fun v hv=>by
 simp only[U6,List.mem_cons,List.not_mem_nil,or_false]at hv
 rcases hv with rfl| rfl| rfl| rfl| rfl<;>rfl
theorem Np{w:World}{b o b1 c1 b2 c2:Nat}(h:w.rangeAt b o (U6 b1 c1 b2 c2)):(loadVar 25 ⟨b,o,none⟩).run Tryz.prog w=.ok (.agg (U6 b1 c1 b2 c2).toArray) w:=run_loadVar_mid w b o 25 (U6 b1 c1 b2 c2) _ h Tryz.underlying25 rfl jT
theorem rE(key s:ByteArray)(w:World):Calls Tryz.prog 30 #[.string key,.string s] w fun x w'=>
    (∃pk ck pl cl,x=.returned (.agg #[.int .i64 5,.int .i64 0,.string aN,.slice pk 1 ck,.slice pl 1 cl])/\isJ (· <w'.heap.size) w' (rD key s) [.int .i64 5,.int .i64 0,.string aN,.slice pk 1 ck,.slice pl 1 cl])/\Below w.heap.size w w':=by
 obtain⟨W,hW⟩:∃W,W=w.alloc (.cells #[.int .i64 0,.int .i64 0,.string ⟨#[]⟩,.slice none 0 0,.slice none 0 0] 25):=⟨_,rfl⟩;have dS:Below w.heap.size w W:=by rw[hW];exact(Below.refl _ _).alloc (Nat.le_refl _) _
 have r9:W.heap[w.heap.size]?=some (.cells #[.int .i64 0,.int .i64 0,.string ⟨#[]⟩,.slice none 0 0,.slice none 0 0] 25 (0,0)):=by rw[hW];exact bR _
 have hS:=Qt s W;have HP:Hid (∀X,Below W.heap.size W X->Calls Tryz.prog 44 #[.agg #[.int .i64 5,.int .i64 0,.string ⟨#[]⟩,.slice none 0 0,.slice none 0 0],.string key,.agg #[.int .i64 3,.int .i64 0,.string s,.slice none 0 0,.slice none 0 0]] X fun x w'=>(∃b1 c1 b2 c2,x=.returned (.agg (U6 b1 c1 b2 c2).toArray)/\isJ (fun b=>b<w.heap.size\/ qx X w' b) w' (rD key s) [.int .i64 5,.int .i64 0,.string ⟨#[]⟩,.slice (some ⟨b1,0,none⟩) 1 c1,.slice (some ⟨b2,0,none⟩) 1 c2])/\Below X.heap.size X w'):=fun X hX=>by
  refine(yP (O:=(· <w.heap.size)) (w:=X) (j:=.mk 5 0 aN [] []) (v:=.mk 3 0 s [] []) (k:=5) (i:=0) (t:=⟨#[]⟩) (vk:=3) (vi:=0) (vt:=s) (pk:=none) (pl:=none) (vpk:=none) (vpl:=none) (nk:=0) (ck:=0) (nl:=0) (cl:=0) (vnk:=0) (vck:=0) (vnl:=0) (vcl:=0) key (fun b hb=>Nat.lt_of_lt_of_le hb (ah dS hX).size) ?_ ?_ (fun _=>rfl) (fun _=>rfl) (by decide) (by decide)).mono fun x w' hh=>hh
  ·exact vo _ _ _ _ _
  ·exact vo _ _ _ _ _
 go_enter Tryz.func30,Tryz.ntmps30
 go_upto_region 1 with fail
 rw[<-hW];clear hW;go_wp2_with(first
  | (go_at_call 65;refine hS.mono ?_;rintro x w1 ⟨rfl,aP⟩;have hP1:=HP.out w1 aP)
  | (go_at_call 44;refine hP1.mono ?_;rintro x w2 ⟨⟨b1,c1,b2,c2,rfl,hj⟩,aT⟩
     have hX2:w2.heap[w.heap.size]?=some (.cells #[.int .i64 0,.int .i64 0,.string ⟨#[]⟩,.slice none 0 0,.slice none 0 0] 25 (0,0)):=((ah aP aT).block _ (aO r9)).trans r9;have HX2:=(show Hid _ from hX2);clear hX2)
  | (refine wpList_store_row rfl 25 _ _ rfl w.heap.size 25 _ (U6 b1 c1 b2 c2).toArray rfl rfl HX2.out jT rfl (Ti _ _ _ _) ?_))
 have hk:=cz w2 w.heap.size (U6 b1 c1 b2 c2).toArray;refine bodyPost_ret (gz rfl _ _ _ rfl (Np (eD (setRow_heap _ _ _ _ _ _ HX2.out)))) rfl ?_;have vV:Below w.heap.size w w2:=ah dS (ah aP aT);have bH:=aO r9;have s1:=aP.size;refine⟨⟨some ⟨b1,0,none⟩,c1,some ⟨b2,0,none⟩,c2,rfl,hj.carry fun b hb=> ?_⟩,vV.trans (hk.below vV.size fun k hk e=>by unfold aQ at e;omega)⟩;have h2:b<w2.heap.size/\b≠w.heap.size:=by
  rcases hb with hb| hb
  ·exact⟨Nat.lt_of_lt_of_le hb vV.size,by omega⟩
  ·unfold qx at hb;exact⟨by omega,by omega⟩
 exact⟨Nat.lt_of_lt_of_le h2.1 hk.size,hk.block b h2.1 (by unfold aQ;exact h2.2)⟩
abbrev X7(kind key ag:ByteArray)(c:J):Ev:=⟨⟨#[33,114,58,115,49]⟩,kind,ag,true,key,c, [], [],0,0,aN, []⟩
theorem Fb(kind key ag kk s:ByteArray)(pk:Option Addr)(ck:Nat)(pl:Option Addr)(cl:Nat)(w:World):Calls Tryz.prog 29 #[.string kind,.string key,.string ag,.agg #[.int .i64 5,.int .i64 0,.string aN,.slice pk 1 ck,.slice pl 1 cl]] w fun x w'=>
    x=.returned (dZ (X7 kind key ag (rD kk s)) ⟨pk,ck,pl,cl,none,0,none,0,none,0⟩)/\Below w.heap.size w w':=by
 obtain⟨W,hW⟩:∃W,W=(w.alloc (.cells #[.int .i64 5,.int .i64 0,.string aN,.slice pk 1 ck,.slice pl 1 cl] 25)).alloc (.cells (aB Ev.zero Pt.zero).toArray 28):=⟨_,rfl⟩;have dS:Below w.heap.size w W:=by rw[hW];exact((Below.refl _ _).alloc (Nat.le_refl _) _).alloc (by simp) _
 have r9:W.heap[w.heap.size]?=some (.cells #[.int .i64 5,.int .i64 0,.string aN,.slice pk 1 ck,.slice pl 1 cl] 25 (0,0)):=by rw[hW,Below.heap_alloc _ _ _ (by simp)];exact bR _
 have KC:Hid (W.heap[w.heap.size+1]?=some (.cells (aB Ev.zero Pt.zero).toArray 28 (0,0))):=by
  show _=_
  rw[hW];have:=bR (w:=w.alloc (.cells #[.int .i64 5,.int .i64 0,.string aN,.slice pk 1 ck,.slice pl 1 cl] 25)) (.cells (aB Ev.zero Pt.zero).toArray 28);rw[World.size_alloc]at this;exact this
 have HR:Hid (W.rangeAt w.heap.size 0 [.int .i64 5,.int .i64 0,.string aN,.slice pk 1 ck,.slice pl 1 cl]):=eD r9;clear r9;go_enter Tryz.func29,Tryz.ntmps29
 go_upto_region 1 with fail
 change Code.wp _ _ _ _ ((w.alloc (.cells #[.int .i64 5,.int .i64 0,.string aN,.slice pk 1 ck,.slice pl 1 cl] 25)).alloc (.cells (aB Ev.zero Pt.zero).toArray 28));rw[<-hW];clear hW;go_wp2_with(first
  | (refine wpList_load_mid rfl 25 _ rfl w.heap.size 0 rfl _ _ HR.out Tryz.underlying25 rfl (by kernel_rfl) ?_)
  | (refine wpList_store_row rfl 28 _ _ rfl (w.heap.size+1) 28 _ (aB (X7 kind key ag (rD kk s)) ⟨pk,ck,pl,cl,none,0,none,0,none,0⟩).toArray rfl rfl KC.out eQ rfl (AY _ _) ?_))
 refine bodyPost_ret (gz rfl _ _ _ rfl (Fa (eD (setRow_heap _ _ _ _ _ _ KC.out)))) rfl ?_;refine⟨rfl,dS.trans ((cz _ (w.heap.size+1) _).below dS.size fun k hk e=>by unfold aQ at e;omega)⟩
theorem tQ(a b:ByteArray):(a.toList==b.toList)=(b.toList==a.toList):=by
 rw[Bool.eq_iff_iff,ib,ib];exact eq_comm
def Tj(ks:List ByteArray)(s:ByteArray)(m:Int):Prop:=(m= -1/\∀y,y<ks.length->(s.toList==(ks.getD y aN).toList)=false)\/ ∃k:Nat,m=(k:Int)/\k<ks.length/\(s.toList==(ks.getD k aN).toList)=true/\∀y,y<k->(s.toList==(ks.getD y aN).toList)=false
theorem Nq{O:Nat->Prop}{w:World}{p:Option Addr}{c:Nat}{ks:List ByteArray}(hk:ig O w p c ks)(hz:ks.length<=100000)(s:ByteArray):
    Calls Tryz.prog 66 #[.slice p ks.length c,.string s] w fun e w'=>(∃m,e=.returned (.int .i64 m)/\Tj ks s m)/\w=w':=by
 obtain⟨n,hn⟩:∃n,ks.length=n:=⟨_,rfl⟩;have HN:Hid (ks.length=n):=hn;have hc:=hk.1;rw[hn]at hz hc ⊢;clear hn;go_enter Tryz.func66,Tryz.ntmps66;go_wp2
 go_loop [8] (fun i=>∃k:Nat,i=.int .i64 k/\k<=n/\Hid (∀y,y<k->(s.toList==(ks.getD y aN).toList)=false)) (fun i=>n - (intOf i).toNat)
 case atStart=>exact⟨0,rfl,Nat.zero_le _,fun y hy=>absurd hy (by omega)⟩
 case round=>
  obtain⟨k,rfl,sO,HX⟩:=hrel
  by_cases bH:k<n
  ·have Ob:(k:Int)<(n:Int):=by omega
   obtain⟨a,rfl,_,rW⟩:=hk.2 k (by rw[HN.out];exact bH);have HS:Hid ((s.toList==(ks.getD k aN).toList)=false->∀y,y<k+1->(s.toList==(ks.getD y aN).toList)=false):=fun h y hy=>(Nat.lt_succ_iff_lt_or_eq.1 hy).elim (HX.out y) fun e=>by rw[e];exact h
   have HY:Hid ((s.toList==(ks.getD k aN).toList)=true->Tj ks s k):=fun h=>.inr ⟨k,rfl,by rw[HN.out];exact bH,h,HX.out⟩;generalize ks.getD k aN=u at rW HS HY
   cases he:(s.toList==u.toList)with
   | true=>
    have HZ:=(show Hid _ from HY.out he);go_wp2;go_ret;exact⟨⟨_,rfl,HZ.out⟩,rfl⟩
   | false=>
    have HZ:=(show Hid _ from HS.out he);go_wp2
    go_round
    case rel=>exact⟨k+1,by go_num,bH,HZ⟩
    case measure=>simp[intOf];omega
  ·obtain rfl:k=n:=by omega
   go_wp2;go_ret;exact⟨⟨_,rfl,.inl ⟨rfl,fun y hy=>HX.out y (by rw[<-HN.out];exact hy)⟩⟩,rfl⟩
theorem Fe{ks:List ByteArray}{l:List J}{s:ByteArray}{m:Int}(h:Tj ks s m):(m<0/\lookV ks l s=none)\/ ((l.length:Int)<=m/\lookV ks l s=none)\/ ∃k:Nat,m=(k:Int)/\k<ks.length/\k<l.length/\lookV ks l s=some (l.getD k J.zero):=by
 rcases h with⟨rfl,h⟩| ⟨k,rfl,hk,he,hb⟩
 ·exact .inl ⟨by decide,kT fun y h1 _=>by rw[tQ];exact h y h1⟩
 ·by_cases hl:k<l.length
  ·exact .inr (.inr ⟨k,rfl,hk,hl,rf hk hl (fun y hy=>by rw[tQ];exact hb y hy) (by rw[tQ];exact he)⟩)
  ·exact .inr (.inl ⟨by omega,kT fun y _ h2=>by rw[tQ];exact hb y (by omega)⟩)
theorem p9{O:Nat->Prop}{w:World}{j:J}{k i:Int}{t:ByteArray}{pk pl:Option Addr}{nk ck nl cl:Nat}(hj:isJ O w j [.int .i64 k,.int .i64 i,.string t,.slice pk nk ck,.slice pl nl cl])(hO:∀b,O b->b<w.heap.size)(hz:j.ks.length<=100000)(s:ByteArray):
    Calls Tryz.prog 31 #[.agg #[.int .i64 k,.int .i64 i,.string t,.slice pk nk ck,.slice pl nl cl],.string s] w fun e w'=>e=.returned (.string (eB j s))/\Below w.heap.size w w':=by
 obtain⟨kx,ix,tx,ks,l⟩:=j;obtain⟨rfl,rfl,rfl,rfl,rfl,hk,Dq,l9⟩:=eP hj;clear hj;obtain⟨y,hy⟩:∃y,eB (.mk k i t ks l) s=y:=⟨_,rfl⟩;rw[hy];have UO:Hid (k=5->y=txtT (lookV ks l s)):=fun h=>by rw[<-hy];show txtT (if k=5 then lookV ks l s else none)=_;rw[if_pos h]
 have Ww:Hid (¬k=5->y=aN):=fun h=>by rw[<-hy];show txtT (if k=5 then lookV ks l s else none)=_;rw[if_neg h];rfl
 clear hy;simp only[J.ks]at hz;obtain⟨wA,nO⟩:∃wA,wA=w.alloc (.cells #[.int .i64 k,.int .i64 i,.string t,.slice pk ks.length ck,.slice pl l.length cl] 25):=⟨_,rfl⟩;have bS:Below w.heap.size w wA:=by rw[nO];exact(Below.refl _ _).alloc (Nat.le_refl _) _
 have hA:wA.heap[w.heap.size]?=some (.cells #[.int .i64 k,.int .i64 i,.string t,.slice pk ks.length ck,.slice pl l.length cl] 25 (0,0)):=by rw[nO];exact bR _
 have hI:=Nq (hk.carry (O':=O) (w':=wA) fun x hx=>⟨hx,bS.block x (hO x hx)⟩) hz s;have w_:Hid (∀m,Tj ks s m->(m<0/\lookV ks l s=none)\/ ((l.length:Int)<=m/\lookV ks l s=none)\/ ∃k:Nat,m=(k:Int)/\k<ks.length/\k<l.length/\lookV ks l s=some (l.getD k J.zero)):=fun m h=>Fe h;have Sn:Hid (isJs O w pl 0 l):=l9;obtain⟨nk,nz⟩:∃n,ks.length=n:=⟨_,rfl⟩;obtain⟨nl,oo⟩:∃n,l.length=n:=⟨_,rfl⟩;have xH:Hid (l.length=nl):=oo;rw[nz]at hz hA hI nO w_ ⊢;rw[oo]at Dq hA nO w_ ⊢;have i0:=ay hA 0 _ rfl;have i3:=ay hA 3 _ rfl;have i4:=ay hA 4 _ rfl;clear nz oo hA hk l9;generalize lookV ks l s=o at w_ UO
 by_cases k5:k=5
 ·subst k5;have HY:=(show Hid _ from UO.out rfl);clear UO Ww;go_enter Tryz.func31,Tryz.ntmps31
  go_upto_region 1 with fail
  rw[<-nO];clear nO
  go_upto_region 2 with(go_at_call 66;refine hI.mono ?_;rintro e w1 ⟨⟨m,rfl,hm⟩,rfl⟩)
  rcases w_.out m hm with⟨h1,h2⟩| ⟨h1,h2⟩| ⟨n,h1,h2,h3,h4⟩
  ·subst h2;clear hI hm w_;go_wp2;go_ret;exact⟨by rw[HY.out];rfl,bS⟩
  ·subst h2;clear hI hm w_;have h0:¬m<0:=by omega
   have hd:decide (m<0)=false:=decide_eq_false h0;have X6:decide ((nl:Int)<=m)=true:=decide_eq_true h1;go_wp2;go_ret;exact⟨by rw[HY.out];rfl,bS⟩
  ·subst h4 h1;clear hI hm w_;have hni:(n:Int)<(nl:Int):=by omega
   obtain⟨lb,lo,cs,vM,mG,bA,ja⟩:=isJs.at l 0 n Sn.out (by rw[xH.out];exact h3);subst vM;obtain⟨kv,iv,tv,pv,nv,cv,qv,mv,dv,rfl⟩:=dI ja;have HV:Hid ((l.getD n J.zero).kd=kv/\(l.getD n J.zero).tx=tv):=by
    generalize l.getD n J.zero=y at ja;obtain⟨_,_,_,_,_⟩:=y;obtain⟨rfl,rfl,rfl,_⟩:=eP ja;exact⟨rfl,rfl⟩
   have cc:∀m v, [Value.int .i64 kv,.int .i64 iv,.string tv,.slice pv nv cv,.slice qv mv dv][m]?=some v->wA.cell? ⟨lb,lo+n*5+m,none⟩=some v:=fun m v h=>by
    have:=bA m v h;rw[Nat.zero_add]at this;exact(World.cell?_of_block (a:=⟨lb,lo+n*5+m,none⟩) (bS.block lb (hO lb mG))).trans this
   have y0:wA.cell? ⟨lb,lo+n*5,none⟩=some (.int .i64 kv):=cc 0 _ rfl;have y2:=cc 2 _ rfl;clear cc bA ja;have hd:decide ((n:Int)<0)=false:=decide_eq_false (by omega);have X6:decide (nl<=n)=false:=decide_eq_false (by omega)
   by_cases k3:kv=3
   ·subst k3;have HT:Hid (txtT (some (l.getD n J.zero))=tv):=by show _=_;simp only[txtT,HV.out.1,HV.out.2,if_true]
    go_wp2;go_ret;exact⟨by rw[HY.out,HT.out];rfl,bS⟩
   ·have HT:Hid (txtT (some (l.getD n J.zero))=⟨#[]⟩):=by show _=_;simp only[txtT,HV.out.1,if_neg k3];rfl
    go_wp2;go_ret;exact⟨by rw[HY.out,HT.out];rfl,bS⟩
 ·have HY:=(show Hid _ from Ww.out k5);clear UO Ww;go_enter Tryz.func31,Tryz.ntmps31
  go_upto_region 1 with fail
  rw[<-nO];clear nO;go_wp2_with(go_at_call 66;refine hI.mono ?_;rintro e w1 ⟨⟨m,rfl,hm⟩,rfl⟩);go_ret;exact⟨by rw[HY.out];rfl,bS⟩
end Go.Proofs.YtldegjjaknelgaaGreatDoor

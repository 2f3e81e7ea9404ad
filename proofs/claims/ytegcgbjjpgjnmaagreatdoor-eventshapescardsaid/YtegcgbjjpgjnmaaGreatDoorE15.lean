/- A part. -/
import Derived.Test.YtegcgbjjpgjnmaaGreatDoorE14
set_option maxRecDepth 100000
set_option maxHeartbeats 16000000
namespace Go.Proofs.YtegcgbjjpgjnmaaGreatDoor
open Go.RowKit
theorem TI.end{O:Nat->Prop}{w WB wr W5:World}{kd:Int}{ks:List ByteArray}{js:List J}{q1 q2:Option Addr}{n1 n2 c1 c2:Nat}(h:TI O (w.heap.size+3) (w.heap.size+2) kd WB ks js (.slice q1 n1 c1) (.slice q2 n2 c2) wr)(hO:∀k,O k->k<w.heap.size)(cK:Below w.heap.size w WB)(aX:aj (One (w.heap.size+1)) wr W5):
    isJ (fun k=>O k\/ fB w W5 k) W5 (.mk kd 0 aH ks js) [.int .i64 kd,.int .i64 0,.string aH,.slice q1 n1 c1,.slice q2 n2 c2]/\Below w.heap.size w W5:=by
 have fI:=h.size;have h5:=aX.size;have R3:=h.F9;obtain⟨xs,bW,eZ⟩:=h.dS;obtain⟨q1',lI,e1,lM⟩:=o5 h.keys;obtain⟨q2',jU,e2,vw,Pm⟩:=qV bW eZ
 cases e1
 cases e2
 have carry:∀k,w.heap.size+3<=k->k<wr.heap.size->(O k\/ fB w W5 k)/\W5.heap[k]?=wr.heap[k]?:=fun k h1 h2=>⟨.inr ⟨by omega,by omega⟩,aX.block k h2 (by unfold One;omega)⟩;refine⟨?_, ?_⟩
 ·unfold isJ;refine⟨q1,c1,q2,c2,rfl,lM.carry fun k hk=>carry k hk.1 hk.2,vw,Pm.carry fun k hk=> ?_⟩
  rcases hk with hk| hk
  ·rcases hk with hk| hk
   ·have:=hO k hk;exact⟨.inl hk,aX.block k (by omega) (by unfold One;omega)⟩
   ·exact carry k hk.1 hk.2.1
  ·exact carry k hk.1 hk.2
 ·exact(cK.trans (h.bf.below (by omega) fun k hk=>by unfold One;omega)).trans (aX.below (by omega) fun k hk=>by unfold One;omega)
theorem Iz{w:World}(o1 o2 o3:Obj):(((w.alloc o1).alloc o2).alloc o3).heap[w.heap.size+2]?=some o3/\(((w.alloc o1).alloc o2).alloc o3).heap[w.heap.size+1]?=some o2/\(((w.alloc o1).alloc o2).alloc o3).heap[w.heap.size]?=some o1:=by
 have h3:=heap_alloc_new ((w.alloc o1).alloc o2) o3;refine⟨by simpa using h3, ?_, ?_⟩
 ·rw[Below.heap_alloc _ _ _ (by simp)];exact iq _ _
 ·rw[Below.heap_alloc _ _ _ (by simp;omega)];exact jL _ _
theorem ni{O:Nat->Prop}{W W2:World}{y:J}{cs:List Value}(h:isJ (fB W W2) W2 y cs):isJ (fun k=>O k\/ fB W W2 k) W2 y cs:=h.carry fun _ hk=>⟨.inr hk,rfl⟩
theorem Qa{O:Nat->Prop}(room aQ ah key:ByteArray)(k i:Int)(t:ByteArray)(ks:List ByteArray)(l:List J)(prev aC:List ByteArray)(depth ts:Int)(hash:ByteArray)(sigs:List (ByteArray×ByteArray))(pk:Option Addr)(ck:Nat)(pl:Option Addr)(cl:Nat)(pp:Option Addr)(cp:Nat)(pa:Option Addr)(ca:Nat)(ps:Option Addr)(cs:Nat)(w:World)
    (hE:mF O w ⟨room,aQ,ah,true,key,⟨k,i,t,ks,l⟩,prev,aC,depth,ts,hash,sigs⟩ ⟨pk,ck,pl,cl,pp,cp,pa,ca,ps,cs⟩) (hO:∀k,O k->k<w.heap.size) (h1:prev.length<=100000) (h2:aC.length<=100000) (h3:sigs.length<=100000):
    Calls Tryz.prog 33 #[.agg #[.string room,.string aQ,.string ah,.bool true,.string key,.int .i64 k,.int .i64 i,.string t,.slice pk ks.length ck,.slice pl l.length cl,.slice pp prev.length cp,.slice pa aC.length ca,.int .i64 depth,.int .i64 ts,.string hash,.slice ps sigs.length cs]] w fun x w'=>(∃pk nk ck pl nl cl,x=.returned (.agg #[.int .i64 5,.int .i64 0,.string aH,.slice pk nk ck,.slice pl nl cl])/\isJ (fun k=>O k\/ fB w w' k) w' (dI ⟨room,aQ,ah,true,key,⟨k,i,t,ks,l⟩,prev,aC,depth,ts,hash,sigs⟩) [.int .i64 5,.int .i64 0,.string aH,.slice pk nk ck,.slice pl nl cl])/\Below w.heap.size w w':=by
 obtain⟨WB,dw⟩:∃WB,WB=((w.alloc (.cells #[.string room,.string aQ,.string ah,.bool true,.string key,.int .i64 k,.int .i64 i,.string t,.slice pk ks.length ck,.slice pl l.length cl,.slice pp prev.length cp,.slice pa aC.length ca,.int .i64 depth,.int .i64 ts,.string hash,.slice ps sigs.length cs] 28)).alloc (.cells #[.int .i64 0,.int .i64 0,.string ⟨#[]⟩,.slice none 0 0,.slice none 0 0] 25)).alloc (.cells #[.int .i64 5,.int .i64 0,.string ⟨#[]⟩,.slice none 0 0,.slice none 0 0] 25):=⟨_,rfl⟩;have cK:Below w.heap.size w WB:=by rw[dw];exact(((Below.refl _ _).alloc (Nat.le_refl _) _).alloc (by simp) _).alloc (by simp;omega) _
 obtain⟨q1,q2,q3⟩:=Iz (w:=w) (.cells #[.string room,.string aQ,.string ah,.bool true,.string key,.int .i64 k,.int .i64 i,.string t,.slice pk ks.length ck,.slice pl l.length cl,.slice pp prev.length cp,.slice pa aC.length ca,.int .i64 depth,.int .i64 ts,.string hash,.slice ps sigs.length cs] 28) (.cells #[.int .i64 0,.int .i64 0,.string ⟨#[]⟩,.slice none 0 0,.slice none 0 0] 25) (.cells #[.int .i64 5,.int .i64 0,.string ⟨#[]⟩,.slice none 0 0,.slice none 0 0] 25);rw[<-dw]at q1 q2 q3;have Ma:TI O (w.heap.size+3) (w.heap.size+2) 5 WB [] [] (.slice none 0 0) (.slice none 0 0) WB:=TI.start (by rw[dw];simp) (by omega) (fun k h=>by have:=hO k h;omega) q1;have HE:Hid (∀{XL:List ByteArray} {js:List J} {vk vl:Value} {W:World},TI O (w.heap.size+3) (w.heap.size+2) 5 WB XL js vk vl W->mF O W ⟨room,aQ,ah,true,key,⟨k,i,t,ks,l⟩,prev,aC,depth,ts,hash,sigs⟩ ⟨pk,ck,pl,cl,pp,cp,pa,ca,ps,cs⟩/\(∀k,O k->k<W.heap.size)/\(∀j v, [.string room,.string aQ,.string ah,.bool true,.string key,.int .i64 k,.int .i64 i,.string t,.slice pk ks.length ck,.slice pl l.length cl,.slice pp prev.length cp,.slice pa aC.length ca,.int .i64 depth,.int .i64 ts,.string hash,.slice ps sigs.length cs][j]?=some v->W.cell? ⟨w.heap.size,j,none⟩=some v)/\W.heap[w.heap.size+1]?=some (.cells #[.int .i64 0,.int .i64 0,.string ⟨#[]⟩,.slice none 0 0,.slice none 0 0] 25 (0,0))):=by
  intro XL js vk vl W h;have e1:=h.size;have e2:=h.F9;refine⟨hE.carry fun k hk=>⟨hk, ?_⟩,fun k hk=>by have:=hO k hk;omega,fun j v hj=> ?_, ?_⟩
  ·have:=hO k hk;exact(h.bf.block k (by omega) (by unfold One;omega)).trans (cK.block k this)
  ·exact aR ((h.bf.block _ (by omega) (by unfold One;omega)).trans q3) j v hj
  ·exact(h.bf.block _ (by omega) (by unfold One;omega)).trans q2
 have uQ:=(HE.out Ma).2.2.1 11 _ rfl;have r9:TI O (w.heap.size+3) (w.heap.size+2) 5 WB [] [] (.slice none 0 0) (.slice none 0 0) (((w.alloc (.cells #[.string room,.string aQ,.string ah,.bool true,.string key,.int .i64 k,.int .i64 i,.string t,.slice pk ks.length ck,.slice pl l.length cl,.slice pp prev.length cp,.slice pa aC.length ca,.int .i64 depth,.int .i64 ts,.string hash,.slice ps sigs.length cs] 28)).alloc (.cells #[.int .i64 0,.int .i64 0,.string ⟨#[]⟩,.slice none 0 0,.slice none 0 0] 25)).alloc (.cells #[.int .i64 5,.int .i64 0,.string ⟨#[]⟩,.slice none 0 0,.slice none 0 0] 25)):=by rw[<-dw];exact Ma
 rw[dw]at uQ;clear q1 q2 q3 dw hE Ma;go_enter Tryz.func33,Tryz.ntmps33;go_wp2_with(first
  | (go_at_call 66;refine(eB zek (bB _ _ aQ) (by simp) (by simp) _).mono ?_;rintro x W11 ⟨rfl,zel,zem,IA⟩
     obtain⟨q1,m1,c1,ET⟩:∃q m c,zel=.slice q m c:=by
      obtain⟨q,c,h⟩:=eT IA.keys;exact⟨q,_,c,h⟩
     obtain⟨q2,m2,c2,vP⟩:∃q m c,zem=.slice q m c:=by
      obtain⟨xs,bW,_⟩:=IA.dS;obtain⟨q,c,h⟩:=eT bW;exact⟨q,_,c,h⟩
     subst ET vP;have xA:W11.heap[w.heap.size+1+1]?=some (.cells #[.int .i64 5,.int .i64 0,.string ⟨#[]⟩,.slice q1 m1 c1,.slice q2 m2 c2] 25 (0,0)):=IA.obj;have mo:=(HE.out IA).2.2.2;obtain⟨j0,j1,j2,j3,j4⟩:=ai xA;obtain⟨i0,i1,i2,i3,i4⟩:=ai mo;obtain⟨z0,z1,z2,z3,z4⟩:=aF mo)
  | (go_at_call 69;have _g:=wP;refine(iL aQ _).mono ?_;rintro x FW ⟨rfl,zen⟩
     have zek:=wP.more zen)
  | (go_at_call 66;refine(eB hu9 (kI _ _ ts) (by simp) (by simp) _).mono ?_;rintro x wQ ⟨rfl,zbL,zbM,wP⟩
     have a1:=(HE.out wP).2.2.1 1 _ rfl)
  | (go_at_call 68;have _g:=Mc;refine(oZ ts _).mono ?_;rintro x v9 ⟨rfl,X6⟩
     have hu9:=Mc.more X6)
  | (go_at_call 66;refine(eB hu8 hy8 (by simp) (by simp) _).mono ?_;rintro x W9 ⟨rfl,vk9,vl9,Mc⟩
     have xk:=(HE.out Mc).2.2.1 13 _ rfl)
  | (go_at_call 70;refine(Bc (HE.out Fg).1.sigs (HE.out Fg).2.1 h3).mono ?_;rintro x v8 ⟨⟨pk8,nk8,ck8,pl8,nl8,cl8,rfl,hj8⟩,rT⟩
     have hu8:=Fg.more rT;have hy8:=Fg.fresh rT (ni hj8))
  | (go_at_call 66;refine(eB hu7 (bB _ _ ah) (by simp) (by simp) _).mono ?_;rintro x W8 ⟨rfl,vk8,vl8,Fg⟩
     have vQ:=(HE.out Fg).2.2.1 15 _ rfl)
  | (go_at_call 69;have _g:=Fh;refine(iL ah _).mono ?_;rintro x v7 ⟨rfl,Rc⟩
     have hu7:=Fh.more Rc)
  | (go_at_call 66;refine(eB hu6 (bB _ _ room) (by simp) (by simp) _).mono ?_;rintro x W7 ⟨rfl,vk7,vl7,Fh⟩
     have a2:=(HE.out Fh).2.2.1 2 _ rfl)
  | (go_at_call 69;have _g:=Md;refine(iL room _).mono ?_;rintro x v6 ⟨rfl,Bd⟩
     have hu6:=Md.more Bd)
  | (go_at_call 66;refine(eB hu5 hy5 (by simp) (by simp) _).mono ?_;rintro x W6 ⟨rfl,vk6,vl6,Md⟩
     have a0:=(HE.out Md).2.2.1 0 _ rfl)
  | (go_at_call 67;refine(rh (HE.out kZ).1.prev (HE.out kZ).2.1 h1).mono ?_;rintro x v5 ⟨⟨pl5,ZO,cl5,rfl,F_⟩,nu⟩
     have hu5:=kZ.more nu;have hy5:=kZ.fresh nu (ni F_))
  | (go_at_call 66;refine(eB hu4 (bB _ _ key) (by simp) (by simp) _).mono ?_;rintro x W5 ⟨rfl,vk5,vl5,kZ⟩
     have zf:=(HE.out kZ).2.2.1 10 _ rfl)
  | (go_at_call 69;have _g:=Be;refine(iL key _).mono ?_;rintro x v4 ⟨rfl,dN⟩
     have hu4:=Be.more dN)
  | (go_at_call 66;refine(eB hu3 (bB _ _ hash) (by simp) (by simp) _).mono ?_;rintro x W4 ⟨rfl,vk4,vl4,Be⟩
     have a4:=(HE.out Be).2.2.1 4 _ rfl;have a3:=(HE.out Be).2.2.1 3 _ rfl)
  | (go_at_call 69;have _g:=Me;refine(iL hash _).mono ?_;rintro x v3 ⟨rfl,a_⟩
     have hu3:=Me.more a_)
  | (go_at_call 66;refine(eB hu2 (kI _ _ depth) (by simp) (by simp) _).mono ?_;rintro x W3 ⟨rfl,vk3,vl3,Me⟩
     have jk:=(HE.out Me).2.2.1 14 _ rfl)
  | (go_at_call 68;have _g:=Mf;refine(oZ depth _).mono ?_;rintro x v2 ⟨rfl,bM⟩
     have hu2:=Mf.more bM)
  | (go_at_call 66;refine(eB vE ((HE.out vE).1.cont.carry fun k hk=>⟨.inl hk,rfl⟩) (by simp) (by simp) _).mono ?_;rintro x W2 ⟨rfl,NI,nP,Mf⟩
     have a12:=(HE.out Mf).2.2.1 12 _ rfl)
  | (go_at_call 66;refine(eB hu0 hy0 (by simp) (by simp) _).mono ?_;rintro x W1 ⟨rfl,vk1,vl1,vE⟩
     have a5:=(HE.out vE).2.2.1 5 _ rfl;have a6:=(HE.out vE).2.2.1 6 _ rfl;have a7:=(HE.out vE).2.2.1 7 _ rfl;have a8:=(HE.out vE).2.2.1 8 _ rfl;have a9:=(HE.out vE).2.2.1 9 _ rfl)
  | (go_at_call 67;refine(rh (HE.out r9).1.aC (HE.out r9).2.1 h2).mono ?_;rintro x v0 ⟨⟨pl0,nl0,cl0,rfl,V8⟩,qO⟩
     have hu0:=r9.more qO;have hy0:=r9.fresh qO (ni V8)))
 have h5:=aK mo (.int .i64 5) (.int .i64 0) (.string ⟨#[]⟩) (.slice q1 m1 c1) (.slice q2 m2 c2);have aX:aj (One (w.heap.size+1)) W11 _:=aJ W11 (w.heap.size+1) (.int .i64 5) (.int .i64 0) (.string ⟨#[]⟩) (.slice q1 m1 c1) (.slice q2 m2 c2);unfold bF at h5 aX;obtain⟨k0,k1,k2,k3,k4⟩:=ai h5;refine bodyPost_ret (v:=.agg #[.int .i64 5,.int .i64 0,.string ⟨#[]⟩,.slice q1 m1 c1,.slice q2 m2 c2]) (by simp[results,Tryz.results33,go_sem,k0,k1,k2,k3,k4]) rfl ?_;obtain⟨r1,r2⟩:=IA.end hO cK aX;exact⟨⟨_,_,_,_,_,_,rfl,r1⟩,r2⟩
theorem Mg{O:Nat->Prop}(room aQ ah key:ByteArray)(k i:Int)(t:ByteArray)(ks:List ByteArray)(l:List J)(prev aC:List ByteArray)(depth ts:Int)(hash:ByteArray)(sigs:List (ByteArray×ByteArray))(pk:Option Addr)(ck:Nat)(pl:Option Addr)(cl:Nat)(pp:Option Addr)(cp:Nat)(pa:Option Addr)(ca:Nat)(ps:Option Addr)(cs:Nat)(w:World)
    (hE:mF O w ⟨room,aQ,ah,false,key,⟨k,i,t,ks,l⟩,prev,aC,depth,ts,hash,sigs⟩ ⟨pk,ck,pl,cl,pp,cp,pa,ca,ps,cs⟩) (hO:∀k,O k->k<w.heap.size) (h1:prev.length<=100000) (h2:aC.length<=100000) (h3:sigs.length<=100000):
    Calls Tryz.prog 33 #[.agg #[.string room,.string aQ,.string ah,.bool false,.string key,.int .i64 k,.int .i64 i,.string t,.slice pk ks.length ck,.slice pl l.length cl,.slice pp prev.length cp,.slice pa aC.length ca,.int .i64 depth,.int .i64 ts,.string hash,.slice ps sigs.length cs]] w fun x w'=>(∃pk nk ck pl nl cl,x=.returned (.agg #[.int .i64 5,.int .i64 0,.string aH,.slice pk nk ck,.slice pl nl cl])/\isJ (fun k=>O k\/ fB w w' k) w' (dI ⟨room,aQ,ah,false,key,⟨k,i,t,ks,l⟩,prev,aC,depth,ts,hash,sigs⟩) [.int .i64 5,.int .i64 0,.string aH,.slice pk nk ck,.slice pl nl cl])/\Below w.heap.size w w':=by
 obtain⟨WB,dw⟩:∃WB,WB=((w.alloc (.cells #[.string room,.string aQ,.string ah,.bool false,.string key,.int .i64 k,.int .i64 i,.string t,.slice pk ks.length ck,.slice pl l.length cl,.slice pp prev.length cp,.slice pa aC.length ca,.int .i64 depth,.int .i64 ts,.string hash,.slice ps sigs.length cs] 28)).alloc (.cells #[.int .i64 0,.int .i64 0,.string ⟨#[]⟩,.slice none 0 0,.slice none 0 0] 25)).alloc (.cells #[.int .i64 5,.int .i64 0,.string ⟨#[]⟩,.slice none 0 0,.slice none 0 0] 25):=⟨_,rfl⟩;have cK:Below w.heap.size w WB:=by rw[dw];exact(((Below.refl _ _).alloc (Nat.le_refl _) _).alloc (by simp) _).alloc (by simp;omega) _
 obtain⟨q1,q2,q3⟩:=Iz (w:=w) (.cells #[.string room,.string aQ,.string ah,.bool false,.string key,.int .i64 k,.int .i64 i,.string t,.slice pk ks.length ck,.slice pl l.length cl,.slice pp prev.length cp,.slice pa aC.length ca,.int .i64 depth,.int .i64 ts,.string hash,.slice ps sigs.length cs] 28) (.cells #[.int .i64 0,.int .i64 0,.string ⟨#[]⟩,.slice none 0 0,.slice none 0 0] 25) (.cells #[.int .i64 5,.int .i64 0,.string ⟨#[]⟩,.slice none 0 0,.slice none 0 0] 25);rw[<-dw]at q1 q2 q3;have Ma:TI O (w.heap.size+3) (w.heap.size+2) 5 WB [] [] (.slice none 0 0) (.slice none 0 0) WB:=TI.start (by rw[dw];simp) (by omega) (fun k h=>by have:=hO k h;omega) q1;have HE:Hid (∀{XL:List ByteArray} {js:List J} {vk vl:Value} {W:World},TI O (w.heap.size+3) (w.heap.size+2) 5 WB XL js vk vl W->mF O W ⟨room,aQ,ah,false,key,⟨k,i,t,ks,l⟩,prev,aC,depth,ts,hash,sigs⟩ ⟨pk,ck,pl,cl,pp,cp,pa,ca,ps,cs⟩/\(∀k,O k->k<W.heap.size)/\(∀j v, [.string room,.string aQ,.string ah,.bool false,.string key,.int .i64 k,.int .i64 i,.string t,.slice pk ks.length ck,.slice pl l.length cl,.slice pp prev.length cp,.slice pa aC.length ca,.int .i64 depth,.int .i64 ts,.string hash,.slice ps sigs.length cs][j]?=some v->W.cell? ⟨w.heap.size,j,none⟩=some v)/\W.heap[w.heap.size+1]?=some (.cells #[.int .i64 0,.int .i64 0,.string ⟨#[]⟩,.slice none 0 0,.slice none 0 0] 25 (0,0))):=by
  intro XL js vk vl W h;have e1:=h.size;have e2:=h.F9;refine⟨hE.carry fun k hk=>⟨hk, ?_⟩,fun k hk=>by have:=hO k hk;omega,fun j v hj=> ?_, ?_⟩
  ·have:=hO k hk;exact(h.bf.block k (by omega) (by unfold One;omega)).trans (cK.block k this)
  ·exact aR ((h.bf.block _ (by omega) (by unfold One;omega)).trans q3) j v hj
  ·exact(h.bf.block _ (by omega) (by unfold One;omega)).trans q2
 have uQ:=(HE.out Ma).2.2.1 11 _ rfl;have r9:TI O (w.heap.size+3) (w.heap.size+2) 5 WB [] [] (.slice none 0 0) (.slice none 0 0) (((w.alloc (.cells #[.string room,.string aQ,.string ah,.bool false,.string key,.int .i64 k,.int .i64 i,.string t,.slice pk ks.length ck,.slice pl l.length cl,.slice pp prev.length cp,.slice pa aC.length ca,.int .i64 depth,.int .i64 ts,.string hash,.slice ps sigs.length cs] 28)).alloc (.cells #[.int .i64 0,.int .i64 0,.string ⟨#[]⟩,.slice none 0 0,.slice none 0 0] 25)).alloc (.cells #[.int .i64 5,.int .i64 0,.string ⟨#[]⟩,.slice none 0 0,.slice none 0 0] 25)):=by rw[<-dw];exact Ma
 rw[dw]at uQ;clear q1 q2 q3 dw hE Ma;go_enter Tryz.func33,Tryz.ntmps33;go_wp2_with(first
  | (go_at_call 66;refine(eB hu9 (bB _ _ aQ) (by simp) (by simp) _).mono ?_;rintro x wQ ⟨rfl,zbL,zbM,wP⟩
     obtain⟨q1,m1,c1,ET⟩:∃q m c,zbL=.slice q m c:=by
      obtain⟨q,c,h⟩:=eT wP.keys;exact⟨q,_,c,h⟩
     obtain⟨q2,m2,c2,vP⟩:∃q m c,zbM=.slice q m c:=by
      obtain⟨xs,bW,_⟩:=wP.dS;obtain⟨q,c,h⟩:=eT bW;exact⟨q,_,c,h⟩
     subst ET vP;have xA:wQ.heap[w.heap.size+1+1]?=some (.cells #[.int .i64 5,.int .i64 0,.string ⟨#[]⟩,.slice q1 m1 c1,.slice q2 m2 c2] 25 (0,0)):=wP.obj;have mo:=(HE.out wP).2.2.2;obtain⟨j0,j1,j2,j3,j4⟩:=ai xA;obtain⟨i0,i1,i2,i3,i4⟩:=ai mo;obtain⟨z0,z1,z2,z3,z4⟩:=aF mo)
  | (go_at_call 69;have _g:=Mc;refine(iL aQ _).mono ?_;rintro x v9 ⟨rfl,X6⟩
     have hu9:=Mc.more X6)
  | (go_at_call 66;refine(eB hu8 (kI _ _ ts) (by simp) (by simp) _).mono ?_;rintro x W9 ⟨rfl,vk9,vl9,Mc⟩
     have a1:=(HE.out Mc).2.2.1 1 _ rfl)
  | (go_at_call 68;have _g:=Fg;refine(oZ ts _).mono ?_;rintro x v8 ⟨rfl,rT⟩
     have hu8:=Fg.more rT)
  | (go_at_call 66;refine(eB hu7 hy7 (by simp) (by simp) _).mono ?_;rintro x W8 ⟨rfl,vk8,vl8,Fg⟩
     have xk:=(HE.out Fg).2.2.1 13 _ rfl)
  | (go_at_call 70;refine(Bc (HE.out Fh).1.sigs (HE.out Fh).2.1 h3).mono ?_;rintro x v7 ⟨⟨pk7,nk7,ck7,pl7,nl7,cl7,rfl,hj7⟩,Rc⟩
     have hu7:=Fh.more Rc;have hy7:=Fh.fresh Rc (ni hj7))
  | (go_at_call 66;refine(eB hu6 (bB _ _ ah) (by simp) (by simp) _).mono ?_;rintro x W7 ⟨rfl,vk7,vl7,Fh⟩
     have vQ:=(HE.out Fh).2.2.1 15 _ rfl)
  | (go_at_call 69;have _g:=Md;refine(iL ah _).mono ?_;rintro x v6 ⟨rfl,Bd⟩
     have hu6:=Md.more Bd)
  | (go_at_call 66;refine(eB hu5 (bB _ _ room) (by simp) (by simp) _).mono ?_;rintro x W6 ⟨rfl,vk6,vl6,Md⟩
     have a2:=(HE.out Md).2.2.1 2 _ rfl)
  | (go_at_call 69;have _g:=kZ;refine(iL room _).mono ?_;rintro x v5 ⟨rfl,nu⟩
     have hu5:=kZ.more nu)
  | (go_at_call 66;refine(eB hu4 zg (by simp) (by simp) _).mono ?_;rintro x W5 ⟨rfl,vk5,vl5,kZ⟩
     have a0:=(HE.out kZ).2.2.1 0 _ rfl)
  | (go_at_call 67;refine(rh (HE.out Be).1.prev (HE.out Be).2.1 h1).mono ?_;rintro x v4 ⟨⟨pl4,nl4,cl4,rfl,hj4⟩,dN⟩
     have hu4:=Be.more dN;have zg:=Be.fresh dN (ni hj4))
  | (go_at_call 66;refine(eB hu3 (bB _ _ hash) (by simp) (by simp) _).mono ?_;rintro x W4 ⟨rfl,vk4,vl4,Be⟩
     have zf:=(HE.out Be).2.2.1 10 _ rfl;have a3:=(HE.out Be).2.2.1 3 _ rfl)
  | (go_at_call 69;have _g:=Me;refine(iL hash _).mono ?_;rintro x v3 ⟨rfl,a_⟩
     have hu3:=Me.more a_)
  | (go_at_call 66;refine(eB hu2 (kI _ _ depth) (by simp) (by simp) _).mono ?_;rintro x W3 ⟨rfl,vk3,vl3,Me⟩
     have jk:=(HE.out Me).2.2.1 14 _ rfl)
  | (go_at_call 68;have _g:=Mf;refine(oZ depth _).mono ?_;rintro x v2 ⟨rfl,bM⟩
     have hu2:=Mf.more bM)
  | (go_at_call 66;refine(eB vE ((HE.out vE).1.cont.carry fun k hk=>⟨.inl hk,rfl⟩) (by simp) (by simp) _).mono ?_;rintro x W2 ⟨rfl,NI,nP,Mf⟩
     have a12:=(HE.out Mf).2.2.1 12 _ rfl)
  | (go_at_call 66;refine(eB hu0 hy0 (by simp) (by simp) _).mono ?_;rintro x W1 ⟨rfl,vk1,vl1,vE⟩
     have a5:=(HE.out vE).2.2.1 5 _ rfl;have a6:=(HE.out vE).2.2.1 6 _ rfl;have a7:=(HE.out vE).2.2.1 7 _ rfl;have a8:=(HE.out vE).2.2.1 8 _ rfl;have a9:=(HE.out vE).2.2.1 9 _ rfl)
  | (go_at_call 67;refine(rh (HE.out r9).1.aC (HE.out r9).2.1 h2).mono ?_;rintro x v0 ⟨⟨pl0,nl0,cl0,rfl,V8⟩,qO⟩
     have hu0:=r9.more qO;have hy0:=r9.fresh qO (ni V8)))
 have h5:=aK mo (.int .i64 5) (.int .i64 0) (.string ⟨#[]⟩) (.slice q1 m1 c1) (.slice q2 m2 c2);have aX:aj (One (w.heap.size+1)) wQ _:=aJ wQ (w.heap.size+1) (.int .i64 5) (.int .i64 0) (.string ⟨#[]⟩) (.slice q1 m1 c1) (.slice q2 m2 c2);unfold bF at h5 aX;obtain⟨k0,k1,k2,k3,k4⟩:=ai h5;refine bodyPost_ret (v:=.agg #[.int .i64 5,.int .i64 0,.string ⟨#[]⟩,.slice q1 m1 c1,.slice q2 m2 c2]) (by simp[results,Tryz.results33,go_sem,k0,k1,k2,k3,k4]) rfl ?_;obtain⟨r1,r2⟩:=wP.end hO cK aX;exact⟨⟨_,_,_,_,_,_,rfl,r1⟩,r2⟩
structure kM(w:World):Prop where
 pow:Ra w.heap.size w
 utf:Pb w.heap.size w
theorem kM.below{w w':World}(h:kM w)(hb:Below w.heap.size w w'):kM w':=⟨fun w2 h2=>h.pow w2 (ae hb h2),h.utf.below hb⟩
structure Qb(room aQ ah:ByteArray)(st:Bool)(key:ByteArray)(k i:Int)(t:ByteArray)(ks:List ByteArray)(l:List J)(prev aC:List ByteArray)(depth ts:Int)(hash:ByteArray)(sigs:List (ByteArray×ByteArray))(pk:Option Addr)(ck:Nat)(pl:Option Addr)(cl:Nat)(pp:Option Addr)(cp:Nat)(pa:Option Addr)(ca:Nat)(ps:Option Addr)(cs:Nat)(w:World):Prop where
 cells:∀W,Below (w.alloc (.cells #[.string room,.string aQ,.string ah,.bool st,.string key,.int .i64 k,.int .i64 i,.string t,.slice pk ks.length ck,.slice pl l.length cl,.slice pp prev.length cp,.slice pa aC.length ca,.int .i64 depth,.int .i64 ts,.string hash,.slice ps sigs.length cs] 28)).heap.size (w.alloc (.cells #[.string room,.string aQ,.string ah,.bool st,.string key,.int .i64 k,.int .i64 i,.string t,.slice pk ks.length ck,.slice pl l.length cl,.slice pp prev.length cp,.slice pa aC.length ca,.int .i64 depth,.int .i64 ts,.string hash,.slice ps sigs.length cs] 28)) W->∀j v, [.string room,.string aQ,.string ah,.bool st,.string key,.int .i64 k,.int .i64 i,.string t,.slice pk ks.length ck,.slice pl l.length cl,.slice pp prev.length cp,.slice pa aC.length ca,.int .i64 depth,.int .i64 ts,.string hash,.slice ps sigs.length cs][j]?=some v->W.cell? ⟨w.heap.size,j,none⟩=some v
 below:Below w.heap.size w (w.alloc (.cells #[.string room,.string aQ,.string ah,.bool st,.string key,.int .i64 k,.int .i64 i,.string t,.slice pk ks.length ck,.slice pl l.length cl,.slice pp prev.length cp,.slice pa aC.length ca,.int .i64 depth,.int .i64 ts,.string hash,.slice ps sigs.length cs] 28))
 h0:∀W,Below (w.alloc (.cells #[.string room,.string aQ,.string ah,.bool st,.string key,.int .i64 k,.int .i64 i,.string t,.slice pk ks.length ck,.slice pl l.length cl,.slice pp prev.length cp,.slice pa aC.length ca,.int .i64 depth,.int .i64 ts,.string hash,.slice ps sigs.length cs] 28)).heap.size (w.alloc (.cells #[.string room,.string aQ,.string ah,.bool st,.string key,.int .i64 k,.int .i64 i,.string t,.slice pk ks.length ck,.slice pl l.length cl,.slice pp prev.length cp,.slice pa aC.length ca,.int .i64 depth,.int .i64 ts,.string hash,.slice ps sigs.length cs] 28)) W->Calls Tryz.prog 57 #[.agg #[.string room,.string aQ,.string ah,.bool st,.string key,.int .i64 k,.int .i64 i,.string t,.slice pk ks.length ck,.slice pl l.length cl,.slice pp prev.length cp,.slice pa aC.length ca,.int .i64 depth,.int .i64 ts,.string hash,.slice ps sigs.length cs]] W fun x w'=>x=.returned (.bool (fJ ⟨room,aQ,ah,st,key,⟨k,i,t,ks,l⟩,prev,aC,depth,ts,hash,sigs⟩))/\Below W.heap.size W w'
 h1:∀W,Below (w.alloc (.cells #[.string room,.string aQ,.string ah,.bool st,.string key,.int .i64 k,.int .i64 i,.string t,.slice pk ks.length ck,.slice pl l.length cl,.slice pp prev.length cp,.slice pa aC.length ca,.int .i64 depth,.int .i64 ts,.string hash,.slice ps sigs.length cs] 28)).heap.size (w.alloc (.cells #[.string room,.string aQ,.string ah,.bool st,.string key,.int .i64 k,.int .i64 i,.string t,.slice pk ks.length ck,.slice pl l.length cl,.slice pp prev.length cp,.slice pa aC.length ca,.int .i64 depth,.int .i64 ts,.string hash,.slice ps sigs.length cs] 28)) W->Calls Tryz.prog 58 #[.agg #[.string room,.string aQ,.string ah,.bool st,.string key,.int .i64 k,.int .i64 i,.string t,.slice pk ks.length ck,.slice pl l.length cl,.slice pp prev.length cp,.slice pa aC.length ca,.int .i64 depth,.int .i64 ts,.string hash,.slice ps sigs.length cs]] W fun x w'=>x=.returned (.bool (ig ⟨room,aQ,ah,st,key,⟨k,i,t,ks,l⟩,prev,aC,depth,ts,hash,sigs⟩))/\Below W.heap.size W w'
 h2:∀W,Below (w.alloc (.cells #[.string room,.string aQ,.string ah,.bool st,.string key,.int .i64 k,.int .i64 i,.string t,.slice pk ks.length ck,.slice pl l.length cl,.slice pp prev.length cp,.slice pa aC.length ca,.int .i64 depth,.int .i64 ts,.string hash,.slice ps sigs.length cs] 28)).heap.size (w.alloc (.cells #[.string room,.string aQ,.string ah,.bool st,.string key,.int .i64 k,.int .i64 i,.string t,.slice pk ks.length ck,.slice pl l.length cl,.slice pp prev.length cp,.slice pa aC.length ca,.int .i64 depth,.int .i64 ts,.string hash,.slice ps sigs.length cs] 28)) W->Calls Tryz.prog 59 #[.agg #[.int .i64 k,.int .i64 i,.string t,.slice pk ks.length ck,.slice pl l.length cl]] W fun x w'=>x=.returned (.bool (fq ⟨k,i,t,ks,l⟩))/\Below W.heap.size W w'
 h3:∀W,Below (w.alloc (.cells #[.string room,.string aQ,.string ah,.bool st,.string key,.int .i64 k,.int .i64 i,.string t,.slice pk ks.length ck,.slice pl l.length cl,.slice pp prev.length cp,.slice pa aC.length ca,.int .i64 depth,.int .i64 ts,.string hash,.slice ps sigs.length cs] 28)).heap.size (w.alloc (.cells #[.string room,.string aQ,.string ah,.bool st,.string key,.int .i64 k,.int .i64 i,.string t,.slice pk ks.length ck,.slice pl l.length cl,.slice pp prev.length cp,.slice pa aC.length ca,.int .i64 depth,.int .i64 ts,.string hash,.slice ps sigs.length cs] 28)) W->Calls Tryz.prog 60 #[.slice pp prev.length cp,.int .i64 20] W fun x w'=>x=.returned (.bool (bU 20 prev))/\Below W.heap.size W w'
 h4:∀W,Below (w.alloc (.cells #[.string room,.string aQ,.string ah,.bool st,.string key,.int .i64 k,.int .i64 i,.string t,.slice pk ks.length ck,.slice pl l.length cl,.slice pp prev.length cp,.slice pa aC.length ca,.int .i64 depth,.int .i64 ts,.string hash,.slice ps sigs.length cs] 28)).heap.size (w.alloc (.cells #[.string room,.string aQ,.string ah,.bool st,.string key,.int .i64 k,.int .i64 i,.string t,.slice pk ks.length ck,.slice pl l.length cl,.slice pp prev.length cp,.slice pa aC.length ca,.int .i64 depth,.int .i64 ts,.string hash,.slice ps sigs.length cs] 28)) W->Calls Tryz.prog 60 #[.slice pa aC.length ca,.int .i64 10] W fun x w'=>x=.returned (.bool (bU 10 aC))/\Below W.heap.size W w'
 h5:∀W,Below (w.alloc (.cells #[.string room,.string aQ,.string ah,.bool st,.string key,.int .i64 k,.int .i64 i,.string t,.slice pk ks.length ck,.slice pl l.length cl,.slice pp prev.length cp,.slice pa aC.length ca,.int .i64 depth,.int .i64 ts,.string hash,.slice ps sigs.length cs] 28)).heap.size (w.alloc (.cells #[.string room,.string aQ,.string ah,.bool st,.string key,.int .i64 k,.int .i64 i,.string t,.slice pk ks.length ck,.slice pl l.length cl,.slice pp prev.length cp,.slice pa aC.length ca,.int .i64 depth,.int .i64 ts,.string hash,.slice ps sigs.length cs] 28)) W->Calls Tryz.prog 61 #[.int .i64 depth,.int .i64 1099511627776] W fun x w'=>x=.returned (.bool (dQ depth 1099511627776))/\Below W.heap.size W w'
 h6:∀W,Below (w.alloc (.cells #[.string room,.string aQ,.string ah,.bool st,.string key,.int .i64 k,.int .i64 i,.string t,.slice pk ks.length ck,.slice pl l.length cl,.slice pp prev.length cp,.slice pa aC.length ca,.int .i64 depth,.int .i64 ts,.string hash,.slice ps sigs.length cs] 28)).heap.size (w.alloc (.cells #[.string room,.string aQ,.string ah,.bool st,.string key,.int .i64 k,.int .i64 i,.string t,.slice pk ks.length ck,.slice pl l.length cl,.slice pp prev.length cp,.slice pa aC.length ca,.int .i64 depth,.int .i64 ts,.string hash,.slice ps sigs.length cs] 28)) W->Calls Tryz.prog 61 #[.int .i64 ts,.int .i64 9007199254740991] W fun x w'=>x=.returned (.bool (dQ ts bK))/\Below W.heap.size W w'
 h7:∀W,Below (w.alloc (.cells #[.string room,.string aQ,.string ah,.bool st,.string key,.int .i64 k,.int .i64 i,.string t,.slice pk ks.length ck,.slice pl l.length cl,.slice pp prev.length cp,.slice pa aC.length ca,.int .i64 depth,.int .i64 ts,.string hash,.slice ps sigs.length cs] 28)).heap.size (w.alloc (.cells #[.string room,.string aQ,.string ah,.bool st,.string key,.int .i64 k,.int .i64 i,.string t,.slice pk ks.length ck,.slice pl l.length cl,.slice pp prev.length cp,.slice pa aC.length ca,.int .i64 depth,.int .i64 ts,.string hash,.slice ps sigs.length cs] 28)) W->Calls Tryz.prog 62 #[.string hash] W fun x w'=>x=.returned (.bool (iH hash))/\Below W.heap.size W w'
 h8:∀W,Below (w.alloc (.cells #[.string room,.string aQ,.string ah,.bool st,.string key,.int .i64 k,.int .i64 i,.string t,.slice pk ks.length ck,.slice pl l.length cl,.slice pp prev.length cp,.slice pa aC.length ca,.int .i64 depth,.int .i64 ts,.string hash,.slice ps sigs.length cs] 28)).heap.size (w.alloc (.cells #[.string room,.string aQ,.string ah,.bool st,.string key,.int .i64 k,.int .i64 i,.string t,.slice pk ks.length ck,.slice pl l.length cl,.slice pp prev.length cp,.slice pa aC.length ca,.int .i64 depth,.int .i64 ts,.string hash,.slice ps sigs.length cs] 28)) W->Calls Tryz.prog 63 #[.slice ps sigs.length cs] W fun x w'=>x=.returned (.bool (di sigs))/\Below W.heap.size W w'
theorem Qc(room aQ ah:ByteArray)(st:Bool)(key:ByteArray)(k i:Int)(t:ByteArray)(ks:List ByteArray)(l:List J)(prev aC:List ByteArray)(depth ts:Int)(hash:ByteArray)(sigs:List (ByteArray×ByteArray))(pk:Option Addr)(ck:Nat)(pl:Option Addr)(cl:Nat)(pp:Option Addr)(cp:Nat)(pa:Option Addr)(ca:Nat)(ps:Option Addr)(cs:Nat)(w:World)(X:Qb room aQ ah st key k i t ks l prev aC depth ts hash sigs pk ck pl cl pp cp pa ca ps cs w)(e0:fJ ⟨room,aQ,ah,st,key,⟨k,i,t,ks,l⟩,prev,aC,depth,ts,hash,sigs⟩=false):
    Calls Tryz.prog 31 #[.agg #[.string room,.string aQ,.string ah,.bool st,.string key,.int .i64 k,.int .i64 i,.string t,.slice pk ks.length ck,.slice pl l.length cl,.slice pp prev.length cp,.slice pa aC.length ca,.int .i64 depth,.int .i64 ts,.string hash,.slice ps sigs.length cs]] w fun x w'=>x=.returned (.bool (aO ⟨room,aQ,ah,st,key,⟨k,i,t,ks,l⟩,prev,aC,depth,ts,hash,sigs⟩))/\Below w.heap.size w w':=by
 have HS:Hid (aO ⟨room,aQ,ah,st,key,⟨k,i,t,ks,l⟩,prev,aC,depth,ts,hash,sigs⟩=false):=by
  show _=_
  unfold aO;simp only[e0];simp
 have H0:=X.h0 _ (Below.refl _ _);rw[e0]at H0;have HC:=X.cells;have rO:Hid (Below w.heap.size w (w.alloc (.cells #[.string room,.string aQ,.string ah,.bool st,.string key,.int .i64 k,.int .i64 i,.string t,.slice pk ks.length ck,.slice pl l.length cl,.slice pp prev.length cp,.slice pa aC.length ca,.int .i64 depth,.int .i64 ts,.string hash,.slice ps sigs.length cs] 28))):=X.below;have GC:Hid _:=HC;clear X HC e0;go_enter Tryz.func31,Tryz.ntmps31;go_wp2_with(first
  | (go_at_call 57;refine H0.mono ?_;rintro x w0 ⟨rfl,qO⟩
     have g0:=qO))
 go_ret;exact⟨av HS.out.symm,ae rO.out g0⟩
theorem Qd(room aQ ah:ByteArray)(st:Bool)(key:ByteArray)(k i:Int)(t:ByteArray)(ks:List ByteArray)(l:List J)(prev aC:List ByteArray)(depth ts:Int)(hash:ByteArray)(sigs:List (ByteArray×ByteArray))(pk:Option Addr)(ck:Nat)(pl:Option Addr)(cl:Nat)(pp:Option Addr)(cp:Nat)(pa:Option Addr)(ca:Nat)(ps:Option Addr)(cs:Nat)(w:World)(X:Qb room aQ ah st key k i t ks l prev aC depth ts hash sigs pk ck pl cl pp cp pa ca ps cs w)(e0:fJ ⟨room,aQ,ah,st,key,⟨k,i,t,ks,l⟩,prev,aC,depth,ts,hash,sigs⟩=true)(e1:ig ⟨room,aQ,ah,st,key,⟨k,i,t,ks,l⟩,prev,aC,depth,ts,hash,sigs⟩=false):
    Calls Tryz.prog 31 #[.agg #[.string room,.string aQ,.string ah,.bool st,.string key,.int .i64 k,.int .i64 i,.string t,.slice pk ks.length ck,.slice pl l.length cl,.slice pp prev.length cp,.slice pa aC.length ca,.int .i64 depth,.int .i64 ts,.string hash,.slice ps sigs.length cs]] w fun x w'=>x=.returned (.bool (aO ⟨room,aQ,ah,st,key,⟨k,i,t,ks,l⟩,prev,aC,depth,ts,hash,sigs⟩))/\Below w.heap.size w w':=by
 have HS:Hid (aO ⟨room,aQ,ah,st,key,⟨k,i,t,ks,l⟩,prev,aC,depth,ts,hash,sigs⟩=false):=by
  show _=_
  unfold aO;simp only[e0,e1];simp
 have H0:=X.h0 _ (Below.refl _ _);rw[e0]at H0;have H1:=X.h1;rw[e1]at H1;have HC:=X.cells;have rO:Hid (Below w.heap.size w (w.alloc (.cells #[.string room,.string aQ,.string ah,.bool st,.string key,.int .i64 k,.int .i64 i,.string t,.slice pk ks.length ck,.slice pl l.length cl,.slice pp prev.length cp,.slice pa aC.length ca,.int .i64 depth,.int .i64 ts,.string hash,.slice ps sigs.length cs] 28))):=X.below;have G1:Hid _:=H1;have GC:Hid _:=HC;clear X HC e0 e1 H1;go_enter Tryz.func31,Tryz.ntmps31;go_wp2_with(first
  | (go_at_call 58;refine k1.mono ?_;rintro x w1 ⟨rfl,bI⟩
     have g1:=ae g0 bI)
  | (go_at_call 57;refine H0.mono ?_;rintro x w0 ⟨rfl,qO⟩
     have g0:=qO;have k1:=G1.out w0 g0;have CK:=GC.out w0 g0 0 _ rfl;have CL:=GC.out w0 g0 1 _ rfl;have CO:=GC.out w0 g0 2 _ rfl;have CP:=GC.out w0 g0 3 _ rfl;have CQ:=GC.out w0 g0 4 _ rfl;have CR:=GC.out w0 g0 5 _ rfl;have CS:=GC.out w0 g0 6 _ rfl;have CU:=GC.out w0 g0 7 _ rfl;have CV:=GC.out w0 g0 8 _ rfl;have CW:=GC.out w0 g0 9 _ rfl;have uR:=GC.out w0 g0 10 _ rfl;have uS:=GC.out w0 g0 11 _ rfl;have uT:=GC.out w0 g0 12 _ rfl;have uU:=GC.out w0 g0 13 _ rfl;have uV:=GC.out w0 g0 14 _ rfl;have uW:=GC.out w0 g0 15 _ rfl))
 go_ret;exact⟨av HS.out.symm,ae rO.out g1⟩
theorem Qe(room aQ ah:ByteArray)(st:Bool)(key:ByteArray)(k i:Int)(t:ByteArray)(ks:List ByteArray)(l:List J)(prev aC:List ByteArray)(depth ts:Int)(hash:ByteArray)(sigs:List (ByteArray×ByteArray))(pk:Option Addr)(ck:Nat)(pl:Option Addr)(cl:Nat)(pp:Option Addr)(cp:Nat)(pa:Option Addr)(ca:Nat)(ps:Option Addr)(cs:Nat)(w:World)(X:Qb room aQ ah st key k i t ks l prev aC depth ts hash sigs pk ck pl cl pp cp pa ca ps cs w)(e0:fJ ⟨room,aQ,ah,st,key,⟨k,i,t,ks,l⟩,prev,aC,depth,ts,hash,sigs⟩=true)(e1:ig ⟨room,aQ,ah,st,key,⟨k,i,t,ks,l⟩,prev,aC,depth,ts,hash,sigs⟩=true)(e2:fq ⟨k,i,t,ks,l⟩=false):
    Calls Tryz.prog 31 #[.agg #[.string room,.string aQ,.string ah,.bool st,.string key,.int .i64 k,.int .i64 i,.string t,.slice pk ks.length ck,.slice pl l.length cl,.slice pp prev.length cp,.slice pa aC.length ca,.int .i64 depth,.int .i64 ts,.string hash,.slice ps sigs.length cs]] w fun x w'=>x=.returned (.bool (aO ⟨room,aQ,ah,st,key,⟨k,i,t,ks,l⟩,prev,aC,depth,ts,hash,sigs⟩))/\Below w.heap.size w w':=by
 have HS:Hid (aO ⟨room,aQ,ah,st,key,⟨k,i,t,ks,l⟩,prev,aC,depth,ts,hash,sigs⟩=false):=by
  show _=_
  unfold aO;simp only[e0,e1,e2];simp
 have H0:=X.h0 _ (Below.refl _ _);rw[e0]at H0;have H1:=X.h1;rw[e1]at H1;have H2:=X.h2;rw[e2]at H2;have HC:=X.cells;have rO:Hid (Below w.heap.size w (w.alloc (.cells #[.string room,.string aQ,.string ah,.bool st,.string key,.int .i64 k,.int .i64 i,.string t,.slice pk ks.length ck,.slice pl l.length cl,.slice pp prev.length cp,.slice pa aC.length ca,.int .i64 depth,.int .i64 ts,.string hash,.slice ps sigs.length cs] 28))):=X.below;have G1:Hid _:=H1;have G2:Hid _:=H2;have GC:Hid _:=HC;clear X HC e0 e1 e2 H1 H2;go_enter Tryz.func31,Tryz.ntmps31;go_wp2_with(first
  | (go_at_call 59;refine k2.mono ?_;rintro x w2 ⟨rfl,bM⟩
     have g2:=ae g1 bM)
  | (go_at_call 58;refine k1.mono ?_;rintro x w1 ⟨rfl,bI⟩
     have g1:=ae g0 bI;have k2:=G2.out w1 g1;have Fj:=GC.out w1 g1 5 _ rfl;have Fp:=GC.out w1 g1 6 _ rfl;have Fq:=GC.out w1 g1 7 _ rfl;have Fs:=GC.out w1 g1 8 _ rfl;have Fu:=GC.out w1 g1 9 _ rfl)
  | (go_at_call 57;refine H0.mono ?_;rintro x w0 ⟨rfl,qO⟩
     have g0:=qO;have k1:=G1.out w0 g0;have CK:=GC.out w0 g0 0 _ rfl;have CL:=GC.out w0 g0 1 _ rfl;have CO:=GC.out w0 g0 2 _ rfl;have CP:=GC.out w0 g0 3 _ rfl;have CQ:=GC.out w0 g0 4 _ rfl;have CR:=GC.out w0 g0 5 _ rfl;have CS:=GC.out w0 g0 6 _ rfl;have CU:=GC.out w0 g0 7 _ rfl;have CV:=GC.out w0 g0 8 _ rfl;have CW:=GC.out w0 g0 9 _ rfl;have uR:=GC.out w0 g0 10 _ rfl;have uS:=GC.out w0 g0 11 _ rfl;have uT:=GC.out w0 g0 12 _ rfl;have uU:=GC.out w0 g0 13 _ rfl;have uV:=GC.out w0 g0 14 _ rfl;have uW:=GC.out w0 g0 15 _ rfl))
 go_ret;exact⟨av HS.out.symm,ae rO.out g2⟩
theorem Qf(room aQ ah:ByteArray)(st:Bool)(key:ByteArray)(k i:Int)(t:ByteArray)(ks:List ByteArray)(l:List J)(prev aC:List ByteArray)(depth ts:Int)(hash:ByteArray)(sigs:List (ByteArray×ByteArray))(pk:Option Addr)(ck:Nat)(pl:Option Addr)(cl:Nat)(pp:Option Addr)(cp:Nat)(pa:Option Addr)(ca:Nat)(ps:Option Addr)(cs:Nat)(w:World)(X:Qb room aQ ah st key k i t ks l prev aC depth ts hash sigs pk ck pl cl pp cp pa ca ps cs w)(e0:fJ ⟨room,aQ,ah,st,key,⟨k,i,t,ks,l⟩,prev,aC,depth,ts,hash,sigs⟩=true)(e1:ig ⟨room,aQ,ah,st,key,⟨k,i,t,ks,l⟩,prev,aC,depth,ts,hash,sigs⟩=true)(e2:fq ⟨k,i,t,ks,l⟩=true)(e3:bU 20 prev=false):
    Calls Tryz.prog 31 #[.agg #[.string room,.string aQ,.string ah,.bool st,.string key,.int .i64 k,.int .i64 i,.string t,.slice pk ks.length ck,.slice pl l.length cl,.slice pp prev.length cp,.slice pa aC.length ca,.int .i64 depth,.int .i64 ts,.string hash,.slice ps sigs.length cs]] w fun x w'=>x=.returned (.bool (aO ⟨room,aQ,ah,st,key,⟨k,i,t,ks,l⟩,prev,aC,depth,ts,hash,sigs⟩))/\Below w.heap.size w w':=by
 have HS:Hid (aO ⟨room,aQ,ah,st,key,⟨k,i,t,ks,l⟩,prev,aC,depth,ts,hash,sigs⟩=false):=by
  show _=_
  unfold aO;simp only[e0,e1,e2,e3];simp
 have H0:=X.h0 _ (Below.refl _ _);rw[e0]at H0;have H1:=X.h1;rw[e1]at H1;have H2:=X.h2;rw[e2]at H2;have H3:=X.h3;rw[e3]at H3;have HC:=X.cells;have rO:Hid (Below w.heap.size w (w.alloc (.cells #[.string room,.string aQ,.string ah,.bool st,.string key,.int .i64 k,.int .i64 i,.string t,.slice pk ks.length ck,.slice pl l.length cl,.slice pp prev.length cp,.slice pa aC.length ca,.int .i64 depth,.int .i64 ts,.string hash,.slice ps sigs.length cs] 28))):=X.below;have G1:Hid _:=H1;have G2:Hid _:=H2;have G3:Hid _:=H3;have GC:Hid _:=HC;clear X HC e0 e1 e2 e3 H1 H2 H3;go_enter Tryz.func31,Tryz.ntmps31;go_wp2_with(first
  | (go_at_call 60;refine k3.mono ?_;rintro x w3 ⟨rfl,a_⟩
     have g3:=ae g2 a_)
  | (go_at_call 59;refine k2.mono ?_;rintro x w2 ⟨rfl,bM⟩
     have g2:=ae g1 bM;have k3:=G3.out w2 g2;have yI:=GC.out w2 g2 10 _ rfl)
  | (go_at_call 58;refine k1.mono ?_;rintro x w1 ⟨rfl,bI⟩
     have g1:=ae g0 bI;have k2:=G2.out w1 g1;have Fj:=GC.out w1 g1 5 _ rfl;have Fp:=GC.out w1 g1 6 _ rfl;have Fq:=GC.out w1 g1 7 _ rfl;have Fs:=GC.out w1 g1 8 _ rfl;have Fu:=GC.out w1 g1 9 _ rfl)
  | (go_at_call 57;refine H0.mono ?_;rintro x w0 ⟨rfl,qO⟩
     have g0:=qO;have k1:=G1.out w0 g0;have CK:=GC.out w0 g0 0 _ rfl;have CL:=GC.out w0 g0 1 _ rfl;have CO:=GC.out w0 g0 2 _ rfl;have CP:=GC.out w0 g0 3 _ rfl;have CQ:=GC.out w0 g0 4 _ rfl;have CR:=GC.out w0 g0 5 _ rfl;have CS:=GC.out w0 g0 6 _ rfl;have CU:=GC.out w0 g0 7 _ rfl;have CV:=GC.out w0 g0 8 _ rfl;have CW:=GC.out w0 g0 9 _ rfl;have uR:=GC.out w0 g0 10 _ rfl;have uS:=GC.out w0 g0 11 _ rfl;have uT:=GC.out w0 g0 12 _ rfl;have uU:=GC.out w0 g0 13 _ rfl;have uV:=GC.out w0 g0 14 _ rfl;have uW:=GC.out w0 g0 15 _ rfl))
 go_ret;exact⟨av HS.out.symm,ae rO.out g3⟩
theorem Qg(room aQ ah:ByteArray)(st:Bool)(key:ByteArray)(k i:Int)(t:ByteArray)(ks:List ByteArray)(l:List J)(prev aC:List ByteArray)(depth ts:Int)(hash:ByteArray)(sigs:List (ByteArray×ByteArray))(pk:Option Addr)(ck:Nat)(pl:Option Addr)(cl:Nat)(pp:Option Addr)(cp:Nat)(pa:Option Addr)(ca:Nat)(ps:Option Addr)(cs:Nat)(w:World)(X:Qb room aQ ah st key k i t ks l prev aC depth ts hash sigs pk ck pl cl pp cp pa ca ps cs w)(e0:fJ ⟨room,aQ,ah,st,key,⟨k,i,t,ks,l⟩,prev,aC,depth,ts,hash,sigs⟩=true)(e1:ig ⟨room,aQ,ah,st,key,⟨k,i,t,ks,l⟩,prev,aC,depth,ts,hash,sigs⟩=true)(e2:fq ⟨k,i,t,ks,l⟩=true)(e3:bU 20 prev=true)(e4:bU 10 aC=false):
    Calls Tryz.prog 31 #[.agg #[.string room,.string aQ,.string ah,.bool st,.string key,.int .i64 k,.int .i64 i,.string t,.slice pk ks.length ck,.slice pl l.length cl,.slice pp prev.length cp,.slice pa aC.length ca,.int .i64 depth,.int .i64 ts,.string hash,.slice ps sigs.length cs]] w fun x w'=>x=.returned (.bool (aO ⟨room,aQ,ah,st,key,⟨k,i,t,ks,l⟩,prev,aC,depth,ts,hash,sigs⟩))/\Below w.heap.size w w':=by
 have HS:Hid (aO ⟨room,aQ,ah,st,key,⟨k,i,t,ks,l⟩,prev,aC,depth,ts,hash,sigs⟩=false):=by
  show _=_
  unfold aO;simp only[e0,e1,e2,e3,e4];simp
 have H0:=X.h0 _ (Below.refl _ _);rw[e0]at H0;have H1:=X.h1;rw[e1]at H1;have H2:=X.h2;rw[e2]at H2;have H3:=X.h3;rw[e3]at H3;have H4:=X.h4;rw[e4]at H4;have HC:=X.cells;have rO:Hid (Below w.heap.size w (w.alloc (.cells #[.string room,.string aQ,.string ah,.bool st,.string key,.int .i64 k,.int .i64 i,.string t,.slice pk ks.length ck,.slice pl l.length cl,.slice pp prev.length cp,.slice pa aC.length ca,.int .i64 depth,.int .i64 ts,.string hash,.slice ps sigs.length cs] 28))):=X.below;have G1:Hid _:=H1;have G2:Hid _:=H2;have G3:Hid _:=H3;have G4:Hid _:=H4;have GC:Hid _:=HC;clear X HC e0 e1 e2 e3 e4 H1 H2 H3 H4;go_enter Tryz.func31,Tryz.ntmps31;go_wp2_with(first
  | (go_at_call 60;refine k4.mono ?_;rintro x w4 ⟨rfl,dN⟩
     have g4:=ae g3 dN)
  | (go_at_call 60;refine k3.mono ?_;rintro x w3 ⟨rfl,a_⟩
     have g3:=ae g2 a_;have k4:=G4.out w3 g3;have Bf:=GC.out w3 g3 11 _ rfl)
  | (go_at_call 59;refine k2.mono ?_;rintro x w2 ⟨rfl,bM⟩
     have g2:=ae g1 bM;have k3:=G3.out w2 g2;have yI:=GC.out w2 g2 10 _ rfl)
  | (go_at_call 58;refine k1.mono ?_;rintro x w1 ⟨rfl,bI⟩
     have g1:=ae g0 bI;have k2:=G2.out w1 g1;have Fj:=GC.out w1 g1 5 _ rfl;have Fp:=GC.out w1 g1 6 _ rfl;have Fq:=GC.out w1 g1 7 _ rfl;have Fs:=GC.out w1 g1 8 _ rfl;have Fu:=GC.out w1 g1 9 _ rfl)
  | (go_at_call 57;refine H0.mono ?_;rintro x w0 ⟨rfl,qO⟩
     have g0:=qO;have k1:=G1.out w0 g0;have CK:=GC.out w0 g0 0 _ rfl;have CL:=GC.out w0 g0 1 _ rfl;have CO:=GC.out w0 g0 2 _ rfl;have CP:=GC.out w0 g0 3 _ rfl;have CQ:=GC.out w0 g0 4 _ rfl;have CR:=GC.out w0 g0 5 _ rfl;have CS:=GC.out w0 g0 6 _ rfl;have CU:=GC.out w0 g0 7 _ rfl;have CV:=GC.out w0 g0 8 _ rfl;have CW:=GC.out w0 g0 9 _ rfl;have uR:=GC.out w0 g0 10 _ rfl;have uS:=GC.out w0 g0 11 _ rfl;have uT:=GC.out w0 g0 12 _ rfl;have uU:=GC.out w0 g0 13 _ rfl;have uV:=GC.out w0 g0 14 _ rfl;have uW:=GC.out w0 g0 15 _ rfl))
 go_ret;exact⟨av HS.out.symm,ae rO.out g4⟩
theorem Qh(room aQ ah:ByteArray)(st:Bool)(key:ByteArray)(k i:Int)(t:ByteArray)(ks:List ByteArray)(l:List J)(prev aC:List ByteArray)(depth ts:Int)(hash:ByteArray)(sigs:List (ByteArray×ByteArray))(pk:Option Addr)(ck:Nat)(pl:Option Addr)(cl:Nat)(pp:Option Addr)(cp:Nat)(pa:Option Addr)(ca:Nat)(ps:Option Addr)(cs:Nat)(w:World)(X:Qb room aQ ah st key k i t ks l prev aC depth ts hash sigs pk ck pl cl pp cp pa ca ps cs w)(e0:fJ ⟨room,aQ,ah,st,key,⟨k,i,t,ks,l⟩,prev,aC,depth,ts,hash,sigs⟩=true)(e1:ig ⟨room,aQ,ah,st,key,⟨k,i,t,ks,l⟩,prev,aC,depth,ts,hash,sigs⟩=true)(e2:fq ⟨k,i,t,ks,l⟩=true)(e3:bU 20 prev=true)(e4:bU 10 aC=true)(e5:dQ depth 1099511627776=false):
    Calls Tryz.prog 31 #[.agg #[.string room,.string aQ,.string ah,.bool st,.string key,.int .i64 k,.int .i64 i,.string t,.slice pk ks.length ck,.slice pl l.length cl,.slice pp prev.length cp,.slice pa aC.length ca,.int .i64 depth,.int .i64 ts,.string hash,.slice ps sigs.length cs]] w fun x w'=>x=.returned (.bool (aO ⟨room,aQ,ah,st,key,⟨k,i,t,ks,l⟩,prev,aC,depth,ts,hash,sigs⟩))/\Below w.heap.size w w':=by
 have HS:Hid (aO ⟨room,aQ,ah,st,key,⟨k,i,t,ks,l⟩,prev,aC,depth,ts,hash,sigs⟩=false):=by
  show _=_
  unfold aO;simp only[e0,e1,e2,e3,e4,e5];simp
 have H0:=X.h0 _ (Below.refl _ _);rw[e0]at H0;have H1:=X.h1;rw[e1]at H1;have H2:=X.h2;rw[e2]at H2;have H3:=X.h3;rw[e3]at H3;have H4:=X.h4;rw[e4]at H4;have H5:=X.h5;rw[e5]at H5;have HC:=X.cells;have rO:Hid (Below w.heap.size w (w.alloc (.cells #[.string room,.string aQ,.string ah,.bool st,.string key,.int .i64 k,.int .i64 i,.string t,.slice pk ks.length ck,.slice pl l.length cl,.slice pp prev.length cp,.slice pa aC.length ca,.int .i64 depth,.int .i64 ts,.string hash,.slice ps sigs.length cs] 28))):=X.below;have G1:Hid _:=H1;have G2:Hid _:=H2;have G3:Hid _:=H3;have G4:Hid _:=H4;have G5:Hid _:=H5;have GC:Hid _:=HC;clear X HC e0 e1 e2 e3 e4 e5 H1 H2 H3 H4 H5;go_enter Tryz.func31,Tryz.ntmps31;go_wp2_with(first
  | (go_at_call 61;refine k5.mono ?_;rintro x w5 ⟨rfl,nu⟩
     have g5:=ae g4 nu)
  | (go_at_call 60;refine k4.mono ?_;rintro x w4 ⟨rfl,dN⟩
     have g4:=ae g3 dN;have k5:=G5.out w4 g4;have D_:=GC.out w4 g4 12 _ rfl)
  | (go_at_call 60;refine k3.mono ?_;rintro x w3 ⟨rfl,a_⟩
     have g3:=ae g2 a_;have k4:=G4.out w3 g3;have Bf:=GC.out w3 g3 11 _ rfl)
  | (go_at_call 59;refine k2.mono ?_;rintro x w2 ⟨rfl,bM⟩
     have g2:=ae g1 bM;have k3:=G3.out w2 g2;have yI:=GC.out w2 g2 10 _ rfl)
  | (go_at_call 58;refine k1.mono ?_;rintro x w1 ⟨rfl,bI⟩
     have g1:=ae g0 bI;have k2:=G2.out w1 g1;have Fj:=GC.out w1 g1 5 _ rfl;have Fp:=GC.out w1 g1 6 _ rfl;have Fq:=GC.out w1 g1 7 _ rfl;have Fs:=GC.out w1 g1 8 _ rfl;have Fu:=GC.out w1 g1 9 _ rfl)
  | (go_at_call 57;refine H0.mono ?_;rintro x w0 ⟨rfl,qO⟩
     have g0:=qO;have k1:=G1.out w0 g0;have CK:=GC.out w0 g0 0 _ rfl;have CL:=GC.out w0 g0 1 _ rfl;have CO:=GC.out w0 g0 2 _ rfl;have CP:=GC.out w0 g0 3 _ rfl;have CQ:=GC.out w0 g0 4 _ rfl;have CR:=GC.out w0 g0 5 _ rfl;have CS:=GC.out w0 g0 6 _ rfl;have CU:=GC.out w0 g0 7 _ rfl;have CV:=GC.out w0 g0 8 _ rfl;have CW:=GC.out w0 g0 9 _ rfl;have uR:=GC.out w0 g0 10 _ rfl;have uS:=GC.out w0 g0 11 _ rfl;have uT:=GC.out w0 g0 12 _ rfl;have uU:=GC.out w0 g0 13 _ rfl;have uV:=GC.out w0 g0 14 _ rfl;have uW:=GC.out w0 g0 15 _ rfl))
 go_ret;exact⟨av HS.out.symm,ae rO.out g5⟩
theorem Qi(room aQ ah:ByteArray)(st:Bool)(key:ByteArray)(k i:Int)(t:ByteArray)(ks:List ByteArray)(l:List J)(prev aC:List ByteArray)(depth ts:Int)(hash:ByteArray)(sigs:List (ByteArray×ByteArray))(pk:Option Addr)(ck:Nat)(pl:Option Addr)(cl:Nat)(pp:Option Addr)(cp:Nat)(pa:Option Addr)(ca:Nat)(ps:Option Addr)(cs:Nat)(w:World)(X:Qb room aQ ah st key k i t ks l prev aC depth ts hash sigs pk ck pl cl pp cp pa ca ps cs w)(e0:fJ ⟨room,aQ,ah,st,key,⟨k,i,t,ks,l⟩,prev,aC,depth,ts,hash,sigs⟩=true)(e1:ig ⟨room,aQ,ah,st,key,⟨k,i,t,ks,l⟩,prev,aC,depth,ts,hash,sigs⟩=true)(e2:fq ⟨k,i,t,ks,l⟩=true)(e3:bU 20 prev=true)(e4:bU 10 aC=true)(e5:dQ depth 1099511627776=true)(e6:dQ ts bK=false):
    Calls Tryz.prog 31 #[.agg #[.string room,.string aQ,.string ah,.bool st,.string key,.int .i64 k,.int .i64 i,.string t,.slice pk ks.length ck,.slice pl l.length cl,.slice pp prev.length cp,.slice pa aC.length ca,.int .i64 depth,.int .i64 ts,.string hash,.slice ps sigs.length cs]] w fun x w'=>x=.returned (.bool (aO ⟨room,aQ,ah,st,key,⟨k,i,t,ks,l⟩,prev,aC,depth,ts,hash,sigs⟩))/\Below w.heap.size w w':=by
 have HS:Hid (aO ⟨room,aQ,ah,st,key,⟨k,i,t,ks,l⟩,prev,aC,depth,ts,hash,sigs⟩=false):=by
  show _=_
  unfold aO;simp only[e0,e1,e2,e3,e4,e5,e6];simp
 have H0:=X.h0 _ (Below.refl _ _);rw[e0]at H0;have H1:=X.h1;rw[e1]at H1;have H2:=X.h2;rw[e2]at H2;have H3:=X.h3;rw[e3]at H3;have H4:=X.h4;rw[e4]at H4;have H5:=X.h5;rw[e5]at H5;have H6:=X.h6;rw[e6]at H6;have HC:=X.cells;have rO:Hid (Below w.heap.size w (w.alloc (.cells #[.string room,.string aQ,.string ah,.bool st,.string key,.int .i64 k,.int .i64 i,.string t,.slice pk ks.length ck,.slice pl l.length cl,.slice pp prev.length cp,.slice pa aC.length ca,.int .i64 depth,.int .i64 ts,.string hash,.slice ps sigs.length cs] 28))):=X.below;have G1:Hid _:=H1;have G2:Hid _:=H2;have G3:Hid _:=H3;have G4:Hid _:=H4;have G5:Hid _:=H5;have G6:Hid _:=H6;have GC:Hid _:=HC;clear X HC e0 e1 e2 e3 e4 e5 e6 H1 H2 H3 H4 H5 H6;go_enter Tryz.func31,Tryz.ntmps31;go_wp2_with(first
  | (go_at_call 61;refine k6.mono ?_;rintro x w6 ⟨rfl,Bd⟩
     have g6:=ae g5 Bd)
  | (go_at_call 61;refine k5.mono ?_;rintro x w5 ⟨rfl,nu⟩
     have g5:=ae g4 nu;have k6:=G6.out w5 g5;have IB:=GC.out w5 g5 13 _ rfl)
  | (go_at_call 60;refine k4.mono ?_;rintro x w4 ⟨rfl,dN⟩
     have g4:=ae g3 dN;have k5:=G5.out w4 g4;have D_:=GC.out w4 g4 12 _ rfl)
  | (go_at_call 60;refine k3.mono ?_;rintro x w3 ⟨rfl,a_⟩
     have g3:=ae g2 a_;have k4:=G4.out w3 g3;have Bf:=GC.out w3 g3 11 _ rfl)
  | (go_at_call 59;refine k2.mono ?_;rintro x w2 ⟨rfl,bM⟩
     have g2:=ae g1 bM;have k3:=G3.out w2 g2;have yI:=GC.out w2 g2 10 _ rfl)
  | (go_at_call 58;refine k1.mono ?_;rintro x w1 ⟨rfl,bI⟩
     have g1:=ae g0 bI;have k2:=G2.out w1 g1;have Fj:=GC.out w1 g1 5 _ rfl;have Fp:=GC.out w1 g1 6 _ rfl;have Fq:=GC.out w1 g1 7 _ rfl;have Fs:=GC.out w1 g1 8 _ rfl;have Fu:=GC.out w1 g1 9 _ rfl)
  | (go_at_call 57;refine H0.mono ?_;rintro x w0 ⟨rfl,qO⟩
     have g0:=qO;have k1:=G1.out w0 g0;have CK:=GC.out w0 g0 0 _ rfl;have CL:=GC.out w0 g0 1 _ rfl;have CO:=GC.out w0 g0 2 _ rfl;have CP:=GC.out w0 g0 3 _ rfl;have CQ:=GC.out w0 g0 4 _ rfl;have CR:=GC.out w0 g0 5 _ rfl;have CS:=GC.out w0 g0 6 _ rfl;have CU:=GC.out w0 g0 7 _ rfl;have CV:=GC.out w0 g0 8 _ rfl;have CW:=GC.out w0 g0 9 _ rfl;have uR:=GC.out w0 g0 10 _ rfl;have uS:=GC.out w0 g0 11 _ rfl;have uT:=GC.out w0 g0 12 _ rfl;have uU:=GC.out w0 g0 13 _ rfl;have uV:=GC.out w0 g0 14 _ rfl;have uW:=GC.out w0 g0 15 _ rfl))
 go_ret;exact⟨av HS.out.symm,ae rO.out g6⟩
theorem Qj(room aQ ah:ByteArray)(st:Bool)(key:ByteArray)(k i:Int)(t:ByteArray)(ks:List ByteArray)(l:List J)(prev aC:List ByteArray)(depth ts:Int)(sigs:List (ByteArray×ByteArray))(pk:Option Addr)(ck:Nat)(pl:Option Addr)(cl:Nat)(pp:Option Addr)(cp:Nat)(pa:Option Addr)(ca:Nat)(ps:Option Addr)(cs:Nat)(w:World)(X:Qb room aQ ah st key k i t ks l prev aC depth ts ⟨#[]⟩ sigs pk ck pl cl pp cp pa ca ps cs w)(e0:fJ ⟨room,aQ,ah,st,key,⟨k,i,t,ks,l⟩,prev,aC,depth,ts,⟨#[]⟩,sigs⟩=true)(e1:ig ⟨room,aQ,ah,st,key,⟨k,i,t,ks,l⟩,prev,aC,depth,ts,⟨#[]⟩,sigs⟩=true)(e2:fq ⟨k,i,t,ks,l⟩=true)(e3:bU 20 prev=true)(e4:bU 10 aC=true)(e5:dQ depth 1099511627776=true)(e6:dQ ts bK=true)(e8:di sigs=false):
    Calls Tryz.prog 31 #[.agg #[.string room,.string aQ,.string ah,.bool st,.string key,.int .i64 k,.int .i64 i,.string t,.slice pk ks.length ck,.slice pl l.length cl,.slice pp prev.length cp,.slice pa aC.length ca,.int .i64 depth,.int .i64 ts,.string ⟨#[]⟩,.slice ps sigs.length cs]] w fun x w'=>x=.returned (.bool (aO ⟨room,aQ,ah,st,key,⟨k,i,t,ks,l⟩,prev,aC,depth,ts,⟨#[]⟩,sigs⟩))/\Below w.heap.size w w':=by
 have HS:Hid (aO ⟨room,aQ,ah,st,key,⟨k,i,t,ks,l⟩,prev,aC,depth,ts,⟨#[]⟩,sigs⟩=false):=by
  show _=_
  unfold aO;simp only[e0,e1,e2,e3,e4,e5,e6,e8];simp
 have H0:=X.h0 _ (Below.refl _ _);rw[e0]at H0;have H1:=X.h1;rw[e1]at H1;have H2:=X.h2;rw[e2]at H2;have H3:=X.h3;rw[e3]at H3;have H4:=X.h4;rw[e4]at H4;have H5:=X.h5;rw[e5]at H5;have H6:=X.h6;rw[e6]at H6;have H8:=X.h8;rw[e8]at H8;have HC:=X.cells;have rO:Hid (Below w.heap.size w (w.alloc (.cells #[.string room,.string aQ,.string ah,.bool st,.string key,.int .i64 k,.int .i64 i,.string t,.slice pk ks.length ck,.slice pl l.length cl,.slice pp prev.length cp,.slice pa aC.length ca,.int .i64 depth,.int .i64 ts,.string ⟨#[]⟩,.slice ps sigs.length cs] 28))):=X.below;have G1:Hid _:=H1;have G2:Hid _:=H2;have G3:Hid _:=H3;have G4:Hid _:=H4;have G5:Hid _:=H5;have G6:Hid _:=H6;have G8:Hid _:=H8;have GC:Hid _:=HC;clear X HC e0 e1 e2 e3 e4 e5 e6 e8 H1 H2 H3 H4 H5 H6 H8;go_enter Tryz.func31,Tryz.ntmps31;go_wp2_with(first
  | (go_at_call 63;refine k8.mono ?_;rintro x w8 ⟨rfl,rT⟩
     have g8:=ae g6 rT)
  | (go_at_call 61;refine k6.mono ?_;rintro x w6 ⟨rfl,Bd⟩
     have g6:=ae g5 Bd;have k8:=G8.out w6 g6;have Od:=GC.out w6 g6 14 _ rfl;have Oe:=GC.out w6 g6 15 _ rfl)
  | (go_at_call 61;refine k5.mono ?_;rintro x w5 ⟨rfl,nu⟩
     have g5:=ae g4 nu;have k6:=G6.out w5 g5;have IB:=GC.out w5 g5 13 _ rfl)
  | (go_at_call 60;refine k4.mono ?_;rintro x w4 ⟨rfl,dN⟩
     have g4:=ae g3 dN;have k5:=G5.out w4 g4;have D_:=GC.out w4 g4 12 _ rfl)
  | (go_at_call 60;refine k3.mono ?_;rintro x w3 ⟨rfl,a_⟩
     have g3:=ae g2 a_;have k4:=G4.out w3 g3;have Bf:=GC.out w3 g3 11 _ rfl)
  | (go_at_call 59;refine k2.mono ?_;rintro x w2 ⟨rfl,bM⟩
     have g2:=ae g1 bM;have k3:=G3.out w2 g2;have yI:=GC.out w2 g2 10 _ rfl)
  | (go_at_call 58;refine k1.mono ?_;rintro x w1 ⟨rfl,bI⟩
     have g1:=ae g0 bI;have k2:=G2.out w1 g1;have Fj:=GC.out w1 g1 5 _ rfl;have Fp:=GC.out w1 g1 6 _ rfl;have Fq:=GC.out w1 g1 7 _ rfl;have Fs:=GC.out w1 g1 8 _ rfl;have Fu:=GC.out w1 g1 9 _ rfl)
  | (go_at_call 57;refine H0.mono ?_;rintro x w0 ⟨rfl,qO⟩
     have g0:=qO;have k1:=G1.out w0 g0;have CK:=GC.out w0 g0 0 _ rfl;have CL:=GC.out w0 g0 1 _ rfl;have CO:=GC.out w0 g0 2 _ rfl;have CP:=GC.out w0 g0 3 _ rfl;have CQ:=GC.out w0 g0 4 _ rfl;have CR:=GC.out w0 g0 5 _ rfl;have CS:=GC.out w0 g0 6 _ rfl;have CU:=GC.out w0 g0 7 _ rfl;have CV:=GC.out w0 g0 8 _ rfl;have CW:=GC.out w0 g0 9 _ rfl;have uR:=GC.out w0 g0 10 _ rfl;have uS:=GC.out w0 g0 11 _ rfl;have uT:=GC.out w0 g0 12 _ rfl;have uU:=GC.out w0 g0 13 _ rfl;have uV:=GC.out w0 g0 14 _ rfl;have uW:=GC.out w0 g0 15 _ rfl))
 go_ret;exact⟨av HS.out.symm,ae rO.out g8⟩
theorem Qk(room aQ ah:ByteArray)(st:Bool)(key:ByteArray)(k i:Int)(t:ByteArray)(ks:List ByteArray)(l:List J)(prev aC:List ByteArray)(depth ts:Int)(sigs:List (ByteArray×ByteArray))(pk:Option Addr)(ck:Nat)(pl:Option Addr)(cl:Nat)(pp:Option Addr)(cp:Nat)(pa:Option Addr)(ca:Nat)(ps:Option Addr)(cs:Nat)(w:World)(X:Qb room aQ ah st key k i t ks l prev aC depth ts ⟨#[]⟩ sigs pk ck pl cl pp cp pa ca ps cs w)(e0:fJ ⟨room,aQ,ah,st,key,⟨k,i,t,ks,l⟩,prev,aC,depth,ts,⟨#[]⟩,sigs⟩=true)(e1:ig ⟨room,aQ,ah,st,key,⟨k,i,t,ks,l⟩,prev,aC,depth,ts,⟨#[]⟩,sigs⟩=true)(e2:fq ⟨k,i,t,ks,l⟩=true)(e3:bU 20 prev=true)(e4:bU 10 aC=true)(e5:dQ depth 1099511627776=true)(e6:dQ ts bK=true)(e8:di sigs=true):
    Calls Tryz.prog 31 #[.agg #[.string room,.string aQ,.string ah,.bool st,.string key,.int .i64 k,.int .i64 i,.string t,.slice pk ks.length ck,.slice pl l.length cl,.slice pp prev.length cp,.slice pa aC.length ca,.int .i64 depth,.int .i64 ts,.string ⟨#[]⟩,.slice ps sigs.length cs]] w fun x w'=>x=.returned (.bool (aO ⟨room,aQ,ah,st,key,⟨k,i,t,ks,l⟩,prev,aC,depth,ts,⟨#[]⟩,sigs⟩))/\Below w.heap.size w w':=by
 have HS:Hid (aO ⟨room,aQ,ah,st,key,⟨k,i,t,ks,l⟩,prev,aC,depth,ts,⟨#[]⟩,sigs⟩=true):=by
  show _=_
  unfold aO;simp only[e0,e1,e2,e3,e4,e5,e6,e8];simp;exact Or.inl rfl
 have H0:=X.h0 _ (Below.refl _ _);rw[e0]at H0;have H1:=X.h1;rw[e1]at H1;have H2:=X.h2;rw[e2]at H2;have H3:=X.h3;rw[e3]at H3;have H4:=X.h4;rw[e4]at H4;have H5:=X.h5;rw[e5]at H5;have H6:=X.h6;rw[e6]at H6;have H8:=X.h8;rw[e8]at H8;have HC:=X.cells;have rO:Hid (Below w.heap.size w (w.alloc (.cells #[.string room,.string aQ,.string ah,.bool st,.string key,.int .i64 k,.int .i64 i,.string t,.slice pk ks.length ck,.slice pl l.length cl,.slice pp prev.length cp,.slice pa aC.length ca,.int .i64 depth,.int .i64 ts,.string ⟨#[]⟩,.slice ps sigs.length cs] 28))):=X.below;have G1:Hid _:=H1;have G2:Hid _:=H2;have G3:Hid _:=H3;have G4:Hid _:=H4;have G5:Hid _:=H5;have G6:Hid _:=H6;have G8:Hid _:=H8;have GC:Hid _:=HC;clear X HC e0 e1 e2 e3 e4 e5 e6 e8 H1 H2 H3 H4 H5 H6 H8;go_enter Tryz.func31,Tryz.ntmps31;go_wp2_with(first
  | (go_at_call 63;refine k8.mono ?_;rintro x w8 ⟨rfl,rT⟩
     have g8:=ae g6 rT)
  | (go_at_call 61;refine k6.mono ?_;rintro x w6 ⟨rfl,Bd⟩
     have g6:=ae g5 Bd;have k8:=G8.out w6 g6;have Od:=GC.out w6 g6 14 _ rfl;have Oe:=GC.out w6 g6 15 _ rfl)
  | (go_at_call 61;refine k5.mono ?_;rintro x w5 ⟨rfl,nu⟩
     have g5:=ae g4 nu;have k6:=G6.out w5 g5;have IB:=GC.out w5 g5 13 _ rfl)
  | (go_at_call 60;refine k4.mono ?_;rintro x w4 ⟨rfl,dN⟩
     have g4:=ae g3 dN;have k5:=G5.out w4 g4;have D_:=GC.out w4 g4 12 _ rfl)
  | (go_at_call 60;refine k3.mono ?_;rintro x w3 ⟨rfl,a_⟩
     have g3:=ae g2 a_;have k4:=G4.out w3 g3;have Bf:=GC.out w3 g3 11 _ rfl)
  | (go_at_call 59;refine k2.mono ?_;rintro x w2 ⟨rfl,bM⟩
     have g2:=ae g1 bM;have k3:=G3.out w2 g2;have yI:=GC.out w2 g2 10 _ rfl)
  | (go_at_call 58;refine k1.mono ?_;rintro x w1 ⟨rfl,bI⟩
     have g1:=ae g0 bI;have k2:=G2.out w1 g1;have Fj:=GC.out w1 g1 5 _ rfl;have Fp:=GC.out w1 g1 6 _ rfl;have Fq:=GC.out w1 g1 7 _ rfl;have Fs:=GC.out w1 g1 8 _ rfl;have Fu:=GC.out w1 g1 9 _ rfl)
  | (go_at_call 57;refine H0.mono ?_;rintro x w0 ⟨rfl,qO⟩
     have g0:=qO;have k1:=G1.out w0 g0;have CK:=GC.out w0 g0 0 _ rfl;have CL:=GC.out w0 g0 1 _ rfl;have CO:=GC.out w0 g0 2 _ rfl;have CP:=GC.out w0 g0 3 _ rfl;have CQ:=GC.out w0 g0 4 _ rfl;have CR:=GC.out w0 g0 5 _ rfl;have CS:=GC.out w0 g0 6 _ rfl;have CU:=GC.out w0 g0 7 _ rfl;have CV:=GC.out w0 g0 8 _ rfl;have CW:=GC.out w0 g0 9 _ rfl;have uR:=GC.out w0 g0 10 _ rfl;have uS:=GC.out w0 g0 11 _ rfl;have uT:=GC.out w0 g0 12 _ rfl;have uU:=GC.out w0 g0 13 _ rfl;have uV:=GC.out w0 g0 14 _ rfl;have uW:=GC.out w0 g0 15 _ rfl))
 go_ret;exact⟨av HS.out.symm,ae rO.out g8⟩
theorem Ql(room aQ ah:ByteArray)(st:Bool)(key:ByteArray)(k i:Int)(t:ByteArray)(ks:List ByteArray)(l:List J)(prev aC:List ByteArray)(depth ts:Int)(hash:ByteArray)(sigs:List (ByteArray×ByteArray))(pk:Option Addr)(ck:Nat)(pl:Option Addr)(cl:Nat)(pp:Option Addr)(cp:Nat)(pa:Option Addr)(ca:Nat)(ps:Option Addr)(cs:Nat)(w:World)(X:Qb room aQ ah st key k i t ks l prev aC depth ts hash sigs pk ck pl cl pp cp pa ca ps cs w)(hh:hash.toList.isEmpty=false)(vZ:hash.size≠0)(e0:fJ ⟨room,aQ,ah,st,key,⟨k,i,t,ks,l⟩,prev,aC,depth,ts,hash,sigs⟩=true)(e1:ig ⟨room,aQ,ah,st,key,⟨k,i,t,ks,l⟩,prev,aC,depth,ts,hash,sigs⟩=true)(e2:fq ⟨k,i,t,ks,l⟩=true)(e3:bU 20 prev=true)(e4:bU 10 aC=true)(e5:dQ depth 1099511627776=true)(e6:dQ ts bK=true)(e7:iH hash=false):
    Calls Tryz.prog 31 #[.agg #[.string room,.string aQ,.string ah,.bool st,.string key,.int .i64 k,.int .i64 i,.string t,.slice pk ks.length ck,.slice pl l.length cl,.slice pp prev.length cp,.slice pa aC.length ca,.int .i64 depth,.int .i64 ts,.string hash,.slice ps sigs.length cs]] w fun x w'=>x=.returned (.bool (aO ⟨room,aQ,ah,st,key,⟨k,i,t,ks,l⟩,prev,aC,depth,ts,hash,sigs⟩))/\Below w.heap.size w w':=by
 have HS:Hid (aO ⟨room,aQ,ah,st,key,⟨k,i,t,ks,l⟩,prev,aC,depth,ts,hash,sigs⟩=false):=by
  show _=_
  unfold aO;simp only[e0,e1,e2,e3,e4,e5,e6,e7];simp[vZ]
 have H0:=X.h0 _ (Below.refl _ _);rw[e0]at H0;have H1:=X.h1;rw[e1]at H1;have H2:=X.h2;rw[e2]at H2;have H3:=X.h3;rw[e3]at H3;have H4:=X.h4;rw[e4]at H4;have H5:=X.h5;rw[e5]at H5;have H6:=X.h6;rw[e6]at H6;have H7:=X.h7;rw[e7]at H7;have HC:=X.cells;have rO:Hid (Below w.heap.size w (w.alloc (.cells #[.string room,.string aQ,.string ah,.bool st,.string key,.int .i64 k,.int .i64 i,.string t,.slice pk ks.length ck,.slice pl l.length cl,.slice pp prev.length cp,.slice pa aC.length ca,.int .i64 depth,.int .i64 ts,.string hash,.slice ps sigs.length cs] 28))):=X.below;have G1:Hid _:=H1;have G2:Hid _:=H2;have G3:Hid _:=H3;have G4:Hid _:=H4;have G5:Hid _:=H5;have G6:Hid _:=H6;have G7:Hid _:=H7;have GC:Hid _:=HC;clear X HC e0 e1 e2 e3 e4 e5 e6 e7 H1 H2 H3 H4 H5 H6 H7;clear vZ;go_enter Tryz.func31,Tryz.ntmps31;go_wp2_with(first
  | (go_at_call 62;refine k7.mono ?_;rintro x w7 ⟨rfl,Rc⟩
     have g7:=ae g6 Rc;have X7:=GC.out w7 g7 15 _ rfl)
  | (go_at_call 61;refine k6.mono ?_;rintro x w6 ⟨rfl,Bd⟩
     have g6:=ae g5 Bd;have k7:=G7.out w6 g6;have Od:=GC.out w6 g6 14 _ rfl;have Oe:=GC.out w6 g6 15 _ rfl)
  | (go_at_call 61;refine k5.mono ?_;rintro x w5 ⟨rfl,nu⟩
     have g5:=ae g4 nu;have k6:=G6.out w5 g5;have IB:=GC.out w5 g5 13 _ rfl)
  | (go_at_call 60;refine k4.mono ?_;rintro x w4 ⟨rfl,dN⟩
     have g4:=ae g3 dN;have k5:=G5.out w4 g4;have D_:=GC.out w4 g4 12 _ rfl)
  | (go_at_call 60;refine k3.mono ?_;rintro x w3 ⟨rfl,a_⟩
     have g3:=ae g2 a_;have k4:=G4.out w3 g3;have Bf:=GC.out w3 g3 11 _ rfl)
  | (go_at_call 59;refine k2.mono ?_;rintro x w2 ⟨rfl,bM⟩
     have g2:=ae g1 bM;have k3:=G3.out w2 g2;have yI:=GC.out w2 g2 10 _ rfl)
  | (go_at_call 58;refine k1.mono ?_;rintro x w1 ⟨rfl,bI⟩
     have g1:=ae g0 bI;have k2:=G2.out w1 g1;have Fj:=GC.out w1 g1 5 _ rfl;have Fp:=GC.out w1 g1 6 _ rfl;have Fq:=GC.out w1 g1 7 _ rfl;have Fs:=GC.out w1 g1 8 _ rfl;have Fu:=GC.out w1 g1 9 _ rfl)
  | (go_at_call 57;refine H0.mono ?_;rintro x w0 ⟨rfl,qO⟩
     have g0:=qO;have k1:=G1.out w0 g0;have CK:=GC.out w0 g0 0 _ rfl;have CL:=GC.out w0 g0 1 _ rfl;have CO:=GC.out w0 g0 2 _ rfl;have CP:=GC.out w0 g0 3 _ rfl;have CQ:=GC.out w0 g0 4 _ rfl;have CR:=GC.out w0 g0 5 _ rfl;have CS:=GC.out w0 g0 6 _ rfl;have CU:=GC.out w0 g0 7 _ rfl;have CV:=GC.out w0 g0 8 _ rfl;have CW:=GC.out w0 g0 9 _ rfl;have uR:=GC.out w0 g0 10 _ rfl;have uS:=GC.out w0 g0 11 _ rfl;have uT:=GC.out w0 g0 12 _ rfl;have uU:=GC.out w0 g0 13 _ rfl;have uV:=GC.out w0 g0 14 _ rfl;have uW:=GC.out w0 g0 15 _ rfl))
 go_ret;exact⟨av HS.out.symm,ae rO.out g7⟩
theorem Mh(room aQ ah:ByteArray)(st:Bool)(key:ByteArray)(k i:Int)(t:ByteArray)(ks:List ByteArray)(l:List J)(prev aC:List ByteArray)(depth ts:Int)(hash:ByteArray)(sigs:List (ByteArray×ByteArray))(pk:Option Addr)(ck:Nat)(pl:Option Addr)(cl:Nat)(pp:Option Addr)(cp:Nat)(pa:Option Addr)(ca:Nat)(ps:Option Addr)(cs:Nat)(w:World)(X:Qb room aQ ah st key k i t ks l prev aC depth ts hash sigs pk ck pl cl pp cp pa ca ps cs w)(hh:hash.toList.isEmpty=false)(vZ:hash.size≠0)(e0:fJ ⟨room,aQ,ah,st,key,⟨k,i,t,ks,l⟩,prev,aC,depth,ts,hash,sigs⟩=true)(e1:ig ⟨room,aQ,ah,st,key,⟨k,i,t,ks,l⟩,prev,aC,depth,ts,hash,sigs⟩=true)(e2:fq ⟨k,i,t,ks,l⟩=true)(e3:bU 20 prev=true)(e4:bU 10 aC=true)(e5:dQ depth 1099511627776=true)(e6:dQ ts bK=true)(e7:iH hash=true)(e8:di sigs=false):
    Calls Tryz.prog 31 #[.agg #[.string room,.string aQ,.string ah,.bool st,.string key,.int .i64 k,.int .i64 i,.string t,.slice pk ks.length ck,.slice pl l.length cl,.slice pp prev.length cp,.slice pa aC.length ca,.int .i64 depth,.int .i64 ts,.string hash,.slice ps sigs.length cs]] w fun x w'=>x=.returned (.bool (aO ⟨room,aQ,ah,st,key,⟨k,i,t,ks,l⟩,prev,aC,depth,ts,hash,sigs⟩))/\Below w.heap.size w w':=by
 have HS:Hid (aO ⟨room,aQ,ah,st,key,⟨k,i,t,ks,l⟩,prev,aC,depth,ts,hash,sigs⟩=false):=by
  show _=_
  unfold aO;simp only[e0,e1,e2,e3,e4,e5,e6,e7,e8];simp[vZ]
 have H0:=X.h0 _ (Below.refl _ _);rw[e0]at H0;have H1:=X.h1;rw[e1]at H1;have H2:=X.h2;rw[e2]at H2;have H3:=X.h3;rw[e3]at H3;have H4:=X.h4;rw[e4]at H4;have H5:=X.h5;rw[e5]at H5;have H6:=X.h6;rw[e6]at H6;have H7:=X.h7;rw[e7]at H7;have H8:=X.h8;rw[e8]at H8;have HC:=X.cells;have rO:Hid (Below w.heap.size w (w.alloc (.cells #[.string room,.string aQ,.string ah,.bool st,.string key,.int .i64 k,.int .i64 i,.string t,.slice pk ks.length ck,.slice pl l.length cl,.slice pp prev.length cp,.slice pa aC.length ca,.int .i64 depth,.int .i64 ts,.string hash,.slice ps sigs.length cs] 28))):=X.below;have G1:Hid _:=H1;have G2:Hid _:=H2;have G3:Hid _:=H3;have G4:Hid _:=H4;have G5:Hid _:=H5;have G6:Hid _:=H6;have G7:Hid _:=H7;have G8:Hid _:=H8;have GC:Hid _:=HC;clear X HC e0 e1 e2 e3 e4 e5 e6 e7 e8 H1 H2 H3 H4 H5 H6 H7 H8;clear vZ;go_enter Tryz.func31,Tryz.ntmps31;go_wp2_with(first
  | (go_at_call 63;refine k8.mono ?_;rintro x w8 ⟨rfl,rT⟩
     have g8:=ae g7 rT)
  | (go_at_call 62;refine k7.mono ?_;rintro x w7 ⟨rfl,Rc⟩
     have g7:=ae g6 Rc;have k8:=G8.out w7 g7;have X7:=GC.out w7 g7 15 _ rfl)
  | (go_at_call 61;refine k6.mono ?_;rintro x w6 ⟨rfl,Bd⟩
     have g6:=ae g5 Bd;have k7:=G7.out w6 g6;have Od:=GC.out w6 g6 14 _ rfl;have Oe:=GC.out w6 g6 15 _ rfl)
  | (go_at_call 61;refine k5.mono ?_;rintro x w5 ⟨rfl,nu⟩
     have g5:=ae g4 nu;have k6:=G6.out w5 g5;have IB:=GC.out w5 g5 13 _ rfl)
  | (go_at_call 60;refine k4.mono ?_;rintro x w4 ⟨rfl,dN⟩
     have g4:=ae g3 dN;have k5:=G5.out w4 g4;have D_:=GC.out w4 g4 12 _ rfl)
  | (go_at_call 60;refine k3.mono ?_;rintro x w3 ⟨rfl,a_⟩
     have g3:=ae g2 a_;have k4:=G4.out w3 g3;have Bf:=GC.out w3 g3 11 _ rfl)
  | (go_at_call 59;refine k2.mono ?_;rintro x w2 ⟨rfl,bM⟩
     have g2:=ae g1 bM;have k3:=G3.out w2 g2;have yI:=GC.out w2 g2 10 _ rfl)
  | (go_at_call 58;refine k1.mono ?_;rintro x w1 ⟨rfl,bI⟩
     have g1:=ae g0 bI;have k2:=G2.out w1 g1;have Fj:=GC.out w1 g1 5 _ rfl;have Fp:=GC.out w1 g1 6 _ rfl;have Fq:=GC.out w1 g1 7 _ rfl;have Fs:=GC.out w1 g1 8 _ rfl;have Fu:=GC.out w1 g1 9 _ rfl)
  | (go_at_call 57;refine H0.mono ?_;rintro x w0 ⟨rfl,qO⟩
     have g0:=qO;have k1:=G1.out w0 g0;have CK:=GC.out w0 g0 0 _ rfl;have CL:=GC.out w0 g0 1 _ rfl;have CO:=GC.out w0 g0 2 _ rfl;have CP:=GC.out w0 g0 3 _ rfl;have CQ:=GC.out w0 g0 4 _ rfl;have CR:=GC.out w0 g0 5 _ rfl;have CS:=GC.out w0 g0 6 _ rfl;have CU:=GC.out w0 g0 7 _ rfl;have CV:=GC.out w0 g0 8 _ rfl;have CW:=GC.out w0 g0 9 _ rfl;have uR:=GC.out w0 g0 10 _ rfl;have uS:=GC.out w0 g0 11 _ rfl;have uT:=GC.out w0 g0 12 _ rfl;have uU:=GC.out w0 g0 13 _ rfl;have uV:=GC.out w0 g0 14 _ rfl;have uW:=GC.out w0 g0 15 _ rfl))
 go_ret;exact⟨av HS.out.symm,ae rO.out g8⟩
theorem Mi(room aQ ah:ByteArray)(st:Bool)(key:ByteArray)(k i:Int)(t:ByteArray)(ks:List ByteArray)(l:List J)(prev aC:List ByteArray)(depth ts:Int)(hash:ByteArray)(sigs:List (ByteArray×ByteArray))(pk:Option Addr)(ck:Nat)(pl:Option Addr)(cl:Nat)(pp:Option Addr)(cp:Nat)(pa:Option Addr)(ca:Nat)(ps:Option Addr)(cs:Nat)(w:World)(X:Qb room aQ ah st key k i t ks l prev aC depth ts hash sigs pk ck pl cl pp cp pa ca ps cs w)(hh:hash.toList.isEmpty=false)(vZ:hash.size≠0)(e0:fJ ⟨room,aQ,ah,st,key,⟨k,i,t,ks,l⟩,prev,aC,depth,ts,hash,sigs⟩=true)(e1:ig ⟨room,aQ,ah,st,key,⟨k,i,t,ks,l⟩,prev,aC,depth,ts,hash,sigs⟩=true)(e2:fq ⟨k,i,t,ks,l⟩=true)(e3:bU 20 prev=true)(e4:bU 10 aC=true)(e5:dQ depth 1099511627776=true)(e6:dQ ts bK=true)(e7:iH hash=true)(e8:di sigs=true):
    Calls Tryz.prog 31 #[.agg #[.string room,.string aQ,.string ah,.bool st,.string key,.int .i64 k,.int .i64 i,.string t,.slice pk ks.length ck,.slice pl l.length cl,.slice pp prev.length cp,.slice pa aC.length ca,.int .i64 depth,.int .i64 ts,.string hash,.slice ps sigs.length cs]] w fun x w'=>x=.returned (.bool (aO ⟨room,aQ,ah,st,key,⟨k,i,t,ks,l⟩,prev,aC,depth,ts,hash,sigs⟩))/\Below w.heap.size w w':=by
 have HS:Hid (aO ⟨room,aQ,ah,st,key,⟨k,i,t,ks,l⟩,prev,aC,depth,ts,hash,sigs⟩=true):=by
  show _=_
  unfold aO;simp only[e0,e1,e2,e3,e4,e5,e6,e7,e8];simp[vZ]
 have H0:=X.h0 _ (Below.refl _ _);rw[e0]at H0;have H1:=X.h1;rw[e1]at H1;have H2:=X.h2;rw[e2]at H2;have H3:=X.h3;rw[e3]at H3;have H4:=X.h4;rw[e4]at H4;have H5:=X.h5;rw[e5]at H5;have H6:=X.h6;rw[e6]at H6;have H7:=X.h7;rw[e7]at H7;have H8:=X.h8;rw[e8]at H8;have HC:=X.cells;have rO:Hid (Below w.heap.size w (w.alloc (.cells #[.string room,.string aQ,.string ah,.bool st,.string key,.int .i64 k,.int .i64 i,.string t,.slice pk ks.length ck,.slice pl l.length cl,.slice pp prev.length cp,.slice pa aC.length ca,.int .i64 depth,.int .i64 ts,.string hash,.slice ps sigs.length cs] 28))):=X.below;have G1:Hid _:=H1;have G2:Hid _:=H2;have G3:Hid _:=H3;have G4:Hid _:=H4;have G5:Hid _:=H5;have G6:Hid _:=H6;have G7:Hid _:=H7;have G8:Hid _:=H8;have GC:Hid _:=HC;clear X HC e0 e1 e2 e3 e4 e5 e6 e7 e8 H1 H2 H3 H4 H5 H6 H7 H8;clear vZ;go_enter Tryz.func31,Tryz.ntmps31;go_wp2_with(first
  | (go_at_call 63;refine k8.mono ?_;rintro x w8 ⟨rfl,rT⟩
     have g8:=ae g7 rT)
  | (go_at_call 62;refine k7.mono ?_;rintro x w7 ⟨rfl,Rc⟩
     have g7:=ae g6 Rc;have k8:=G8.out w7 g7;have X7:=GC.out w7 g7 15 _ rfl)
  | (go_at_call 61;refine k6.mono ?_;rintro x w6 ⟨rfl,Bd⟩
     have g6:=ae g5 Bd;have k7:=G7.out w6 g6;have Od:=GC.out w6 g6 14 _ rfl;have Oe:=GC.out w6 g6 15 _ rfl)
  | (go_at_call 61;refine k5.mono ?_;rintro x w5 ⟨rfl,nu⟩
     have g5:=ae g4 nu;have k6:=G6.out w5 g5;have IB:=GC.out w5 g5 13 _ rfl)
  | (go_at_call 60;refine k4.mono ?_;rintro x w4 ⟨rfl,dN⟩
     have g4:=ae g3 dN;have k5:=G5.out w4 g4;have D_:=GC.out w4 g4 12 _ rfl)
  | (go_at_call 60;refine k3.mono ?_;rintro x w3 ⟨rfl,a_⟩
     have g3:=ae g2 a_;have k4:=G4.out w3 g3;have Bf:=GC.out w3 g3 11 _ rfl)
  | (go_at_call 59;refine k2.mono ?_;rintro x w2 ⟨rfl,bM⟩
     have g2:=ae g1 bM;have k3:=G3.out w2 g2;have yI:=GC.out w2 g2 10 _ rfl)
  | (go_at_call 58;refine k1.mono ?_;rintro x w1 ⟨rfl,bI⟩
     have g1:=ae g0 bI;have k2:=G2.out w1 g1;have Fj:=GC.out w1 g1 5 _ rfl;have Fp:=GC.out w1 g1 6 _ rfl;have Fq:=GC.out w1 g1 7 _ rfl;have Fs:=GC.out w1 g1 8 _ rfl;have Fu:=GC.out w1 g1 9 _ rfl)
  | (go_at_call 57;refine H0.mono ?_;rintro x w0 ⟨rfl,qO⟩
     have g0:=qO;have k1:=G1.out w0 g0;have CK:=GC.out w0 g0 0 _ rfl;have CL:=GC.out w0 g0 1 _ rfl;have CO:=GC.out w0 g0 2 _ rfl;have CP:=GC.out w0 g0 3 _ rfl;have CQ:=GC.out w0 g0 4 _ rfl;have CR:=GC.out w0 g0 5 _ rfl;have CS:=GC.out w0 g0 6 _ rfl;have CU:=GC.out w0 g0 7 _ rfl;have CV:=GC.out w0 g0 8 _ rfl;have CW:=GC.out w0 g0 9 _ rfl;have uR:=GC.out w0 g0 10 _ rfl;have uS:=GC.out w0 g0 11 _ rfl;have uT:=GC.out w0 g0 12 _ rfl;have uU:=GC.out w0 g0 13 _ rfl;have uV:=GC.out w0 g0 14 _ rfl;have uW:=GC.out w0 g0 15 _ rfl))
 go_ret;exact⟨av HS.out.symm,ae rO.out g8⟩
end Go.Proofs.YtegcgbjjpgjnmaaGreatDoor

/- A part. -/
import Derived.Test.YtegcgbjjpgjnmaaGreatDoorE09
set_option maxRecDepth 100000
set_option maxHeartbeats 16000000
namespace Go.Proofs.YtegcgbjjpgjnmaaGreatDoor
open Go.RowKit
def Reads(d:Nat):Prop:=∀(w:World) (R p:Nat) (s:ByteArray) (e l deep:Int),eQ w R s p e l->short s->p<=s.size->deep=13 - (d:Int)→
 Calls Tryz.prog 115 #[.pointer (some ⟨R,0,none⟩),.int .i64 deep] w fun x w'=>wy w w' R s (value (ints s) d p) x
abbrev zJ:Obj:=.cells #[.int .i64 0,.int .i64 0,.string ⟨#[]⟩,.slice none 0 0,.slice none 0 0] 25
abbrev lJ:Obj:=.cells #[.int .i64 4,.int .i64 0,.string ⟨#[]⟩,.slice none 0 0,.slice none 0 0] 25
abbrev XJ(w:World)(R p:Nat):World:=((w.setCell ⟨R,1,none⟩ (.int .i64 ((p:Int)+1))).alloc zJ).alloc lJ
theorem Sd(w:World)(R p:Nat):aj (One R) w (XJ w R p):=((eQ.setAt w R (p+1)).alloc _).alloc _
theorem LI.start(w:World)(R p:Nat)(hR:R<w.heap.size):LI (w.heap.size+2) R w.heap.size (XJ w R p) [] (.slice none 0 0) (XJ w R p):=by
 refine⟨?_, ?_,Cv.nil _ _,aj.refl _ _,by simp,by omega,hR⟩
 ·have:=heap_alloc_new ((w.setCell ⟨R,1,none⟩ (.int .i64 ((p:Int)+1))).alloc zJ) lJ;rw[show((w.setCell ⟨R,1,none⟩ (.int .i64 ((p:Int)+1))).alloc zJ).heap.size=w.heap.size+1 by simp]at this;exact this
 ·rw[Below.heap_alloc _ _ _ (by simp)];have:=heap_alloc_new (w.setCell ⟨R,1,none⟩ (.int .i64 ((p:Int)+1))) zJ;rw[show(w.setCell ⟨R,1,none⟩ (.int .i64 ((p:Int)+1))).heap.size=w.heap.size by simp]at this;exact this
theorem LI.end{w W5 wr:World}{R p:Nat}{dz:List J}{vl:Value}(h:LI (w.heap.size+2) R w.heap.size (XJ w R p) dz vl wr)(hk:aj (One w.heap.size) wr W5):aj (One R) w W5:=by
 have k1:aj (One R) w wr:=(Sd w R p).trans h.bf fun i hi h'=>by
  rcases h' with h'| h'
  ·exact h'
  ·omega
 exact k1.trans hk fun i hi h'=>by unfold One at h';omega
theorem LI.ok{w W5 wr:World}{R p:Nat}{dz:List J}{vl:Value}(h:LI (w.heap.size+2) R w.heap.size (XJ w R p) dz vl wr)(hk:aj (One w.heap.size) wr W5):
    ∃q c,vl=.slice q dz.length c/\isJ (fB w W5) W5 (.mk 4 0 aH [] dz) [.int .i64 4,.int .i64 0,.string aH,.slice none 0 0,.slice q dz.length c]:=by
 obtain⟨xs,h1,h2⟩:=h.dS;obtain⟨q,c,e,hc,hj⟩:=qV h1 h2;refine⟨q,c,e, ?_⟩;unfold isJ;refine⟨none,0,q,c,rfl,jT.nil _ _,hc,hj.carry fun k iK=> ?_⟩;have hs:=hk.size
 rcases iK with iK| iK
 ·exact⟨⟨by have:=iK.1;omega,by have:=iK.2.1;omega⟩,hk.block k iK.2.1 (by unfold One;have:=iK.1;omega)⟩
 ·exact⟨⟨by omega,by omega⟩,hk.block k iK.2 (by unfold One;omega)⟩
theorem fH{w:World}{B e size n:Nat}{v:Value}{xs:List Value}(h:w.ownsRow B e size v n xs):∃q n c,v=.slice q n c:=by
 rcases h.2 with⟨h',h0⟩| ⟨g',qb,cur,h',_⟩
 ·exact⟨_,_,_,h'⟩
 ·exact⟨_,_,_,h'⟩
theorem ug{W:World}{n:Nat}(h:W.heap.size=n){t:TypeId}{y0 y1 y2 y3 y4:Value}:∀j u, [y0,y1,y2,y3,y4][j]?=some u->(W.alloc (.cells #[y0,y1,y2,y3,y4] t)).cell? ((⟨n,0,none⟩:Addr).add j)=some u:=by
 subst h;exact ft _ _ _ _ _ _ _
theorem EU{B R b:Nat}{WA w3 w4:World}{dz:List J}{vl:Value}{y:J}{cs:List Value}(h:LI B R b WA dz vl w3)(hj:isJ (fB w3 w4) w4 y cs)(o:Obj):isJ (XI B vl (w4.alloc o)) (w4.alloc o) y cs:=by
 have hs:=h.size;obtain⟨xs,h1,h2⟩:=h.dS;refine hj.carry fun k iK=>⟨⟨by have:=iK.1;omega,by have:=iK.2;simp;omega,fun e=> ?_⟩,Below.heap_alloc _ _ _ iK.2⟩;have:=(aM h1 k e).2;have:=iK.1;omega
theorem Az{B R b p:Nat}{WA W W2:World}{dz:List J}{vl:Value}{s:ByteArray}{e l:Int}{n:Nat}{xs:List Value}{o:Obj}(h:LI B R b WA dz vl W)(hr:eQ W R s p e l)(h1:W.ownsRow B 25 5 vl n xs)
    (hg:(W.alloc o).grownBy W2 vl.ownBlock) (il:Value):eQ (W2.setCell ⟨b+1,4,none⟩ il) R s p e l:=by
 have bJ:=h.lt;have hrb:=h.rb;have h2:eQ W2 R s p e l:=(bP hg hr.lt fun e=>by have:=(aM h1 _ e).1;omega).trans hr;exact h2.bf (aj.setCell (S:=One (b+1)) (aj.refl _ W2) (p:=⟨b+1,4,none⟩) (fun _=>(rfl:b+1=b+1)) il) (by unfold One;omega)
theorem KR{k i:Int}{t:ByteArray}{pk pl:Option Addr}{nk ck nl cl:Nat}:∀u∈ [Value.int .i64 k,.int .i64 i,.string t,.slice pk nk ck,.slice pl nl cl],u.oneCell'=true:=by
 intro u hu;simp only[List.mem_cons,List.not_mem_nil,or_false]at hu
 rcases hu with rfl| rfl| rfl| rfl| rfl<;>rfl
theorem Sg{d:Nat}(V:Reads d){w:World}{R p:Nat}{s:ByteArray}{e l deep:Int}(hr:eQ w R s p e l)(hs:short s)(hp:p<s.size)(kT:deep=12 - (d:Int))(hd:d<=12):
    Calls Tryz.prog 142 #[.pointer (some ⟨R,0,none⟩),.int .i64 deep] w fun x w'=>wy w w' R s (lu (ints s) (value (ints s) d) p) x:=by
 have fI:=hs;unfold short at fI;have hR:=hr.lt;have Cm:0<=deep:=by omega
 have qB:deep<=12:=by omega
 have HD:Hid (deep=12 - (d:Int)):=kT;clear kT;have c1:=hr.c1;have f1:=hr.fz 1;have Q6:eQ (XJ w R p) R s (p+1) e l:=(hr.at (p+1)).bf (S:=fun _=>False) (((aj.refl _ _).alloc _).alloc _) (fun h=>h);have ZJ:=LI.start w R p hR;have yY:=fu (t:=ints s) (p:=p+1) (by rw[ax];exact hp);rw[ax]at yY;unfold XJ zJ lJ at Q6
 by_cases UZ:ag (ints s) (aG (ints s) (p+1))=93
 ·have HL:Hid (lu (ints s) (value (ints s) d) p=.ok (.mk 4 0 aH [] []) (aG (ints s) (p+1)+1)):=by unfold lu;rw[if_pos UZ];rfl
  go_enter Tryz.func142,Tryz.ntmps142;go_wp2_with(first
   | (go_at_call 114;refine(bC Q6 hs hp).mono ?_;rintro x w2 ⟨rfl,⟨⟨e2,l2,qR⟩,iX⟩⟩)
   | (go_at_call 167;refine(jE qR (by omega) 93 UZ).mono ?_;rintro x w3 ⟨rfl,⟨⟨e3,l3,gJ⟩,eY⟩⟩
      have wH:=(ZJ.one iX).one eY;obtain⟨j0,j1,j2,j3,j4⟩:=ai wH.obj;obtain⟨i0,i1,i2,i3,i4⟩:=ai wH.res;obtain⟨z0,z1,z2,z3,z4⟩:=aF wH.res))
  have h5:=aK wH.res (.int .i64 4) (.int .i64 0) (.string ⟨#[]⟩) (.slice none 0 0) (.slice none 0 0);have aX:aj (One w.heap.size) w3 _:=aJ w3 w.heap.size (.int .i64 4) (.int .i64 0) (.string ⟨#[]⟩) (.slice none 0 0) (.slice none 0 0);unfold bF at h5 aX;obtain⟨k0,k1,k2,k3,k4⟩:=ai h5;refine bodyPost_ret (v:=.tuple #[.agg #[.int .i64 4,.int .i64 0,.string ⟨#[]⟩,.slice none 0 0,.slice none 0 0],.bool true]) (by simp[results,Tryz.results142,go_sem,k0,k1,k2,k3,k4]) rfl ?_;rw[HL.out];exact⟨⟨_,_,_,_,_,_,_,_,_,rfl,mP _ _ 4 0 aH⟩,⟨_,_,gJ.bf aX (fun h=>by unfold One at h;omega)⟩,wH.end aX⟩
 ·have HL:Hid (lu (ints s) (value (ints s) d) p=listL (ints s) (value (ints s) d) (s.size+1) (aG (ints s) (p+1)) []):=by unfold lu;rw[if_neg UZ,ax];rfl
  go_enter Tryz.func142,Tryz.ntmps142;go_wp2_with(first
   | (go_at_call 114;refine(bC Q6 hs hp).mono ?_;rintro x w2 ⟨rfl,⟨⟨e2,l2,qR⟩,iX⟩⟩)
   | (go_at_call 167;refine(iW qR 93 UZ).mono ?_;rintro x w' ⟨rfl,rfl⟩))
  have zaZ:=ZJ.one iX
  go_loopw [8] (fun _ wr=>∃(q m:Nat) (dz:List J) (vl:Value),q<=s.size/\s.size<q+m/\dz.length<=q/\listL (ints s) (value (ints s) d) m q dz=lu (ints s) (value (ints s) d) p/\LI (w.heap.size+2) R w.heap.size (XJ w R p) dz vl wr/\∃e l,eQ wr R s q e l) (fun _ wr=>s.size - posOf R wr)
  case atStart=>exact⟨_,s.size+1, [],_,yY,by omega,by simp,HL.out.symm,zaZ,_,_,qR⟩
  case round=>
   clear zaZ iX qR HL ZJ Q6 c1 f1;obtain⟨q,m,dz,vl,hq,hm,VK,hx,hli,e1,l1,kg⟩:=hrel;have bI:=fu (t:=ints s) (p:=q) (by rw[ax];exact hq);have qO:=gP (ints s) q;rw[ax]at bI;have mZ:=pW (ints s) d (aG (ints s) q) (by rw[ax];exact bI);have hV:=fun(wv:World) (e l:Int) (h:eQ wv R s (aG (ints s) q) e l)=>V wv R (aG (ints s) q) s e l (deep+1) h hs bI (by have:=HD.out;omega);obtain⟨m,rfl⟩:∃m',m=m'+1:=⟨m - 1,by omega⟩;have HX:Hid (listL (ints s) (value (ints s) d) (m+1) q dz=lu (ints s) (value (ints s) d) p):=hx;clear hx;unfold listL at HX;have O4:=gG kg
   cases hv:value (ints s) d (aG (ints s) q)with
   | bad er la=>
    rw[hv]at HX hV;go_wp2_with(first
     | (go_at_call 114;refine(bC kg hs hq).mono ?_;rintro x w3 ⟨rfl,⟨⟨e3,l3,gJ⟩,eY⟩⟩)
     | (go_at_call 115;refine(hV _ _ _ gJ).mono ?_;rintro x w4 ⟨⟨kv,iv,tv,rfl⟩,⟨q4,F4⟩,uF⟩
        unfold flat;have oM:=((hli.one eY).one uF).alloc (.cells #[.int .i64 kv,.int .i64 iv,.string tv,.slice none 0 0,.slice none 0 0] 25);have y_:eQ (w4.alloc (.cells #[.int .i64 kv,.int .i64 iv,.string tv,.slice none 0 0,.slice none 0 0] 25)) R s q4 er la:=F4.bf (S:=fun _=>False) ((aj.refl _ _).alloc _) (fun h=>h);obtain⟨i0,i1,i2,i3,i4⟩:=ai oM.res;obtain⟨z0,z1,z2,z3,z4⟩:=aF oM.res))
    have h5:=aK oM.res (.int .i64 0) (.int .i64 0) (.string ⟨#[]⟩) (.slice none 0 0) (.slice none 0 0);have aX:aj (One w.heap.size) (w4.alloc (.cells #[.int .i64 kv,.int .i64 iv,.string tv,.slice none 0 0,.slice none 0 0] 25)) _:=aJ (w4.alloc (.cells #[.int .i64 kv,.int .i64 iv,.string tv,.slice none 0 0,.slice none 0 0] 25)) w.heap.size (.int .i64 0) (.int .i64 0) (.string ⟨#[]⟩) (.slice none 0 0) (.slice none 0 0);unfold bF at h5 aX;obtain⟨k0,k1,k2,k3,k4⟩:=ai h5;refine bodyPost_ret (v:=.tuple #[.agg #[.int .i64 0,.int .i64 0,.string ⟨#[]⟩,.slice none 0 0,.slice none 0 0],.bool false]) (by simp[results,Tryz.results142,go_sem,k0,k1,k2,k3,k4]) rfl ?_;rw[<-HX.out];exact⟨⟨0,0,aH,rfl⟩,⟨_,y_.bf aX (fun h=>by unfold One at h;omega)⟩,oM.end aX⟩
   | ok y qy=>
    rw[hv]at HX hV mZ;have HX:Hid ((if ag (ints s) (aG (ints s) qy)=93 then .ok (.mk 4 0 aH [] (dz++ [y])) (aG (ints s) qy+1)else if ag (ints s) (aG (ints s) qy)=44 then listL (ints s) (value (ints s) d) m (aG (ints s) qy+1) (dz++ [y])else .bad 11 (aG (ints s) qy))=lu (ints s) (value (ints s) d) p):=HX;have Hf:=mZ.2;have zdY:=mZ.1;rw[ax]at Hf;have bM:=fu (t:=ints s) (p:=qy) (by rw[ax];exact Hf);rw[ax]at bM;have a_:=gP (ints s) qy;clear mZ
    by_cases h9:ag (ints s) (aG (ints s) qy)=93
    ·rw[if_pos h9]at HX;go_wp2_with(first
      | (go_at_call 114;refine(bC Dy hs Hf).mono ?_;rintro x w6 ⟨rfl,⟨⟨e6,l6,rR⟩,o7⟩⟩)
      | (go_at_call 114;refine(bC kg hs hq).mono ?_;rintro x w3 ⟨rfl,⟨⟨e3,l3,gJ⟩,eY⟩⟩)
      | (go_at_call 115;refine(hV _ _ _ gJ).mono ?_;rintro x w4 ⟨⟨kv,iv,tv,pk,nk,ck,pl,nl,cl,rfl,hj⟩,⟨e4,l4,F4⟩,uF⟩
         have wH:=hli.one eY;have Po:=EU wH hj (.cells #[.int .i64 kv,.int .i64 iv,.string tv,.slice pk nk ck,.slice pl nl cl] 25);have oM:=(wH.one uF).alloc (.cells #[.int .i64 kv,.int .i64 iv,.string tv,.slice pk nk ck,.slice pl nl cl] 25);have y_:eQ (w4.alloc (.cells #[.int .i64 kv,.int .i64 iv,.string tv,.slice pk nk ck,.slice pl nl cl] 25)) R s qy e4 l4:=F4.bf (S:=fun _=>False) ((aj.refl _ _).alloc _) (fun h=>h);have XK:=oM.c4;obtain⟨xs,bW,eZ⟩:=oM.dS)
      | (at_builtin;refine qY rfl _ _ 23 rfl (w.heap.size+2) 25 (.agg #[.int .i64 0,.int .i64 0,.string ⟨#[]⟩,.slice none 0 0,.slice none 0 0]) 5 80 Tryz.underlying23 Tryz.dR rfl (by decide) (by decide) vl dz.length xs rfl (bW.alloc _) _ [.int .i64 kv,.int .i64 iv,.string tv,.slice pk nk ck,.slice pl nl cl] rfl rfl (ug (by simp)) KR (by omega) (by have:=oM.size;simp at this ⊢;omega) ?_
         intro nP W5 dC lh jd;obtain⟨q5,n5,c5,vC⟩:∃q n c,nP=.slice q n c:=fH dC;subst vC;have AA:((w4.alloc (.cells #[.int .i64 kv,.int .i64 iv,.string tv,.slice pk nk ck,.slice pl nl cl] 25)).alloc (.cells #[.int .i64 kv,.int .i64 iv,.string tv,.slice pk nk ck,.slice pl nl cl] 25)).grownBy W5 vl.ownBlock:=lh;have yC:(Value.slice q5 n5 c5).ownBlock=vl.ownBlock\/ (Value.slice q5 n5 c5).ownBlock=some ((w4.alloc (.cells #[.int .i64 kv,.int .i64 iv,.string tv,.slice pk nk ck,.slice pl nl cl] 25)).alloc (.cells #[.int .i64 kv,.int .i64 iv,.string tv,.slice pk nk ck,.slice pl nl cl] 25)).heap.size:=jd;obtain⟨e5,f5,Si⟩:=oM.push bW eZ Po dC AA yC;have Dy:=Az oM y_ bW AA (.slice q5 n5 c5);clear dC lh jd AA yC)
      | (go_at_call 167;refine(jE rR (by omega) 93 h9).mono ?_;rintro x w7 ⟨rfl,⟨⟨e7,l7,xC⟩,pK⟩⟩
         have xD:=(Si.one o7).one pK;obtain⟨i0,i1,i2,i3,i4⟩:=ai xD.res;obtain⟨z0,z1,z2,z3,z4⟩:=aF xD.res;obtain⟨j0,j1,j2,j3,j4⟩:=ai xD.obj))
     have h5:=aK xD.res (.int .i64 4) (.int .i64 0) (.string ⟨#[]⟩) (.slice none 0 0) (.slice q5 n5 c5);have aX:aj (One w.heap.size) w7 _:=aJ w7 w.heap.size (.int .i64 4) (.int .i64 0) (.string ⟨#[]⟩) (.slice none 0 0) (.slice q5 n5 c5);unfold bF at h5 aX;obtain⟨k0,k1,k2,k3,k4⟩:=ai h5;refine bodyPost_ret (v:=.tuple #[.agg #[.int .i64 4,.int .i64 0,.string ⟨#[]⟩,.slice none 0 0,.slice q5 n5 c5],.bool true]) (by simp[results,Tryz.results142,go_sem,k0,k1,k2,k3,k4]) rfl ?_;rw[<-HX.out];obtain⟨qv,cv,hE,hJ⟩:=xD.ok aX
     cases hE
     exact⟨⟨_,_,_,_,_,_,_,_,_,rfl,hJ⟩,⟨_,_,xC.bf aX (fun h=>by unfold One at h;omega)⟩,xD.end aX⟩
    ·rw[if_neg h9]at HX
     by_cases AB:ag (ints s) (aG (ints s) qy)=44
     ·rw[if_pos AB]at HX;have bJ:=bq (t:=ints s) (p:=aG (ints s) qy) (by rw[AB];decide);rw[ax]at bJ;go_wp2_with(first
       | (go_at_call 114;refine(bC Dy hs Hf).mono ?_;rintro x w6 ⟨rfl,⟨⟨e6,l6,rR⟩,o7⟩⟩)
       | (go_at_call 114;refine(bC kg hs hq).mono ?_;rintro x w3 ⟨rfl,⟨⟨e3,l3,gJ⟩,eY⟩⟩)
       | (go_at_call 115;refine(hV _ _ _ gJ).mono ?_;rintro x w4 ⟨⟨kv,iv,tv,pk,nk,ck,pl,nl,cl,rfl,hj⟩,⟨e4,l4,F4⟩,uF⟩
          have wH:=hli.one eY;have Po:=EU wH hj (.cells #[.int .i64 kv,.int .i64 iv,.string tv,.slice pk nk ck,.slice pl nl cl] 25);have oM:=(wH.one uF).alloc (.cells #[.int .i64 kv,.int .i64 iv,.string tv,.slice pk nk ck,.slice pl nl cl] 25);have y_:eQ (w4.alloc (.cells #[.int .i64 kv,.int .i64 iv,.string tv,.slice pk nk ck,.slice pl nl cl] 25)) R s qy e4 l4:=F4.bf (S:=fun _=>False) ((aj.refl _ _).alloc _) (fun h=>h);have XK:=oM.c4;obtain⟨xs,bW,eZ⟩:=oM.dS)
       | (at_builtin;refine qY rfl _ _ 23 rfl (w.heap.size+2) 25 (.agg #[.int .i64 0,.int .i64 0,.string ⟨#[]⟩,.slice none 0 0,.slice none 0 0]) 5 80 Tryz.underlying23 Tryz.dR rfl (by decide) (by decide) vl dz.length xs rfl (bW.alloc _) _ [.int .i64 kv,.int .i64 iv,.string tv,.slice pk nk ck,.slice pl nl cl] rfl rfl (ug (by simp)) KR (by omega) (by have:=oM.size;simp at this ⊢;omega) ?_
          intro nP W5 dC lh jd;obtain⟨q5,n5,c5,vC⟩:∃q n c,nP=.slice q n c:=fH dC;subst vC;have AA:((w4.alloc (.cells #[.int .i64 kv,.int .i64 iv,.string tv,.slice pk nk ck,.slice pl nl cl] 25)).alloc (.cells #[.int .i64 kv,.int .i64 iv,.string tv,.slice pk nk ck,.slice pl nl cl] 25)).grownBy W5 vl.ownBlock:=lh;have yC:(Value.slice q5 n5 c5).ownBlock=vl.ownBlock\/ (Value.slice q5 n5 c5).ownBlock=some ((w4.alloc (.cells #[.int .i64 kv,.int .i64 iv,.string tv,.slice pk nk ck,.slice pl nl cl] 25)).alloc (.cells #[.int .i64 kv,.int .i64 iv,.string tv,.slice pk nk ck,.slice pl nl cl] 25)).heap.size:=jd;obtain⟨e5,f5,Si⟩:=oM.push bW eZ Po dC AA yC;have Dy:=Az oM y_ bW AA (.slice q5 n5 c5);clear dC lh jd AA yC)
       | (go_at_call 167;refine(iW rR 93 h9).mono ?_;rintro x w' ⟨rfl,rfl⟩)
       | (go_at_call 164;refine(pX rR (by omega) 44 AB).mono ?_;rintro x w7 ⟨rfl,⟨⟨e7,l7,xC⟩,pK⟩⟩
          have xD:=(Si.one o7).one pK))
      have HP:=gG xC;go_roundw
      case rel=>exact⟨_,m,dz++ [y],_,bJ,by omega,by simp;omega,HX.out,xD,_,_,xC⟩
      case measure=>rw[HP,O4];omega
     ·rw[if_neg AB]at HX;go_wp2_with(first
       | (go_at_call 114;refine(bC Dy hs Hf).mono ?_;rintro x w6 ⟨rfl,⟨⟨e6,l6,rR⟩,o7⟩⟩)
       | (go_at_call 114;refine(bC kg hs hq).mono ?_;rintro x w3 ⟨rfl,⟨⟨e3,l3,gJ⟩,eY⟩⟩)
       | (go_at_call 115;refine(hV _ _ _ gJ).mono ?_;rintro x w4 ⟨⟨kv,iv,tv,pk,nk,ck,pl,nl,cl,rfl,hj⟩,⟨e4,l4,F4⟩,uF⟩
          have wH:=hli.one eY;have Po:=EU wH hj (.cells #[.int .i64 kv,.int .i64 iv,.string tv,.slice pk nk ck,.slice pl nl cl] 25);have oM:=(wH.one uF).alloc (.cells #[.int .i64 kv,.int .i64 iv,.string tv,.slice pk nk ck,.slice pl nl cl] 25);have y_:eQ (w4.alloc (.cells #[.int .i64 kv,.int .i64 iv,.string tv,.slice pk nk ck,.slice pl nl cl] 25)) R s qy e4 l4:=F4.bf (S:=fun _=>False) ((aj.refl _ _).alloc _) (fun h=>h);have XK:=oM.c4;obtain⟨xs,bW,eZ⟩:=oM.dS)
       | (at_builtin;refine qY rfl _ _ 23 rfl (w.heap.size+2) 25 (.agg #[.int .i64 0,.int .i64 0,.string ⟨#[]⟩,.slice none 0 0,.slice none 0 0]) 5 80 Tryz.underlying23 Tryz.dR rfl (by decide) (by decide) vl dz.length xs rfl (bW.alloc _) _ [.int .i64 kv,.int .i64 iv,.string tv,.slice pk nk ck,.slice pl nl cl] rfl rfl (ug (by simp)) KR (by omega) (by have:=oM.size;simp at this ⊢;omega) ?_
          intro nP W5 dC lh jd;obtain⟨q5,n5,c5,vC⟩:∃q n c,nP=.slice q n c:=fH dC;subst vC;have AA:((w4.alloc (.cells #[.int .i64 kv,.int .i64 iv,.string tv,.slice pk nk ck,.slice pl nl cl] 25)).alloc (.cells #[.int .i64 kv,.int .i64 iv,.string tv,.slice pk nk ck,.slice pl nl cl] 25)).grownBy W5 vl.ownBlock:=lh;have yC:(Value.slice q5 n5 c5).ownBlock=vl.ownBlock\/ (Value.slice q5 n5 c5).ownBlock=some ((w4.alloc (.cells #[.int .i64 kv,.int .i64 iv,.string tv,.slice pk nk ck,.slice pl nl cl] 25)).alloc (.cells #[.int .i64 kv,.int .i64 iv,.string tv,.slice pk nk ck,.slice pl nl cl] 25)).heap.size:=jd;obtain⟨e5,f5,Si⟩:=oM.push bW eZ Po dC AA yC;have Dy:=Az oM y_ bW AA (.slice q5 n5 c5);clear dC lh jd AA yC)
       | (go_at_call 167;refine(iW rR 93 h9).mono ?_;rintro x w' ⟨rfl,rfl⟩)
       | (go_at_call 164;refine(tV rR 44 AB).mono ?_;rintro x w7 ⟨rfl,⟨⟨q7,xC⟩,pK⟩⟩
          have xD:=(Si.one o7).one pK;obtain⟨i0,i1,i2,i3,i4⟩:=ai xD.res;obtain⟨z0,z1,z2,z3,z4⟩:=aF xD.res))
      have h5:=aK xD.res (.int .i64 0) (.int .i64 0) (.string ⟨#[]⟩) (.slice none 0 0) (.slice none 0 0);have aX:aj (One w.heap.size) w7 _:=aJ w7 w.heap.size (.int .i64 0) (.int .i64 0) (.string ⟨#[]⟩) (.slice none 0 0) (.slice none 0 0);unfold bF at h5 aX;obtain⟨k0,k1,k2,k3,k4⟩:=ai h5;refine bodyPost_ret (v:=.tuple #[.agg #[.int .i64 0,.int .i64 0,.string ⟨#[]⟩,.slice none 0 0,.slice none 0 0],.bool false]) (by simp[results,Tryz.results142,go_sem,k0,k1,k2,k3,k4]) rfl ?_;rw[<-HX.out];exact⟨⟨0,0,aH,rfl⟩,⟨_,xC.bf aX (fun h=>by unfold One at h;omega)⟩,xD.end aX⟩
def xE(B:Nat)(vk vl:Value)(w:World):Nat->Prop:=fun k=>B<=k/\k<w.heap.size/\vk.ownBlock≠some k/\vl.ownBlock≠some k
structure PI(B R M b:Nat)(WA:World)(ks:List ByteArray)(dz:List J)(vk vl:Value)(wr:World):Prop where
 res:wr.heap[b]?=some (.cells #[.int .i64 0,.int .i64 0,.string ⟨#[]⟩,.slice none 0 0,.slice none 0 0] 25 (0,0))
 keys:wr.ownsRow B 9 1 vk ks.length (ks.map Value.string)
 dS:∃xs,wr.ownsRow B 25 5 vl dz.length xs/\isRow (xE B vk vl wr) wr dz xs
 ne:∀i,vk.ownBlock=some i->vl.ownBlock≠some i
 bf:aj (dJ R M) WA wr
 KO:WA.heap.size=B
 rb:R<b
 bm:b<M
 mB:M<B
structure EW(B:Nat)(vk vl:Value)(W:World)(j_ il:Value)(W':World):Prop where
 free:∀k,xE B vk vl W k->xE B j_ il W' k/\W'.heap[k]?=W.heap[k]?
 low:∀k,k<B->W'.heap[k]?=W.heap[k]?
theorem Stood.at{w w':World}{M:Nat}{ks:List ByteArray}(h:Stood w M ks)(e:w'.heap[M]?=w.heap[M]?):Stood w' M ks:=by
 obtain⟨D,⟨es,clock,hb,F,hs,hD⟩,hm,hh⟩:=h;exact⟨D,⟨es,clock,e.trans hb,F,hs,hD⟩,hm,hh⟩
section
variable {B R M b : Nat} {WA W W2 : World} {ks : List ByteArray} {dz : List J} {vk vl j_ il : Value}
theorem PI.size(h:PI B R M b WA ks dz vk vl W):B<=W.heap.size:=by have:=h.bf.size;have:=h.KO;omega
theorem PI.two(h:PI B R M b WA ks dz vk vl W)(hk:aj (dJ R M) W W2):PI B R M b WA ks dz vk vl W2:=by
 have h1:=h.size;have h2:=h.rb;have h3:=h.bm;have h4:=h.mB;have hs:=hk.size;obtain⟨xs,bW,eZ⟩:=h.dS;refine⟨(hk.block _ (by omega) (by unfold dJ;omega)).trans h.res,bz h.keys hk fun k e=> ?_,⟨xs,bz bW hk fun k e=> ?_,eZ.carry fun k iK=>⟨⟨iK.1,by have:=iK.2.1;omega,iK.2.2⟩,hk.block k iK.2.1 ?_⟩⟩,h.ne,h.bf.then hk,h.KO,h2,h3,h4⟩
 ·have:=(aM h.keys k e).1;unfold dJ;omega
 ·have:=(aM bW k e).1;unfold dJ;omega
 ·have:=iK.1;unfold dJ;omega
theorem PI.one(h:PI B R M b WA ks dz vk vl W)(hk:aj (One R) W W2):PI B R M b WA ks dz vk vl W2:=h.two hk.kG
theorem PI.alloc(h:PI B R M b WA ks dz vk vl W)(o:Obj):PI B R M b WA ks dz vk vl (W.alloc o):=h.two ((aj.refl _ _).alloc o)
theorem PI.drew(h:PI B R M b WA ks dz vk vl W):PI B R M b WA ks dz vk vl W.drew:=h.two (aj.refl _ _).drew
theorem EW.bf(hB:B<=W.heap.size)(hk:aj (fun _=>False) W W2):EW B vk vl W vk vl W2:=
 ⟨fun k iK=>⟨⟨iK.1,Nat.lt_of_lt_of_le iK.2.1 hk.size,iK.2.2⟩,hk.block k iK.2.1 fun h=>h⟩,fun k iK=>hk.block k (by omega) fun h=>h⟩
theorem PI.key(h:PI B R M b WA ks dz vk vl W){x:ByteArray}(aT:W2.ownsRow B 9 1 j_ (ks.length+1) (ks.map Value.string++ [.string x]))(hg:W.grownBy W2 vk.ownBlock)(jB:j_.ownBlock=vk.ownBlock\/ j_.ownBlock=some W.heap.size):
    PI B R M b WA (ks++ [x]) dz j_ vl W2/\EW B vk vl W j_ vl W2:=by
 have h1:=h.size;have h2:=h.rb;have h3:=h.bm;have h4:=h.mB;have hs:=hg.size;have qW:=aM h.keys;obtain⟨xs,bW,eZ⟩:=h.dS;have o6:=aM bW;have low:∀k,k<B->W2.heap[k]?=W.heap[k]?:=fun k hk=>hg.block k (by omega) fun e=>by have:=(qW k e.symm).1;omega
 have free:∀k,xE B vk vl W k->xE B j_ vl W2 k/\W2.heap[k]?=W.heap[k]?:=by
  intro k hk;refine⟨⟨hk.1,by have:=hk.2.1;omega,fun e=> ?_,hk.2.2.2⟩,hg.block k hk.2.1 fun e=>hk.2.2.1 e.symm⟩
  rcases jB with h'| h'
  ·exact hk.2.2.1 (h' ▸ e)
  ·rw[h']at e;have:=Option.some.inj e;have:=hk.2.1;omega
 refine⟨⟨(low b (by omega)).trans h.res,by rw[List.length_append,List.map_append];exact aT,⟨xs,bz bW (S:=fun k=>vk.ownBlock=some k) (aj.dm hg fun _ _ e=>e) fun k e e'=>h.ne k e' e,eZ.carry free⟩, ?_,h.bf.grown hg fun k e=>by have:=(qW k e).1;have:=h.KO;omega,h.KO,h2,h3,h4⟩,⟨free,low⟩⟩;intro i e e'
 rcases jB with h'| h'
 ·exact h.ne i (h' ▸ e) e'
 ·rw[h']at e;have:=Option.some.inj e;have:=(o6 i e').2;omega
theorem PI.val(h:PI B R M b WA ks dz vk vl W){y:J}{cs xs:List Value}(bW:W.ownsRow B 25 5 vl dz.length xs)(eZ:isRow (xE B vk vl W) W dz xs)(hy:isJ (xE B vk vl W) W y cs)
    (aT:W2.ownsRow B 25 5 il (dz.length+1) (xs++cs)) (hg:W.grownBy W2 vl.ownBlock) (jB:il.ownBlock=vl.ownBlock\/ il.ownBlock=some W.heap.size):
    PI B R M b WA ks (dz++ [y]) vk il W2/\EW B vk vl W vk il W2:=by
 have h1:=h.size;have h2:=h.rb;have h3:=h.bm;have h4:=h.mB;have hs:=hg.size;have qW:=aM h.keys;have o6:=aM bW;have low:∀k,k<B->W2.heap[k]?=W.heap[k]?:=fun k hk=>hg.block k (by omega) fun e=>by have:=(o6 k e.symm).1;omega
 have free:∀k,xE B vk vl W k->xE B vk il W2 k/\W2.heap[k]?=W.heap[k]?:=by
  intro k hk;refine⟨⟨hk.1,by have:=hk.2.1;omega,hk.2.2.1,fun e=> ?_⟩,hg.block k hk.2.1 fun e=>hk.2.2.2 e.symm⟩
  rcases jB with h'| h'
  ·exact hk.2.2.2 (h' ▸ e)
  ·rw[h']at e;have:=Option.some.inj e;have:=hk.2.1;omega
 refine⟨⟨(low b (by omega)).trans h.res,bz h.keys (S:=fun k=>vl.ownBlock=some k) (aj.dm hg fun _ _ e=>e) fun k e e'=>h.ne k e e',⟨xs++cs,by rw[List.length_append];exact aT,isRow.snoc hy.pO (hy.carry free) dz xs (eZ.carry free)⟩, ?_,h.bf.grown hg fun k e=>by have:=(o6 k e).1;have:=h.KO;omega,h.KO,h2,h3,h4⟩,⟨free,low⟩⟩;intro i e e'
 rcases jB with h'| h'
 ·exact h.ne i e (h' ▸ e')
 ·rw[h']at e';have:=Option.some.inj e';have:=(qW i e).2;omega
theorem PI.new{w4:World}{y:J}{cs:List Value}(h:PI B R M b WA ks dz vk vl W)(hj:isJ (fB W w4) w4 y cs)(o:Obj):isJ (xE B vk vl (w4.alloc o)) (w4.alloc o) y cs:=by
 have hs:=h.size;obtain⟨xs,h1,h2⟩:=h.dS;refine hj.carry fun k iK=>⟨⟨by have:=iK.1;omega,by have:=iK.2;simp;omega,fun e=> ?_,fun e=> ?_⟩,Below.heap_alloc _ _ _ iK.2⟩
 ·have:=(aM h.keys k e).2;have:=iK.1;omega
 ·have:=(aM h1 k e).2;have:=iK.1;omega
theorem PI.Hg{w4:World}(h:PI B R M b WA ks dz vk vl w4)(o:Obj):xE B vk vl (w4.alloc o) w4.heap.size:=by
 have hs:=h.size;obtain⟨xs,h1,h2⟩:=h.dS;refine⟨by omega,by simp,fun e=> ?_,fun e=> ?_⟩
 ·have:=(aM h.keys _ e).2;omega
 ·have:=(aM h1 _ e).2;omega
end
theorem Py{t:List Int}{ks:List ByteArray}{p q:Nat}{c:ByteArray}(h:jX t ks p=.ok c q):∀k∈ks,k≠c:=by
 intro k hk e;subst e;unfold jX at h
 split at h
 ·cases hq:quoted t p with
  | bad e a=>rw[hq]at h;cases h
  | ok s r=>
   rw[hq]at h;simp only[Res.bind]at h
   split at h
   ·cases h
   ·rename_i hn
    cases hm:pM t 58 (aG t r)with
    | bad e a=>rw[hm]at h;cases h
    | ok u v=>
     rw[hm]at h;simp only[Res.ok.injEq]at h
     apply hn
     rw[List.any_eq_true];exact⟨k,hk,by rw[h.1];simp⟩
 ·cases h
def KS(B:Nat)(vk vl:Value)(W:World)(n:Nat)(o:Obj):Prop:=xE B vk vl W n/\W.heap[n]?=some o
theorem Sj{B:Nat}{vk vl:Value}{W:World}{n:Nat}{t:TypeId}{y0 y1 y2 y3 y4:Value}(h:KS B vk vl W n (.cells #[y0,y1,y2,y3,y4] t (0,0))):∀j u, [y0,y1,y2,y3,y4][j]?=some u->W.cell? ((⟨n,0,none⟩:Addr).add j)=some u:=by
 intro j u hj;have e:(⟨n,0,none⟩:Addr).add j=⟨n,j,none⟩:=by unfold Addr.add;split<;>simp_all
 rw[e];exact aR (cur:= [y0,y1,y2,y3,y4]) h.2 j u hj
theorem Sl{B:Nat}{vk vl:Value}{W:World}{n:Nat}{t:TypeId}{x:Value}(h:KS B vk vl W n (.cells #[x] t (0,0))):∀j u, [x][j]?=some u->W.cell? ((⟨n,0,none⟩:Addr).add j)=some u:=by
 intro j u hj;have e:(⟨n,0,none⟩:Addr).add j=⟨n,j,none⟩:=by unfold Addr.add;split<;>simp_all
 rw[e];exact aR (cur:= [x]) h.2 j u hj
structure RS(B R M b:Nat)(WA:World)(ks:List ByteArray)(dz:List J)(vk vl:Value)(s:ByteArray)(q:Nat)(e l:Int)(st:List ByteArray)(y:J)(y0 y1 y2 y3 y4:Value)(nv:Nat)(W:World):Prop where
 pi:PI B R M b WA ks dz vk vl W
 y:isJ (xE B vk vl W) W y [y0,y1,y2,y3,y4]
 zx:KS B vk vl W nv (.cells #[y0,y1,y2,y3,y4] 25 (0,0))
 rdr:eQ W R s q e l
 st:Stood W M st
section
variable {B R M b : Nat} {WA W W' : World} {ks XL : List ByteArray} {dz za0 : List J} {vk vl j_ il : Value} {s : ByteArray} {q : Nat} {e l : Int} {st : List ByteArray} {y : J} {y0 y1 y2 y3 y4 : Value} {nv n : Nat} {o : Obj}
theorem KS.go(h:KS B vk vl W n o)(g:EW B vk vl W j_ il W'):KS B j_ il W' n o:=⟨(g.free n h.1).1,(g.free n h.1).2.trans h.2⟩
theorem RS.go(h:RS B R M b WA ks dz vk vl s q e l st y y0 y1 y2 y3 y4 nv W)(p:PI B R M b WA XL za0 j_ il W')(g:EW B vk vl W j_ il W'):RS B R M b WA XL za0 j_ il s q e l st y y0 y1 y2 y3 y4 nv W':=by
 have h1:=p.rb;have h2:=p.bm;have h3:=p.mB;exact⟨p,h.y.carry g.free,h.zx.go g,(g.low R (by omega)).trans h.rdr,h.st.at (g.low M h3)⟩
theorem PI.goes(h:PI B R M b WA ks dz vk vl W)(o:Obj):EW B vk vl W vk vl (W.alloc o):=EW.bf h.size ((aj.refl _ _).alloc o)
theorem RS.alloc(h:RS B R M b WA ks dz vk vl s q e l st y y0 y1 y2 y3 y4 nv W)(o:Obj):RS B R M b WA ks dz vk vl s q e l st y y0 y1 y2 y3 y4 nv (W.alloc o):=h.go (h.pi.alloc o) (h.pi.goes o)
theorem PI.Sm(h:PI B R M b WA ks dz vk vl W)(cs:Array Value)(t:TypeId)(hn:W.heap.size=n):KS B vk vl (W.alloc (.cells cs t)) n (.cells cs t (0,0)):=by
 subst hn;exact⟨h.Hg _,heap_alloc_new _ _⟩
theorem PI.mapOf{qk ql:Option Addr}{nk ck nl cl:Nat}(h:PI B R M b WA ks dz (.slice qk nk ck) (.slice ql nl cl) W)(cB:ks.length=dz.length)(hn:ks.length<=100000)(hd:ks.Pairwise (· ≠ ·)):
    Calls Tryz.prog 104 #[.slice qk nk ck,.slice ql nl cl] W fun x w'=>∃k i t pk nk ck pl nl cl,x=.returned (.agg #[.int .i64 k,.int .i64 i,.string t,.slice pk nk ck,.slice pl nl cl])/\isJ (fun k=>B<=k/\k<w'.heap.size) w' (Go.Proofs.YtegcgbjjpgjnmaaGreatDoor.mapOf ks dz) [.int .i64 k,.int .i64 i,.string t,.slice pk nk ck,.slice pl nl cl]/\Below W.heap.size W w':=by
 have hB:=h.size;obtain⟨xs,bW,eZ⟩:=h.dS;obtain⟨q1,c1,e1,lM⟩:=o5 h.keys;obtain⟨q2,c2,e2,vw,Pm⟩:=qV bW eZ
 cases e1
 cases e2
 have VR:isJs (fun k=>B<=k/\k<W.heap.size) W ql 0 dz:=Pm.carry fun k hk=>⟨by rcases hk with hk| hk;exact⟨hk.1,hk.2.1⟩;exact hk,rfl⟩;refine(Dw lM VR cB (fun k hk=>hk.2) hn hd).mono ?_;rintro x w' ⟨cs,rfl,hj,hb⟩;have hs:=hb.size;have zQ:isJ (fun k=>B<=k/\k<w'.heap.size) w' (Go.Proofs.YtegcgbjjpgjnmaaGreatDoor.mapOf ks dz) cs.toList:=hj.carry fun k hk=>⟨by
  rcases hk with hk| hk
  ·exact⟨hk.1,by have:=hk.2;omega⟩
  ·exact⟨by have:=hk.1;omega,hk.2⟩,rfl⟩
 have hE:∃k i t pk nk ck pl nl cl,cs.toList= [.int .i64 k,.int .i64 i,.string t,.slice pk nk ck,.slice pl nl cl]:=by
  have h2:=zQ;unfold Go.Proofs.YtegcgbjjpgjnmaaGreatDoor.mapOf isJ at h2;obtain⟨pk,ck,pl,cl,e,_⟩:=h2;exact⟨_,_,_,_,_,_,_,_,_,e⟩
 obtain⟨k,i,t,pk,nk,ck,pl,nl,cl,e⟩:=hE;have e':cs=#[.int .i64 k,.int .i64 i,.string t,.slice pk nk ck,.slice pl nl cl]:=by rw[<-Array.toList_inj];exact e
 rw[e]at zQ;exact⟨k,i,t,pk,nk,ck,pl,nl,cl,by rw[e'],zQ,hb⟩
end
theorem Cw{ks:List ByteArray}{c:ByteArray}(h:ks.Pairwise (· ≠ ·))(hn:∀k∈ks,k≠c):(ks++ [c]).Pairwise (· ≠ ·):=by
 rw[List.pairwise_append];exact⟨h,List.pairwise_singleton _ _,fun a ha b hb=>by rw[List.mem_singleton.1 hb];exact hn a ha⟩
abbrev ZK(w:World)(R p:Nat):World:=(w.setCell ⟨R,1,none⟩ (.int .i64 ((p:Int)+1))).alloc zJ
theorem Hl(w:World)(R p:Nat):aj (One R) w (ZK w R p):=(eQ.setAt w R (p+1)).alloc _
theorem NL{w w2:World}{R p:Nat}(hR:R<w.heap.size)(hk:aj (One R) (ZK w R p) w2):w2.heap[w.heap.size]?=some (.cells #[.int .i64 0,.int .i64 0,.string ⟨#[]⟩,.slice none 0 0,.slice none 0 0] 25 (0,0)):=by
 have:=bR hk (by simpa using hR);rw[show(w.setCell ⟨R,1,none⟩ (.int .i64 ((p:Int)+1))).heap.size=w.heap.size by simp]at this;exact this
theorem PI.start{w w2:World}{R p:Nat}(hR:R<w.heap.size)(hk:aj (One R) (ZK w R p) w2):PI (w2.heap.size+1) R w2.heap.size w.heap.size (w2.alloc (.map #[] 0)) [] [] (.slice none 0 0) (.slice none 0 0) (w2.alloc (.map #[] 0)):=by
 have hs:(w.heap.size+1)<=w2.heap.size:=by have:=hk.size;simp at this;exact this
 refine⟨?_,World.ownsRow_nil _ _ _ _,⟨[],World.ownsRow_nil _ _ _ _,rfl⟩,fun i e=>(by cases e),aj.refl _ _,by simp,hR,by omega,by omega⟩;rw[Below.heap_alloc _ _ _ (by omega)];exact NL hR hk
theorem PI.end{w w2 W5 wr:World}{R p:Nat}{ks:List ByteArray}{dz:List J}{vk vl:Value}(h:PI (w2.heap.size+1) R w2.heap.size w.heap.size (w2.alloc (.map #[] 0)) ks dz vk vl wr)(hkw:aj (One R) (ZK w R p) w2)(hk:aj (One w.heap.size) wr W5):aj (One R) w W5:=by
 have hs:(w.heap.size+1)<=w2.heap.size:=by have:=hkw.size;simp at this;exact this
 have k1:aj (One R) w (w2.alloc (.map #[] 0)):=((Hl w R p).then hkw).alloc _;have k2:aj (One R) w wr:=k1.trans h.bf fun i hi h'=>by
  rcases h' with h'| h'
  ·exact h'
  ·omega
 exact k2.trans hk fun i hi h'=>by unfold One at h';omega
theorem EX{w w8 W5:World}{M:Nat}{j:J}{cs:List Value}(hM:w.heap.size<M)(hk:aj (One w.heap.size) w8 W5)(hj:isJ (fun k=>M+1<=k/\k<w8.heap.size) w8 j cs):isJ (fB w W5) W5 j cs:=by
 have hs:=hk.size;exact hj.carry fun k iK=>⟨⟨by have:=iK.1;omega,by have:=iK.2;omega⟩,hk.block k iK.2 (by unfold One;have:=iK.1;omega)⟩
theorem Pz{d:Nat}(V:Reads d){w:World}{R p:Nat}{s:ByteArray}{e l deep:Int}(hr:eQ w R s p e l)(hs:short s)(hp:p<s.size)(kT:deep=12 - (d:Int))(hd:d<=12):
    Calls Tryz.prog 143 #[.pointer (some ⟨R,0,none⟩),.int .i64 deep] w fun x w'=>wy w w' R s (iG (ints s) (value (ints s) d) p) x:=by
 have fI:=hs;unfold short at fI;have hR:=hr.lt;have Cm:0<=deep:=by omega
 have qB:deep<=12:=by omega
 have HD:Hid (deep=12 - (d:Int)):=kT;clear kT;have c1:=hr.c1;have f1:=hr.fz 1;have Q6:eQ (ZK w R p) R s (p+1) e l:=(hr.at (p+1)).bf (S:=fun _=>False) ((aj.refl _ _).alloc _) (fun h=>h);have yY:=fu (t:=ints s) (p:=p+1) (by rw[ax];exact hp);rw[ax]at yY;unfold ZK zJ at Q6
 by_cases UZ:ag (ints s) (aG (ints s) (p+1))=125
 ·have HL:Hid (iG (ints s) (value (ints s) d) p=.ok (.mk 5 0 aH [] []) (aG (ints s) (p+1)+1)):=by unfold iG;rw[if_pos UZ];rfl
  go_enter Tryz.func143,Tryz.ntmps143;go_wp2_with(first
   | (go_at_call 114;refine(bC Q6 hs hp).mono ?_;rintro x w2 ⟨rfl,⟨⟨e2,l2,qR⟩,iX⟩⟩)
   | (go_at_call 167;refine(jE qR (by omega) 125 UZ).mono ?_;rintro x w3 ⟨rfl,⟨⟨e3,l3,gJ⟩,eY⟩⟩
      have bn:=NL hR (iX.then eY);obtain⟨i0,i1,i2,i3,i4⟩:=ai bn;obtain⟨z0,z1,z2,z3,z4⟩:=aF bn))
  have h5:=aK bn (.int .i64 5) (.int .i64 0) (.string ⟨#[]⟩) (.slice none 0 0) (.slice none 0 0);have aX:aj (One w.heap.size) w3 _:=aJ w3 w.heap.size (.int .i64 5) (.int .i64 0) (.string ⟨#[]⟩) (.slice none 0 0) (.slice none 0 0);unfold bF at h5 aX;obtain⟨k0,k1,k2,k3,k4⟩:=ai h5;refine bodyPost_ret (v:=.tuple #[.agg #[.int .i64 5,.int .i64 0,.string ⟨#[]⟩,.slice none 0 0,.slice none 0 0],.bool true]) (by simp[results,Tryz.results143,go_sem,k0,k1,k2,k3,k4]) rfl ?_;rw[HL.out];exact⟨⟨_,_,_,_,_,_,_,_,_,rfl,mP _ _ 5 0 aH⟩,⟨_,_,gJ.bf aX (fun h=>by unfold One at h;omega)⟩,(((Hl w R p).then iX).then eY).trans aX fun i hi h'=>by unfold One at h';omega⟩
 ·have HL:Hid (iG (ints s) (value (ints s) d) p=pairsL (ints s) (value (ints s) d) (s.size+1) (aG (ints s) (p+1)) [] []):=by unfold iG;rw[if_neg UZ,ax];rfl
  have hmm:= @run_makeMap Tryz.prog;go_enter Tryz.func143,Tryz.ntmps143;go_wp2_with(first
   | (go_at_call 114;refine(bC Q6 hs hp).mono ?_;rintro x w2 ⟨rfl,⟨⟨e2,l2,qR⟩,iX⟩⟩)
   | (go_at_call 167;refine(iW qR 125 UZ).mono ?_;rintro x w' ⟨rfl,rfl⟩))
  have ZL:=PI.start (p:=p) hR iX;have Sn:aj (One R) (ZK w R p) w2:=iX;have za1:=Stood.made w2;have rP:eQ (w2.alloc (.map #[] 0)) R s (aG (ints s) (p+1)) e2 l2:=qR.bf (S:=fun _=>False) ((aj.refl _ _).alloc _) (fun h=>h);have hMw:=ZL.bm
  go_loopw [6,7] (fun vk vl wr=>∃(q m:Nat) (ks:List ByteArray) (dz:List J),q<=s.size/\s.size<q+m/\ks.length<=q/\ks.length=dz.length/\ks.Pairwise (· ≠ ·)/\pairsL (ints s) (value (ints s) d) m q ks dz=iG (ints s) (value (ints s) d) p/\PI (w2.heap.size+1) R w2.heap.size w.heap.size (w2.alloc (.map #[] 0)) ks dz vk vl wr/\Stood wr w2.heap.size ks/\∃e l,eQ wr R s q e l) (fun _ _ wr=>s.size - posOf R wr)
  case atStart=>exact⟨_,s.size+1, [], [],yY,by omega,by simp,rfl,List.Pairwise.nil,HL.out.symm,ZL,za1,_,_,rP⟩
  case round=>
   clear hmm ZL iX qR HL Q6 c1 f1 za1 rP;obtain⟨q,m,ks,dz,hq,hm,VK,cB,yD,hx,U0,lV,e1,l1,kg⟩:=hrel;have Q9:=fH U0.keys;obtain⟨ZM,DD,_⟩:=U0.dS;have DD:=fH DD;obtain⟨sk1,sk2,sk3,rfl⟩:=Q9;obtain⟨ZN,sl2,XM,rfl⟩:=DD;have Hm:Hid (ks.length=dz.length):=cB;have za2:Hid (ks.Pairwise (· ≠ ·)):=yD;clear cB yD;have bI:=fu (t:=ints s) (p:=q) (by rw[ax];exact hq);have qO:=gP (ints s) q;rw[ax]at bI;have NM:=Dl (ks:=ks) (t:=ints s) (p:=aG (ints s) q) (by rw[ax];exact bI);have hK:=fun(wv:World) (e l:Int) (h:eQ wv R s (aG (ints s) q) e l) (lV:Stood wv w2.heap.size ks)=>VP h hs lV (by omega) (by omega);obtain⟨m,rfl⟩:∃m',m=m'+1:=⟨m - 1,by omega⟩;have HX:Hid (pairsL (ints s) (value (ints s) d) (m+1) q ks dz=iG (ints s) (value (ints s) d) p):=hx;clear hx;unfold pairsL at HX;have O4:=gG kg
   cases hkv:jX (ints s) ks (aG (ints s) q)with
   | bad er la=>
    rw[hkv]at HX hK;go_wp2_with(first
     | (go_at_call 114;refine(bC kg hs hq).mono ?_;rintro x w3 ⟨rfl,⟨⟨e3,l3,gJ⟩,eY⟩⟩)
     | (go_at_call 168;refine(hK _ _ _ gJ (lV.bf eY (by unfold One;omega))).mono ?_;rintro x w3b ⟨rfl,⟨q3b,Sq⟩,Sr⟩
        have EY:=(U0.one eY).two Sr;obtain⟨i0,i1,i2,i3,i4⟩:=ai EY.res;obtain⟨z0,z1,z2,z3,z4⟩:=aF EY.res))
    have h5:=aK EY.res (.int .i64 0) (.int .i64 0) (.string ⟨#[]⟩) (.slice none 0 0) (.slice none 0 0);have aX:aj (One w.heap.size) w3b _:=aJ w3b w.heap.size (.int .i64 0) (.int .i64 0) (.string ⟨#[]⟩) (.slice none 0 0) (.slice none 0 0);unfold bF at h5 aX;obtain⟨k0,k1,k2,k3,k4⟩:=ai h5;refine bodyPost_ret (v:=.tuple #[.agg #[.int .i64 0,.int .i64 0,.string ⟨#[]⟩,.slice none 0 0,.slice none 0 0],.bool false]) (by simp[results,Tryz.results143,go_sem,k0,k1,k2,k3,k4]) rfl ?_;rw[<-HX.out];exact⟨⟨0,0,aH,rfl⟩,⟨_,Sq.bf aX (fun h=>by unfold One at h;omega)⟩,EY.end Sn aX⟩
   | ok c qk=>
    have VS:Hid (∀k∈ks,k≠c):=Py hkv;rw[hkv]at HX hK NM;have hqk:=NM.2;have zfX:=NM.1;rw[ax]at hqk;clear NM;have mZ:=pW (ints s) d qk (by rw[ax];exact hqk);have hV:=fun(wv:World) (e l:Int) (h:eQ wv R s qk e l)=>V wv R qk s e l (deep+1) h hs hqk (by have:=HD.out;omega)
    cases hv:value (ints s) d qk with
    | bad er la=>
     have HX:Hid ((value (ints s) d qk).bind _=iG (ints s) (value (ints s) d) p):=HX;rw[hv]at HX hV;go_wp2_with(first
      | (go_at_call 114;refine(bC kg hs hq).mono ?_;rintro x w3 ⟨rfl,⟨⟨e3,l3,gJ⟩,eY⟩⟩)
      | (go_at_call 168;refine(hK _ _ _ gJ (lV.bf eY (by unfold One;omega))).mono ?_;rintro x w3b ⟨rfl,⟨e3b,l3b,Sq⟩,Su,Sr⟩)
      | (go_at_call 115;refine(hV _ _ _ Sq).mono ?_;rintro x w4 ⟨⟨kv,iv,tv,rfl⟩,⟨q4,F4⟩,uF⟩
         unfold flat;have KT:=(((U0.one eY).two Sr).one uF).alloc (.cells #[.int .i64 kv,.int .i64 iv,.string tv,.slice none 0 0,.slice none 0 0] 25);have y_:eQ (w4.alloc (.cells #[.int .i64 kv,.int .i64 iv,.string tv,.slice none 0 0,.slice none 0 0] 25)) R s q4 er la:=F4.bf (S:=fun _=>False) ((aj.refl _ _).alloc _) (fun h=>h);obtain⟨i0,i1,i2,i3,i4⟩:=ai KT.res;obtain⟨z0,z1,z2,z3,z4⟩:=aF KT.res))
     have h5:=aK KT.res (.int .i64 0) (.int .i64 0) (.string ⟨#[]⟩) (.slice none 0 0) (.slice none 0 0);have aX:aj (One w.heap.size) (w4.alloc (.cells #[.int .i64 kv,.int .i64 iv,.string tv,.slice none 0 0,.slice none 0 0] 25)) _:=aJ (w4.alloc (.cells #[.int .i64 kv,.int .i64 iv,.string tv,.slice none 0 0,.slice none 0 0] 25)) w.heap.size (.int .i64 0) (.int .i64 0) (.string ⟨#[]⟩) (.slice none 0 0) (.slice none 0 0);unfold bF at h5 aX;obtain⟨k0,k1,k2,k3,k4⟩:=ai h5;refine bodyPost_ret (v:=.tuple #[.agg #[.int .i64 0,.int .i64 0,.string ⟨#[]⟩,.slice none 0 0,.slice none 0 0],.bool false]) (by simp[results,Tryz.results143,go_sem,k0,k1,k2,k3,k4]) rfl ?_;rw[<-HX.out];exact⟨⟨0,0,aH,rfl⟩,⟨_,y_.bf aX (fun h=>by unfold One at h;omega)⟩,KT.end Sn aX⟩
    | ok y qy=>
     have HX:Hid ((value (ints s) d qk).bind _=iG (ints s) (value (ints s) d) p):=HX;rw[hv]at HX hV mZ;have HX:Hid ((if ag (ints s) (aG (ints s) qy)=125 then .ok (mapOf (ks++ [c]) (dz++ [y])) (aG (ints s) qy+1)else if ag (ints s) (aG (ints s) qy)=44 then pairsL (ints s) (value (ints s) d) m (aG (ints s) qy+1) (ks++ [c]) (dz++ [y])else .bad 11 (aG (ints s) qy))=iG (ints s) (value (ints s) d) p):=HX;have Hf:=mZ.2;have zdY:=mZ.1;rw[ax]at Hf;have bM:=fu (t:=ints s) (p:=qy) (by rw[ax];exact Hf);rw[ax]at bM;have a_:=gP (ints s) qy;clear mZ;go_wp2_with(first
      | (go_at_call 114;refine(bC kg hs hq).mono ?_;rintro x w3 ⟨rfl,⟨⟨e3,l3,gJ⟩,eY⟩⟩)
      | (go_at_call 168;refine(hK _ _ _ gJ (lV.bf eY (by unfold One;omega))).mono ?_;rintro x w3b ⟨rfl,⟨e3b,l3b,Sq⟩,Su,Sr⟩)
      | (go_at_call 115;refine(hV _ _ _ Sq).mono ?_;rintro x w4 ⟨⟨kv,iv,tv,pk,nk,ck,pl,nl,cl,rfl,hj⟩,⟨e4,l4,F4⟩,uF⟩
         have EY:=(U0.one eY).two Sr;have Po:=EY.new hj (.cells #[.int .i64 kv,.int .i64 iv,.string tv,.slice pk nk ck,.slice pl nl cl] 25);have hfr:=(EY.one uF).Hg (.cells #[.int .i64 kv,.int .i64 iv,.string tv,.slice pk nk ck,.slice pl nl cl] 25);have jA:(w4.alloc (.cells #[.int .i64 kv,.int .i64 iv,.string tv,.slice pk nk ck,.slice pl nl cl] 25)).heap[w4.heap.size]?=some (.cells #[.int .i64 kv,.int .i64 iv,.string tv,.slice pk nk ck,.slice pl nl cl] 25 (0,0)):=heap_alloc_new _ _;have KT:=(EY.one uF).alloc (.cells #[.int .i64 kv,.int .i64 iv,.string tv,.slice pk nk ck,.slice pl nl cl] 25);have y_:eQ (w4.alloc (.cells #[.int .i64 kv,.int .i64 iv,.string tv,.slice pk nk ck,.slice pl nl cl] 25)) R s qy e4 l4:=F4.bf (S:=fun _=>False) ((aj.refl _ _).alloc _) (fun h=>h);have za3:Stood (w4.alloc (.cells #[.int .i64 kv,.int .i64 iv,.string tv,.slice pk nk ck,.slice pl nl cl] 25)) w2.heap.size (ks++ [c]):=(Su.bf uF (by unfold One;omega)).at (Below.heap_alloc _ _ _ (by have:=(Su.bf uF (by unfold One;omega)).lt;omega))))
     have HL2:Hid ((ks++ [c]).length=(dz++ [y]).length):=by have:=Hm.out;simp;omega
     have Sw:Hid ((ks++ [c]).Pairwise (· ≠ ·)):=Cw za2.out VS.out;have Sy:RS (w2.heap.size+1) R w2.heap.size w.heap.size (w2.alloc (.map #[] 0)) ks dz (.slice sk1 sk2 sk3) (.slice ZN sl2 XM) s qy e4 l4 (ks++ [c]) y (.int .i64 kv) (.int .i64 iv) (.string tv) (.slice pk nk ck) (.slice pl nl cl) w4.heap.size (w4.alloc (.cells #[.int .i64 kv,.int .i64 iv,.string tv,.slice pk nk ck,.slice pl nl cl] 25)):=⟨KT,Po,⟨hfr,jA⟩,y_,za3⟩;have Sy:=Sy.go Sy.pi.drew (EW.bf Sy.pi.size (aj.refl _ _).drew);clear EY Po hfr jA KT y_ za3;refine aD (by kernel_rfl) (fun w'=>w'.heap[w4.heap.size]?=some (.cells #[.int .i64 kv,.int .i64 iv,.string tv,.slice pk nk ck,.slice pl nl cl] 25 (0,0))) ?_;change wpIn _ _ _ _ _ _ _ _ (World.drew _);generalize (w4.alloc (.cells #[.int .i64 kv,.int .i64 iv,.string tv,.slice pk nk ck,.slice pl nl cl] 25)).drew=W0 at Sy ⊢;generalize w4.heap.size=nv at Sy ⊢;have fE:=Sy.zx.2;have XN:=Sy.alloc (.cells #[.string c] 9);have lsK:=Sy.pi.Sm #[.string c] 9 rfl;have hCK:=XN.zx.2;have rsJ:=Sy.alloc (.cells #[.int .i64 kv,.int .i64 iv,.string tv,.slice pk nk ck,.slice pl nl cl] 25);have lsJ:=Sy.pi.Sm #[.int .i64 kv,.int .i64 iv,.string tv,.slice pk nk ck,.slice pl nl cl] 25 rfl;have hCJ:=rsJ.zx.2;have Sz:=XN.alloc (.cells #[.int .i64 kv,.int .i64 iv,.string tv,.slice pk nk ck,.slice pl nl cl] 25);have zdZ:=XN.pi.Sm (n:=W0.heap.size+1) #[.int .i64 kv,.int .i64 iv,.string tv,.slice pk nk ck,.slice pl nl cl] 25 (by simp);have za4:=lsK.go (XN.pi.goes (.cells #[.int .i64 kv,.int .i64 iv,.string tv,.slice pk nk ck,.slice pl nl cl] 25));have zd0:=Sz.zx.2;have SA:=rsJ.alloc (.cells #[.string c] 9);have zd1:=rsJ.pi.Sm (n:=W0.heap.size+1) #[.string c] 9 (by simp);have za5:=lsJ.go (rsJ.pi.goes (.cells #[.string c] 9));have zd2:=SA.zx.2;refine aa (i:=0) (d:=some 46) rfl ?_;refine aa (i:=1) (d:=some 47) rfl ?_;refine aa (i:=4) (d:=some 50) rfl ?_;refine aB (i:=5) (d:=some 51) rfl (by(intro wq hq;obtain⟨q0,q1,q2,q3,q4⟩:=ai hq;go_simp;first| done| with_reducible rfl)) ?_;refine aW (i:=2) (j:=6) fE (by kernel_rfl) rfl rfl (by rfl) (by rfl) ?_ ?_
     ·skip
      intro K hK;go_simp;refine hK _ _ ?_;clear hK K;refine aW (i:=3) (j:=6) hCK (by kernel_rfl) rfl rfl (by rfl) (by rfl) ?_ ?_
      ·skip
       intro K hK;refine aP (.tmp 46) (.tmp 48) 22 rfl (w2.heap.size+1) 9 (.string ⟨#[]⟩) 1 16 Tryz.underlying22 Tryz.jZ rfl (by decide) (by decide) _ ks.length (ks.map Value.string) rfl XN.pi.keys _ [.string c] rfl rfl (Sl lsK) (lD c) (by omega) XN.pi.size ?_;intro NI WK sN XO Ho;refine hK _ _ ?_;clear hK K;obtain⟨qk5,KU,ck5,vC⟩:=fH sN;subst vC;have yE:=XN.pi.key sN XO Ho;have rs2:=XN.go yE.1 yE.2;have XP:=yE.2;clear sN XO Ho yE;have mf:=rs2.zx.2;refine ak (i:=6) mf rfl ?_;intro K hK;go_simp;refine hK _ _ ?_;clear hK K;have DF:=rs2.alloc (.cells #[.int .i64 kv,.int .i64 iv,.string tv,.slice pk nk ck,.slice pl nl cl] 25);have ls3:=rs2.pi.Sm #[.int .i64 kv,.int .i64 iv,.string tv,.slice pk nk ck,.slice pl nl cl] 25 rfl;have j5:=DF.zx.2;refine ak (i:=7) j5 rfl ?_;intro K hK;obtain⟨xs,bW,eZ⟩:=DF.pi.dS;refine aP (.tmp 50) (.tmp 52) 23 rfl (w2.heap.size+1) 25 (.agg #[.int .i64 0,.int .i64 0,.string ⟨#[]⟩,.slice none 0 0,.slice none 0 0]) 5 80 Tryz.underlying23 Tryz.dR rfl (by decide) (by decide) _ dz.length xs rfl bW _ [.int .i64 kv,.int .i64 iv,.string tv,.slice pk nk ck,.slice pl nl cl] rfl rfl (Sj ls3) KR (by have:=Hm.out;omega) DF.pi.size ?_;intro nP WV sO XQ Hq;refine hK _ _ ?_;clear hK K;obtain⟨ql5,ZO,cl5,vC⟩:=fH sO;subst vC;have yE:=DF.pi.val bW eZ DF.y sO XQ Hq;have Hr:=DF.go yE.1 yE.2;have XR:=Hr.zx.2;clear sO XQ Hq yE bW eZ;refine aa (i:=8) (d:=some 6) rfl ?_;refine aa (i:=9) (d:=some 7) rfl ?_;refine aA XR (by kernel_rfl) ?_ _;have AJ:=Hr.pi;have SB:=Hr.rdr;have SC:=Hr.st;clear XR Hr
       by_cases h9:ag (ints s) (aG (ints s) qy)=125
       ·rw[if_pos h9]at HX;go_wp2_with(first
         | (go_at_call 114;refine(bC SB hs Hf).mono ?_;rintro x w6 ⟨rfl,⟨⟨e6,l6,rR⟩,o7⟩⟩)
         | (go_at_call 167;refine(jE rR (by omega) 125 h9).mono ?_;rintro x w7 ⟨rfl,⟨⟨e7,l7,xC⟩,pK⟩⟩
            have jI:=(AJ.one o7).one pK)
         | (go_at_call 104;refine(jI.mapOf HL2.out (by simp;omega) Sw.out).mono ?_;rintro x w8 ⟨kf,jf,tf,SE,SF,SG,SH,SI,SK,rfl,hJf,rT⟩
            have n_:=(rT.block _ (Array.getElem?_eq_some_iff.1 jI.res).1).trans jI.res;obtain⟨i0,i1,i2,i3,i4⟩:=ai n_;obtain⟨z0,z1,z2,z3,z4⟩:=aF n_))
        have h5:=aK n_ (.int .i64 kf) (.int .i64 jf) (.string tf) (.slice SE SF SG) (.slice SH SI SK);have aX:aj (One w.heap.size) w8 _:=aJ w8 w.heap.size (.int .i64 kf) (.int .i64 jf) (.string tf) (.slice SE SF SG) (.slice SH SI SK);unfold bF at h5 aX;obtain⟨k0,k1,k2,k3,k4⟩:=ai h5;refine bodyPost_ret (v:=.tuple #[.agg #[.int .i64 kf,.int .i64 jf,.string tf,.slice SE SF SG,.slice SH SI SK],.bool true]) (by simp[results,Tryz.results143,go_sem,k0,k1,k2,k3,k4]) rfl ?_;rw[<-HX.out];have hK8:aj (One w.heap.size) w7 _:=(aj.fO rT).then aX;exact⟨⟨_,_,_,_,_,_,_,_,_,rfl,EX hMw aX hJf⟩,⟨_,_,(xC.bf (S:=fun _=>False) (aj.fO rT) (fun h=>h)).bf aX (fun h=>by unfold One at h;omega)⟩,jI.end Sn hK8⟩
       ·rw[if_neg h9]at HX
        by_cases AB:ag (ints s) (aG (ints s) qy)=44
        ·rw[if_pos AB]at HX;have bJ:=bq (t:=ints s) (p:=aG (ints s) qy) (by rw[AB];decide);rw[ax]at bJ;go_wp2_with(first
          | (go_at_call 114;refine(bC SB hs Hf).mono ?_;rintro x w6 ⟨rfl,⟨⟨e6,l6,rR⟩,o7⟩⟩)
          | (go_at_call 167;refine(iW rR 125 h9).mono ?_;rintro x w' ⟨rfl,rfl⟩)
          | (go_at_call 164;refine(pX rR (by omega) 44 AB).mono ?_;rintro x w7 ⟨rfl,⟨⟨e7,l7,xC⟩,pK⟩⟩
             have jI:=(AJ.one o7).one pK;have SL:=(SC.bf o7 (by unfold One;omega)).bf pK (by unfold One;omega)))
         have HP:=gG xC;go_roundw
         case rel=>exact⟨_,m,ks++ [c],dz++ [y],bJ,by omega,by simp;omega,HL2.out,Sw.out,HX.out,jI,SL,_,_,xC⟩
         case measure=>rw[HP,O4];omega
        ·rw[if_neg AB]at HX;go_wp2_with(first
          | (go_at_call 114;refine(bC SB hs Hf).mono ?_;rintro x w6 ⟨rfl,⟨⟨e6,l6,rR⟩,o7⟩⟩)
          | (go_at_call 167;refine(iW rR 125 h9).mono ?_;rintro x w' ⟨rfl,rfl⟩)
          | (go_at_call 164;refine(tV rR 44 AB).mono ?_;rintro x w7 ⟨rfl,⟨⟨q7,xC⟩,pK⟩⟩
             have jI:=(AJ.one o7).one pK;obtain⟨i0,i1,i2,i3,i4⟩:=ai jI.res;obtain⟨z0,z1,z2,z3,z4⟩:=aF jI.res))
         have h5:=aK jI.res (.int .i64 0) (.int .i64 0) (.string ⟨#[]⟩) (.slice none 0 0) (.slice none 0 0);have aX:aj (One w.heap.size) w7 _:=aJ w7 w.heap.size (.int .i64 0) (.int .i64 0) (.string ⟨#[]⟩) (.slice none 0 0) (.slice none 0 0);unfold bF at h5 aX;obtain⟨k0,k1,k2,k3,k4⟩:=ai h5;refine bodyPost_ret (v:=.tuple #[.agg #[.int .i64 0,.int .i64 0,.string ⟨#[]⟩,.slice none 0 0,.slice none 0 0],.bool false]) (by simp[results,Tryz.results143,go_sem,k0,k1,k2,k3,k4]) rfl ?_;rw[<-HX.out];exact⟨⟨0,0,aH,rfl⟩,⟨_,xC.bf aX (fun h=>by unfold One at h;omega)⟩,jI.end Sn aX⟩
      ·skip
       intro K hK;go_simp;refine hK _ _ ?_;clear hK K;refine ak (i:=3) zd0 rfl ?_;intro K hK;refine aP (.tmp 46) (.tmp 48) 22 rfl (w2.heap.size+1) 9 (.string ⟨#[]⟩) 1 16 Tryz.underlying22 Tryz.jZ rfl (by decide) (by decide) _ ks.length (ks.map Value.string) rfl Sz.pi.keys _ [.string c] rfl rfl (Sl za4) (lD c) (by omega) Sz.pi.size ?_;intro NI WK sN XO Ho;refine hK _ _ ?_;clear hK K;obtain⟨qk5,KU,ck5,vC⟩:=fH sN;subst vC;have yE:=Sz.pi.key sN XO Ho;have DF:=Sz.go yE.1 yE.2;have XP:=yE.2;clear sN XO Ho yE;have ls3:=zdZ.go XP;have j5:=DF.zx.2;refine ak (i:=7) j5 rfl ?_;intro K hK;obtain⟨xs,bW,eZ⟩:=DF.pi.dS;refine aP (.tmp 50) (.tmp 52) 23 rfl (w2.heap.size+1) 25 (.agg #[.int .i64 0,.int .i64 0,.string ⟨#[]⟩,.slice none 0 0,.slice none 0 0]) 5 80 Tryz.underlying23 Tryz.dR rfl (by decide) (by decide) _ dz.length xs rfl bW _ [.int .i64 kv,.int .i64 iv,.string tv,.slice pk nk ck,.slice pl nl cl] rfl rfl (Sj ls3) KR (by have:=Hm.out;omega) DF.pi.size ?_;intro nP WV sO XQ Hq;refine hK _ _ ?_;clear hK K;obtain⟨ql5,ZO,cl5,vC⟩:=fH sO;subst vC;have yE:=DF.pi.val bW eZ DF.y sO XQ Hq;have Hr:=DF.go yE.1 yE.2;have XR:=Hr.zx.2;clear sO XQ Hq yE bW eZ;refine aa (i:=8) (d:=some 6) rfl ?_;refine aa (i:=9) (d:=some 7) rfl ?_;refine aA XR (by kernel_rfl) ?_ _;have AJ:=Hr.pi;have SB:=Hr.rdr;have SC:=Hr.st;clear XR Hr
       by_cases h9:ag (ints s) (aG (ints s) qy)=125
       ·rw[if_pos h9]at HX;go_wp2_with(first
         | (go_at_call 114;refine(bC SB hs Hf).mono ?_;rintro x w6 ⟨rfl,⟨⟨e6,l6,rR⟩,o7⟩⟩)
         | (go_at_call 167;refine(jE rR (by omega) 125 h9).mono ?_;rintro x w7 ⟨rfl,⟨⟨e7,l7,xC⟩,pK⟩⟩
            have jI:=(AJ.one o7).one pK)
         | (go_at_call 104;refine(jI.mapOf HL2.out (by simp;omega) Sw.out).mono ?_;rintro x w8 ⟨kf,jf,tf,SE,SF,SG,SH,SI,SK,rfl,hJf,rT⟩
            have n_:=(rT.block _ (Array.getElem?_eq_some_iff.1 jI.res).1).trans jI.res;obtain⟨i0,i1,i2,i3,i4⟩:=ai n_;obtain⟨z0,z1,z2,z3,z4⟩:=aF n_))
        have h5:=aK n_ (.int .i64 kf) (.int .i64 jf) (.string tf) (.slice SE SF SG) (.slice SH SI SK);have aX:aj (One w.heap.size) w8 _:=aJ w8 w.heap.size (.int .i64 kf) (.int .i64 jf) (.string tf) (.slice SE SF SG) (.slice SH SI SK);unfold bF at h5 aX;obtain⟨k0,k1,k2,k3,k4⟩:=ai h5;refine bodyPost_ret (v:=.tuple #[.agg #[.int .i64 kf,.int .i64 jf,.string tf,.slice SE SF SG,.slice SH SI SK],.bool true]) (by simp[results,Tryz.results143,go_sem,k0,k1,k2,k3,k4]) rfl ?_;rw[<-HX.out];have hK8:aj (One w.heap.size) w7 _:=(aj.fO rT).then aX;exact⟨⟨_,_,_,_,_,_,_,_,_,rfl,EX hMw aX hJf⟩,⟨_,_,(xC.bf (S:=fun _=>False) (aj.fO rT) (fun h=>h)).bf aX (fun h=>by unfold One at h;omega)⟩,jI.end Sn hK8⟩
       ·rw[if_neg h9]at HX
        by_cases AB:ag (ints s) (aG (ints s) qy)=44
        ·rw[if_pos AB]at HX;have bJ:=bq (t:=ints s) (p:=aG (ints s) qy) (by rw[AB];decide);rw[ax]at bJ;go_wp2_with(first
          | (go_at_call 114;refine(bC SB hs Hf).mono ?_;rintro x w6 ⟨rfl,⟨⟨e6,l6,rR⟩,o7⟩⟩)
          | (go_at_call 167;refine(iW rR 125 h9).mono ?_;rintro x w' ⟨rfl,rfl⟩)
          | (go_at_call 164;refine(pX rR (by omega) 44 AB).mono ?_;rintro x w7 ⟨rfl,⟨⟨e7,l7,xC⟩,pK⟩⟩
             have jI:=(AJ.one o7).one pK;have SL:=(SC.bf o7 (by unfold One;omega)).bf pK (by unfold One;omega)))
         have HP:=gG xC;go_roundw
         case rel=>exact⟨_,m,ks++ [c],dz++ [y],bJ,by omega,by simp;omega,HL2.out,Sw.out,HX.out,jI,SL,_,_,xC⟩
         case measure=>rw[HP,O4];omega
        ·rw[if_neg AB]at HX;go_wp2_with(first
          | (go_at_call 114;refine(bC SB hs Hf).mono ?_;rintro x w6 ⟨rfl,⟨⟨e6,l6,rR⟩,o7⟩⟩)
          | (go_at_call 167;refine(iW rR 125 h9).mono ?_;rintro x w' ⟨rfl,rfl⟩)
          | (go_at_call 164;refine(tV rR 44 AB).mono ?_;rintro x w7 ⟨rfl,⟨⟨q7,xC⟩,pK⟩⟩
             have jI:=(AJ.one o7).one pK;obtain⟨i0,i1,i2,i3,i4⟩:=ai jI.res;obtain⟨z0,z1,z2,z3,z4⟩:=aF jI.res))
         have h5:=aK jI.res (.int .i64 0) (.int .i64 0) (.string ⟨#[]⟩) (.slice none 0 0) (.slice none 0 0);have aX:aj (One w.heap.size) w7 _:=aJ w7 w.heap.size (.int .i64 0) (.int .i64 0) (.string ⟨#[]⟩) (.slice none 0 0) (.slice none 0 0);unfold bF at h5 aX;obtain⟨k0,k1,k2,k3,k4⟩:=ai h5;refine bodyPost_ret (v:=.tuple #[.agg #[.int .i64 0,.int .i64 0,.string ⟨#[]⟩,.slice none 0 0,.slice none 0 0],.bool false]) (by simp[results,Tryz.results143,go_sem,k0,k1,k2,k3,k4]) rfl ?_;rw[<-HX.out];exact⟨⟨0,0,aH,rfl⟩,⟨_,xC.bf aX (fun h=>by unfold One at h;omega)⟩,jI.end Sn aX⟩
     ·skip
      intro K hK;go_simp;refine hK _ _ ?_;clear hK K;refine ak (i:=2) hCJ rfl ?_;intro K hK;go_simp;refine hK _ _ ?_;clear hK K;refine ak (i:=3) zd2 rfl ?_;intro K hK;refine aP (.tmp 46) (.tmp 48) 22 rfl (w2.heap.size+1) 9 (.string ⟨#[]⟩) 1 16 Tryz.underlying22 Tryz.jZ rfl (by decide) (by decide) _ ks.length (ks.map Value.string) rfl SA.pi.keys _ [.string c] rfl rfl (Sl zd1) (lD c) (by omega) SA.pi.size ?_;intro NI WK sN XO Ho;refine hK _ _ ?_;clear hK K;obtain⟨qk5,KU,ck5,vC⟩:=fH sN;subst vC;have yE:=SA.pi.key sN XO Ho;have DF:=SA.go yE.1 yE.2;have XP:=yE.2;clear sN XO Ho yE;have ls3:=za5.go XP;have j5:=DF.zx.2;refine ak (i:=7) j5 rfl ?_;intro K hK;obtain⟨xs,bW,eZ⟩:=DF.pi.dS;refine aP (.tmp 50) (.tmp 52) 23 rfl (w2.heap.size+1) 25 (.agg #[.int .i64 0,.int .i64 0,.string ⟨#[]⟩,.slice none 0 0,.slice none 0 0]) 5 80 Tryz.underlying23 Tryz.dR rfl (by decide) (by decide) _ dz.length xs rfl bW _ [.int .i64 kv,.int .i64 iv,.string tv,.slice pk nk ck,.slice pl nl cl] rfl rfl (Sj ls3) KR (by have:=Hm.out;omega) DF.pi.size ?_;intro nP WV sO XQ Hq;refine hK _ _ ?_;clear hK K;obtain⟨ql5,ZO,cl5,vC⟩:=fH sO;subst vC;have yE:=DF.pi.val bW eZ DF.y sO XQ Hq;have Hr:=DF.go yE.1 yE.2;have XR:=Hr.zx.2;clear sO XQ Hq yE bW eZ;refine aa (i:=8) (d:=some 6) rfl ?_;refine aa (i:=9) (d:=some 7) rfl ?_;refine aA XR (by kernel_rfl) ?_ _;have AJ:=Hr.pi;have SB:=Hr.rdr;have SC:=Hr.st;clear XR Hr
      by_cases h9:ag (ints s) (aG (ints s) qy)=125
      ·rw[if_pos h9]at HX;go_wp2_with(first
        | (go_at_call 114;refine(bC SB hs Hf).mono ?_;rintro x w6 ⟨rfl,⟨⟨e6,l6,rR⟩,o7⟩⟩)
        | (go_at_call 167;refine(jE rR (by omega) 125 h9).mono ?_;rintro x w7 ⟨rfl,⟨⟨e7,l7,xC⟩,pK⟩⟩
           have jI:=(AJ.one o7).one pK)
        | (go_at_call 104;refine(jI.mapOf HL2.out (by simp;omega) Sw.out).mono ?_;rintro x w8 ⟨kf,jf,tf,SE,SF,SG,SH,SI,SK,rfl,hJf,rT⟩
           have n_:=(rT.block _ (Array.getElem?_eq_some_iff.1 jI.res).1).trans jI.res;obtain⟨i0,i1,i2,i3,i4⟩:=ai n_;obtain⟨z0,z1,z2,z3,z4⟩:=aF n_))
       have h5:=aK n_ (.int .i64 kf) (.int .i64 jf) (.string tf) (.slice SE SF SG) (.slice SH SI SK);have aX:aj (One w.heap.size) w8 _:=aJ w8 w.heap.size (.int .i64 kf) (.int .i64 jf) (.string tf) (.slice SE SF SG) (.slice SH SI SK);unfold bF at h5 aX;obtain⟨k0,k1,k2,k3,k4⟩:=ai h5;refine bodyPost_ret (v:=.tuple #[.agg #[.int .i64 kf,.int .i64 jf,.string tf,.slice SE SF SG,.slice SH SI SK],.bool true]) (by simp[results,Tryz.results143,go_sem,k0,k1,k2,k3,k4]) rfl ?_;rw[<-HX.out];have hK8:aj (One w.heap.size) w7 _:=(aj.fO rT).then aX;exact⟨⟨_,_,_,_,_,_,_,_,_,rfl,EX hMw aX hJf⟩,⟨_,_,(xC.bf (S:=fun _=>False) (aj.fO rT) (fun h=>h)).bf aX (fun h=>by unfold One at h;omega)⟩,jI.end Sn hK8⟩
      ·rw[if_neg h9]at HX
       by_cases AB:ag (ints s) (aG (ints s) qy)=44
       ·rw[if_pos AB]at HX;have bJ:=bq (t:=ints s) (p:=aG (ints s) qy) (by rw[AB];decide);rw[ax]at bJ;go_wp2_with(first
         | (go_at_call 114;refine(bC SB hs Hf).mono ?_;rintro x w6 ⟨rfl,⟨⟨e6,l6,rR⟩,o7⟩⟩)
         | (go_at_call 167;refine(iW rR 125 h9).mono ?_;rintro x w' ⟨rfl,rfl⟩)
         | (go_at_call 164;refine(pX rR (by omega) 44 AB).mono ?_;rintro x w7 ⟨rfl,⟨⟨e7,l7,xC⟩,pK⟩⟩
            have jI:=(AJ.one o7).one pK;have SL:=(SC.bf o7 (by unfold One;omega)).bf pK (by unfold One;omega)))
        have HP:=gG xC;go_roundw
        case rel=>exact⟨_,m,ks++ [c],dz++ [y],bJ,by omega,by simp;omega,HL2.out,Sw.out,HX.out,jI,SL,_,_,xC⟩
        case measure=>rw[HP,O4];omega
       ·rw[if_neg AB]at HX;go_wp2_with(first
         | (go_at_call 114;refine(bC SB hs Hf).mono ?_;rintro x w6 ⟨rfl,⟨⟨e6,l6,rR⟩,o7⟩⟩)
         | (go_at_call 167;refine(iW rR 125 h9).mono ?_;rintro x w' ⟨rfl,rfl⟩)
         | (go_at_call 164;refine(tV rR 44 AB).mono ?_;rintro x w7 ⟨rfl,⟨⟨q7,xC⟩,pK⟩⟩
            have jI:=(AJ.one o7).one pK;obtain⟨i0,i1,i2,i3,i4⟩:=ai jI.res;obtain⟨z0,z1,z2,z3,z4⟩:=aF jI.res))
        have h5:=aK jI.res (.int .i64 0) (.int .i64 0) (.string ⟨#[]⟩) (.slice none 0 0) (.slice none 0 0);have aX:aj (One w.heap.size) w7 _:=aJ w7 w.heap.size (.int .i64 0) (.int .i64 0) (.string ⟨#[]⟩) (.slice none 0 0) (.slice none 0 0);unfold bF at h5 aX;obtain⟨k0,k1,k2,k3,k4⟩:=ai h5;refine bodyPost_ret (v:=.tuple #[.agg #[.int .i64 0,.int .i64 0,.string ⟨#[]⟩,.slice none 0 0,.slice none 0 0],.bool false]) (by simp[results,Tryz.results143,go_sem,k0,k1,k2,k3,k4]) rfl ?_;rw[<-HX.out];exact⟨⟨0,0,aH,rfl⟩,⟨_,xC.bf aX (fun h=>by unfold One at h;omega)⟩,jI.end Sn aX⟩
end Go.Proofs.YtegcgbjjpgjnmaaGreatDoor

/- A part. -/
import Derived.Test.YtldkblgclochjaaGreatDoorE27
import Derived.Test.YtldkblgclochjaaGreatDoorChecked
import Derived.ProofKit
import Derived.SizedLaws
import Derived.SliceStrings
import Derived.Test.YtldkblgclochjaaGreatDoorTie
import Derived.Test.YtldkblgclochjaaGreatDoorCards
import Derived.LaidMore
import Derived.OpenShut
import Derived.Stop.Joined
import Derived.Lib.LaidTab
import Derived.Lib.LaidU8T
import Derived.Lay
set_option maxRecDepth 100000
set_option maxHeartbeats 16000000
namespace Go.Proofs.YtldkblgclochjaaGreatDoor
open Go.RowKit
def BH(d:Nat):Prop:=∀(w:World) (O:Nat->Prop) (j:J) (k i deep n:Int) (t:ByteArray) (pk pl:Option Addr) (nk ck nl cl:Nat),(∀x,O x->x<w.heap.size)->deep=(d:Int)->d<=100->0<=n->n<=100000→
 isJ O w j [.int .i64 k,.int .i64 i,.string t,.slice pk nk ck,.slice pl nl cl]→
 Calls Tryz.prog 5 #[.agg #[.int .i64 k,.int .i64 i,.string t,.slice pk nk ck,.slice pl nl cl],.int .i64 n,.int .i64 deep] w fun x w'=>(∃r:Int,x=.returned (.int .i64 r)/\r<=n/\-1<=r/\(0<=r->smallJ d j=true/\(uf d j:Int)+r<=n))/\Below w.heap.size w w'
theorem LW:BH 0:=by
 intro w O j k i deep n t pk pl nk ck nl cl f d _ h0 m _;subst d;have c:Below w.heap.size w (w.alloc (.cells #[.int .i64 k,.int .i64 i,.string t,.slice pk nk ck,.slice pl nl cl] 25)):=(Below.refl _ _).alloc (Nat.le_refl _) _
 by_cases h1:n<1
 ·go_enter Tryz.func5,Tryz.ntmps5;go_wp2;go_ret;exact⟨⟨-1,rfl,by omega,by omega,fun h=>absurd h (by decide)⟩,c⟩
 ·go_enter Tryz.func5,Tryz.ntmps5;go_wp2;go_ret;exact⟨⟨-1,rfl,by omega,by omega,fun h=>absurd h (by decide)⟩,c⟩
theorem LX{d:Nat}(V:BH d):BH (d+1):=by
 intro w O j k i deep n t pk pl nk ck nl cl H lq hd h0 hn hj;obtain⟨kx,ix,tx,ks,l⟩:=j;unfold isJ at hj;obtain⟨GX,Er,GY,vD,e,hk,hl,hs⟩:=hj;simp only[List.cons.injEq,Value.int.injEq,Value.string.injEq,Value.slice.injEq,true_and,and_true]at e;obtain⟨rfl,rfl,rfl,⟨rfl,rfl,rfl⟩,rfl,rfl,rfl⟩:=e;have rQ:1<=deep:=by omega
 have uG:deep<=101:=by omega
 have HD:Hid (deep - 1=(d:Int)):=by show _=_;omega
 have Y:Hid (d<=100):=by show _<=_;omega
 clear lq hd;obtain⟨nk,X⟩:∃n,ks.length=n:=⟨_,rfl⟩;obtain⟨nl,mo⟩:∃n,l.length=n:=⟨_,rfl⟩;have N:Hid (ks.length=nk):=X;have nH:Hid (l.length=nl):=mo;have Bj:=hk.1;rw[X]at Bj ⊢;rw[mo]at hl ⊢;clear X mo;have f:Below w.heap.size w (w.alloc (.cells #[.int .i64 k,.int .i64 i,.string t,.slice pk nk ck,.slice pl nl cl] 25)):=(Below.refl _ _).alloc (Nat.le_refl _) _;have neg:∀(w':World) (x:Ending),x=.returned (.int .i64 (-1))->Below w.heap.size w w'->(∃r:Int,x=.returned (.int .i64 r)/\r<=n/\-1<=r/\(0<=r->smallJ (d+1) (.mk k i t ks l)=true/\(uf (d+1) (.mk k i t ks l):Int)+r<=n))/\Below w.heap.size w w':=fun w' x F A=>⟨⟨-1,F,by omega,by omega,fun h=>absurd h (by decide)⟩,A⟩;have I:Hid (∀(w':World) (x:Ending),x=.returned (.int .i64 (-1))->Below w.heap.size w w'->(∃r:Int,x=.returned (.int .i64 r)/\r<=n/\-1<=r/\(0<=r->smallJ (d+1) (.mk k i t ks l)=true/\(uf (d+1) (.mk k i t ks l):Int)+r<=n))/\Below w.heap.size w w'):=neg;clear neg
 by_cases h1:n<1
 ·go_enter Tryz.func5,Tryz.ntmps5;go_wp2;go_ret;exact I.out _ _ rfl f
 by_cases h2:(2000:Int)<t.size
 ·go_enter Tryz.func5,Tryz.ntmps5;go_wp2;go_ret;exact I.out _ _ rfl f
 by_cases h3:(100:Int)<nk
 ·go_enter Tryz.func5,Tryz.ntmps5;go_wp2;go_ret;exact I.out _ _ rfl f
 by_cases h4:(300:Int)<nl
 ·go_enter Tryz.func5,Tryz.ntmps5;go_wp2;go_ret;exact I.out _ _ rfl f
 obtain⟨wB,K⟩:∃wB,wB=w.alloc (.cells #[.int .i64 k,.int .i64 i,.string t,.slice pk nk ck,.slice pl nl cl] 25):=⟨_,rfl⟩;have T:wB.heap[w.heap.size]?=some (.cells #[.int .i64 k,.int .i64 i,.string t,.slice pk nk ck,.slice pl nl cl] 25 (0,0)):=by rw[K];exact heap_alloc_new _ _
 have EP:w.heap.size<wB.heap.size:=(Array.getElem?_eq_some_iff.1 T).1;rw[<-K]at f;have EB:Hid (∀W:World,Below wB.heap.size wB W->∀n v, [Value.int .i64 k,.int .i64 i,.string t,.slice pk nk ck,.slice pl nl cl][n]?=some v->W.cell? ⟨w.heap.size,n,none⟩=some v):=fun W hW n v hv=>
  (World.cell?_of_block (a:=⟨w.heap.size,n,none⟩) (hW.block w.heap.size EP)).trans (aQ (cur:= [.int .i64 k,.int .i64 i,.string t,.slice pk nk ck,.slice pl nl cl]) T n v hv)
 go_enter Tryz.func5,Tryz.ntmps5;go_wp2;rw[<-K];clear K T
 go_loopw [7] (fun v wr=>∃m:Nat,v=.int .i64 m/\m<=nk/\Hid (∀x,x<m->(ks.getD x aH).size<=300)/\wr=wB) (fun v _=>nk - (intOf v).toNat)
 case atStart=>exact⟨0,rfl,Nat.zero_le _,fun m hm=>absurd hm (by omega),rfl⟩
 case round=>
  obtain⟨m,rfl,hm,HE,rfl⟩:=hrel;have a3:=EB.out wr (Below.refl _ _) 3 _ rfl
  by_cases uN:m<nk
  ·have oH:(m:Int)<(nk:Int):=by omega
   obtain⟨ka,Ct,xf,KN⟩:=hk.2 m (by rw[N.out];exact uN);subst Ct;have hKA:wr.cell? (ka.add m)=some (.string (ks.getD m aH)):=(World.cell?_of_block (by rw[bu];exact f.block _ (H _ xf))).trans KN;obtain⟨u,hu⟩:∃u,ks.getD m aH=u:=⟨_,rfl⟩;have HU:Hid (ks.getD m aH=u):=hu;rw[hu]at hKA;clear hu KN
   by_cases hus:(300:Int)<u.size
   ·go_wp2;go_ret;exact I.out _ _ rfl f
   ·go_wp2;go_roundw
    case rel=>exact⟨m+1,by go_num,uN,fun x F=>(Nat.lt_succ_iff_lt_or_eq.1 F).elim (HE.out x) fun e=>by rw[e,HU.out];omega,trivial⟩
    case measure=>simp[intOf];omega
  ·obtain rfl:m=nk:=by omega
   have WW:Hid (ks.all (fun k=>decide (k.size<=2000))=true):=by
    show _=_
    rw[List.all_eq_true];intro x F;obtain⟨y,hy,rfl⟩:=List.getElem_of_mem F;have:=HE.out y (by rw[<-N.out];exact hy);rw[VS hy]at this;exact decide_eq_true (by omega)
   go_wp2
   go_loopw [1,8] (fun u v w2=>∃(m:Nat) (r:Int),v=.int .i64 m/\u=.int .i64 r/\m<=nl/\r<=n - 1/\-1<=r/\Hid (0<=r->(l.take m).all (smallJ d)=true/\(((l.take m).map (uf d)).sum:Int)+r<=n - 1)/\Below wr.heap.size wr w2) (fun _ v _=>nl - (intOf v).toNat)
   case atStart=>exact⟨0,n - 1,rfl,rfl,Nat.zero_le _,by omega,by omega,fun _=>⟨rfl,by simp⟩,Below.refl _ _⟩
   case round=>
    obtain⟨c,r,rfl,rfl,hm',hrn,zV,HT,z⟩:=hrel;have a4:=EB.out wr z 4 _ rfl
    by_cases lG:c<nl
    ·have oH:(c:Int)<(nl:Int):=by omega
     by_cases hr:0<=r
     ·have Z:c<l.length:=by rw[nH.out];exact lG
      have Je:Hid (c<l.length):=Z;obtain⟨G,lo,cs,rO,uq,bL,S⟩:=isJs.at l 0 c hs Z;subst rO;obtain⟨U,x1,x2,p3,n3,c3,p4,n4,c4,rfl⟩:=dD S;have gT:=(z.block G (by have:=H _ uq;omega)).trans (f.block G (H _ uq));have E:∀m v, [Value.int .i64 U,.int .i64 x1,.string x2,.slice p3 n3 c3,.slice p4 n4 c4][m]?=some v->wr.cell? ⟨G,lo+c*5+m,none⟩=some v:=fun m v h=>by
       have:=bL m v h;rw[Nat.zero_add]at this;exact(World.cell?_of_block (a:=⟨G,lo+c*5+m,none⟩) gT).trans this
      have y0:wr.cell? ⟨G,lo+c*5,none⟩=some (.int .i64 U):=E 0 _ rfl;have y1:=E 1 _ rfl;have y2:=E 2 _ rfl;have y3:=E 3 _ rfl;have y4:=E 4 _ rfl;have V_:=eF f (by omega) z;have hV:=V wr O (l.getD c J.zero) U x1 (deep - 1) r x2 p3 p4 n3 c3 n4 c4 (fun b A=>Nat.lt_of_lt_of_le (H b A) V_.size) HD.out Y.out hr (by omega) (S.carry fun b A=>⟨A,V_.block b (H b A)⟩);clear E bL Z S gT;go_wp2_with(go_at_call 5;refine hV.mono ?_;rintro x w4 ⟨⟨r4,rfl,Jf,GK,uk⟩,eQ⟩);go_roundw
      case rel=>exact⟨c+1,r4,by go_num,rfl,lG,by omega,GK,fun h=>⟨by rw[Cv Je.out,(HT.out hr).1,(uk h).1];rfl,by
       have h1:=(HT.out hr).2;have h2:=(uk h).2;rw[iA Je.out,List.map_append,List.sum_append,List.map_singleton,List.sum_singleton];omega⟩,eF z z.size eQ⟩
      case measure=>simp[intOf];omega
     ·go_wp2;go_ret;refine⟨⟨r,rfl,by omega,zV,fun h=>absurd h (by omega)⟩,eF f (by omega) z⟩
    ·obtain rfl:c=nl:=by omega
     go_wp2;go_ret;refine⟨⟨r,rfl,by omega,zV,fun h=> ?_⟩,eF f (by omega) z⟩;obtain⟨ht,hc⟩:=HT.out h;rw[List.take_of_length_le (by rw[nH.out];omega)]at ht hc;refine⟨?_, ?_⟩
     ·unfold smallJ;rw[WW.out,ht,N.out,nH.out,decide_eq_true (show t.size<=2000 by omega),decide_eq_true (show m<=200 by omega),decide_eq_true (show c<=2000 by omega)]
      rfl
     ·unfold uf;omega
theorem Rf:∀d,BH d
 | 0=>LW
 | d+1=>LX (Rf d)
theorem Uo:Tryz.prog.underlying 53=some (.struct (Tryz.prog.fieldsOf 53)):=by kernel_rfl
theorem Yx:Tryz.prog.stoodInHeld 53=false:=by kernel_rfl
theorem zaL:(Tryz.prog.fieldsOf 53).toList= [{name:= "Server",type:=9,offset:=0,embedded:=false,tag:= "",pkgPath:= "",byteOffset:=0},{name:= "Token",type:=9,offset:=1,embedded:=false,tag:= "",pkgPath:= "",byteOffset:=16}]:=by kernel_rfl
theorem zaM(w:World)(u v:ByteArray):(binOp .neq 53 (.agg #[.string u,.string v]) (.agg #[.string u,.string v])).run Tryz.prog w=.ok (.bool false) w:=by
 have f:Tryz.prog.underlying 9=some .string:=by kernel_rfl
 rw[run_neq_struct,run_equalIn_agg w 9999 53 _ _ Uo Yx,zaL];have d:∀W,(part 9 #[.string u,.string v] 0).run Tryz.prog W=.ok (.string u) W:=fun W=>by simp[go_sem,part]
 have c:∀W,(part 9 #[.string u,.string v] 1).run Tryz.prog W=.ok (.string v) W:=fun W=>by simp[go_sem,part]
 have e:∀(W:World) (a:ByteArray),(Op.equalIn 9999 9 (.string a) (.string a)).run Tryz.prog W=.ok true W:=fun W a=>by rw[run_equalIn_string W 9998 9 a a f];simp
 simp[Op.eqFields,d,c,e,Result.andThen]
theorem zaN{O:Nat->Prop}(e:Ev)(p p2:Pt)(w:World)(h1:mY O w e p)(h2:mY O w e p2)(h:∀k,O k->k<w.heap.size)(X:Ee e)(hg:goodJ 12 e.content=true):
    Calls Tryz.prog 8 #[fA e p,fA e p2] w fun x w'=>x=.returned (.bool true)/\Below w.heap.size w w':=by
 obtain⟨room,aU,ai,st,key,⟨k,i,t,ks,l⟩,prev,aA,depth,ts,hash,sigs⟩:=e;obtain⟨pk,ck,pl,cl,pp,cp,pa,ca,ps,cs⟩:=p;obtain⟨N,K,I,H,A,z,T,U,V,Xr⟩:=p2;obtain⟨c,E⟩:∃n,sigs.length=n:=⟨_,rfl⟩;have HNS:Hid (sigs.length=c):=E;have hnz:c<=100000:=by rw[<-E];exact X.sigs
 have M0:c<=cs:=by rw[<-E];exact h1.sigs.1
 have xN:c<=Xr:=by rw[<-E];exact h2.sigs.1
 have F:(⟨room,aU,ai,st,key,⟨k,i,t,ks,l⟩,prev,aA,depth,ts,hash,sigs⟩:Ev).sigs.length=c:=E;obtain⟨WA,G⟩:∃WA,WA=(w.alloc (.cells #[.string room,.string aU,.string ai,.bool st,.string key,.int .i64 k,.int .i64 i,.string t,.slice pk ks.length ck,.slice pl l.length cl,.slice pp prev.length cp,.slice pa aA.length ca,.int .i64 depth,.int .i64 ts,.string hash,.slice ps c cs] 29)).alloc (.cells #[.string room,.string aU,.string ai,.bool st,.string key,.int .i64 k,.int .i64 i,.string t,.slice N ks.length K,.slice I l.length H,.slice A prev.length z,.slice T aA.length U,.int .i64 depth,.int .i64 ts,.string hash,.slice V c Xr] 29):=⟨_,rfl⟩;have f:Below w.heap.size w WA:=by rw[G];exact((Below.refl _ _).alloc (Nat.le_refl _) _).alloc (by simp) _
 have FM:w.heap.size+2<=WA.heap.size:=by rw[G];simp
 have Y:WA.heap[w.heap.size]?=some (.cells #[.string room,.string aU,.string ai,.bool st,.string key,.int .i64 k,.int .i64 i,.string t,.slice pk ks.length ck,.slice pl l.length cl,.slice pp prev.length cp,.slice pa aA.length ca,.int .i64 depth,.int .i64 ts,.string hash,.slice ps c cs] 29 (0,0)):=by rw[G];exact kV _ _
 have hxB:WA.heap[w.heap.size+1]?=some (.cells #[.string room,.string aU,.string ai,.bool st,.string key,.int .i64 k,.int .i64 i,.string t,.slice N ks.length K,.slice I l.length H,.slice A prev.length z,.slice T aA.length U,.int .i64 depth,.int .i64 ts,.string hash,.slice V c Xr] 29 (0,0)):=by rw[G];exact jm _ _
 have HC:Hid (∀W,Below WA.heap.size WA W->(∀j v, [.string room,.string aU,.string ai,.bool st,.string key,.int .i64 k,.int .i64 i,.string t,.slice pk ks.length ck,.slice pl l.length cl,.slice pp prev.length cp,.slice pa aA.length ca,.int .i64 depth,.int .i64 ts,.string hash,.slice ps c cs][j]?=some v->W.cell? ⟨w.heap.size,j,none⟩=some v)/\(∀j v, [.string room,.string aU,.string ai,.bool st,.string key,.int .i64 k,.int .i64 i,.string t,.slice N ks.length K,.slice I l.length H,.slice A prev.length z,.slice T aA.length U,.int .i64 depth,.int .i64 ts,.string hash,.slice V c Xr][j]?=some v->W.cell? ⟨w.heap.size+1,j,none⟩=some v)):=fun W d=>⟨fun j v S=>aQ ((d.block _ (by omega)).trans Y) j v S,fun j v S=>aQ ((d.block _ (by omega)).trans hxB) j v S⟩;have AX:∀W,Below WA.heap.size WA W->∀k,O k->k<W.heap.size:=fun W d k hk=>Nat.lt_of_lt_of_le (h k hk) (ae f d).size;have T1:=sS (h1.below h f).prev (h2.below h f).prev (AX WA (Below.refl _ _)) X.prev;have S2:Hid (∀W,Below WA.heap.size WA W->Calls Tryz.prog 24 #[.slice pa aA.length ca,.slice T aA.length U] W fun x w'=>x=.returned (.bool true)/\Below W.heap.size W w'):=fun W d=>sS (h1.below h (ae f d)).aA (h2.below h (ae f d)).aA (AX W d) X.aA;have S3:Hid (∀W,Below WA.heap.size WA W->Calls Tryz.prog 14 #[.agg #[.int .i64 k,.int .i64 i,.string t,.slice pk ks.length ck,.slice pl l.length cl],.agg #[.int .i64 k,.int .i64 i,.string t,.slice N ks.length K,.slice I l.length H]] W fun x w'=>x=.returned (.bool true)/\Below W.heap.size W w'):=fun W d=>(QQ 12 W O ⟨k,i,t,ks,l⟩ ⟨k,i,t,ks,l⟩ k i t pk pl ks.length ck l.length cl k i t N I ks.length K l.length H (AX W d) hg X.cont (h1.below h (ae f d)).cont (h2.below h (ae f d)).cont).mono (by rintro x w' ⟨⟨b,rfl,hb⟩,bO⟩;exact⟨by rw[hb.2 rfl],bO⟩);have SG:Hid (∀W,Below WA.heap.size WA W->∀j,j<c->∃b o b2 o2 u v,ps=some ⟨b,o,none⟩/\V=some ⟨b2,o2,none⟩/\W.cell? ⟨b,o+j*2,none⟩=some (.string u)/\W.cell? ⟨b,o+j*2+1,none⟩=some (.string v)/\W.cell? ⟨b2,o2+j*2,none⟩=some (.string u)/\W.cell? ⟨b2,o2+j*2+1,none⟩=some (.string v)):=fun W d j S=>by
  obtain⟨b,o,e1,_,x1,x2⟩:=(h1.below h (ae f d)).sigs.2 j (by rw[F];exact S);obtain⟨b2,o2,e2,_,y1,y2⟩:=(h2.below h (ae f d)).sigs.2 j (by rw[F];exact S);exact⟨b,o,b2,o2,_,_,e1,e2,x1,x2,y1,y2⟩
 have rR:Hid (Below w.heap.size w WA):=f;simp only[fA,iN,J.kind,J.int,J.text,J.keys,J.list]at T1 ⊢;rw[E];rw[G]at T1;have HWA:Hid (WA=(w.alloc (.cells #[.string room,.string aU,.string ai,.bool st,.string key,.int .i64 k,.int .i64 i,.string t,.slice pk ks.length ck,.slice pl l.length cl,.slice pp prev.length cp,.slice pa aA.length ca,.int .i64 depth,.int .i64 ts,.string hash,.slice ps c cs] 29)).alloc (.cells #[.string room,.string aU,.string ai,.bool st,.string key,.int .i64 k,.int .i64 i,.string t,.slice N ks.length K,.slice I l.length H,.slice A prev.length z,.slice T aA.length U,.int .i64 depth,.int .i64 ts,.string hash,.slice V c Xr] 29)):=G;clear G Y hxB f FM AX h1 h2 X hg h E F;go_enter Tryz.func8,Tryz.ntmps8;go_wp2_with(first
  | (go_at_call 14;refine T3.mono ?_;rintro x w3 ⟨rfl,dh⟩
     have g3:=ae g2 dh)
  | (go_at_call 24;have _g:=T2;refine T2.mono ?_;rintro x w2 ⟨rfl,bO⟩
     have g2:=ae g1 bO;have T3:=S3.out w2 g2;clear T2;have u2:=HC.out w2 g2;have zeg:=u2.1 15 _ rfl;have zeh:=u2.2 15 _ rfl;have zgv:=u2.1 5 _ rfl;have zgw:=u2.2 5 _ rfl;have zgx:=u2.1 6 _ rfl;have zgy:=u2.2 6 _ rfl;have zgz:=u2.1 7 _ rfl;have zgA:=u2.2 7 _ rfl;have zgB:=u2.1 8 _ rfl;have zgC:=u2.2 8 _ rfl;have zgD:=u2.1 9 _ rfl;have zgE:=u2.2 9 _ rfl;clear u2)
  | (go_at_call 24;refine T1.mono ?_;rintro x w1 ⟨rfl,bK⟩
     rw[<-HWA.out]at bK;have g1:=bK;have T2:=S2.out w1 g1;have u1:=HC.out w1 g1;have zei:=u1.1 11 _ rfl;have zej:=u1.2 11 _ rfl;clear u1))
 go_loopw [5] (fun v wr=>∃m:Nat,v=.int .i64 m/\m<=c/\Below WA.heap.size WA wr) (fun v _=>c - (intOf v).toNat)
 case atStart=>exact⟨0,rfl,Nat.zero_le _,g3⟩
 case round=>
  obtain⟨m,rfl,hm,Z⟩:=hrel;have ur:=(HC.out wr Z).1 15 _ rfl;have ur2:=(HC.out wr Z).2 15 _ rfl
  by_cases bQ:m<c
  ·have oH:(m:Int)<(c:Int):=by omega
   obtain⟨b,o,b2,o2,u,v,rfl,rfl,x1,x2,y1,y2⟩:=SG.out wr Z m bQ;have zhM:∀W,(binOp .neq 53 (.agg #[.string u,.string v]) (.agg #[.string u,.string v])).run Tryz.prog W=.ok (.bool false) W:=fun W=>zaM W u v;go_wp2;refine wp_region_quiet_lit (by kernel_rfl) (by kernel_rfl) ?_
   repeat (any_goals (first| go_big_quiet_step (fail)| quiet_step (fail)))
   refine wpQuiet_nil ?_;intro _ hw;obtain⟨nq,hw⟩:=hw;subst hw;go_wp2;go_roundw
   case rel=>exact⟨m+1,by go_num,bQ,KO Z _⟩
   case measure=>simp[intOf];omega
  ·obtain rfl:m=c:=by omega
   go_wp2;go_ret;exact⟨rfl,ae rR.out Z⟩
open Go.RowKit Go.Maps
theorem LY(O:Nat->Prop)(w:World)(k i:Int)(t:ByteArray):isJ O w (.mk k i t [] []) [.int .i64 k,.int .i64 i,.string t,.slice none 0 0,.slice none 0 0]:=by
 unfold isJ;exact⟨none,0,none,0,rfl,j5.nil _ _,Nat.le_refl _,by unfold isJs;trivial⟩
theorem u_(O:Nat->Prop)(w:World)(r t s:ByteArray)(st:Bool)(key:ByteArray)(k i:Int)(x:ByteArray)(d ts:Int)(h:ByteArray):mY O w ⟨r,t,s,st,key,.mk k i x [] [], [], [],d,ts,h, []⟩ Pt.zero:=
 ⟨LY _ _ _ _ _,j5.nil _ _,j5.nil _ _,FK.nil _ _ _ _⟩
theorem zfk{w:World}{b:Nat}(h:w.heap[b]?=some (.cells #[.string ⟨#[98]⟩,.string TR,.string ⟨#[97]⟩,.string TR] 53 (0,0))):mY (fun q=>q=b) w BG ⟨none,0,none,0,none,0,none,0,some ⟨b,0,none⟩,2⟩:=by
 refine⟨LY _ _ _ _ _,j5.nil _ _,j5.nil _ _,Nat.le_refl _,fun j c=>⟨b,0,rfl,rfl, ?_⟩⟩
 match j,c with
 | 0,_=>exact⟨aQ (cur:= [_,_,_,_]) h 0 _ rfl,aQ (cur:= [_,_,_,_]) h 1 _ rfl⟩
 | 1,_=>exact⟨aQ (cur:= [_,_,_,_]) h 2 _ rfl,aQ (cur:= [_,_,_,_]) h 3 _ rfl⟩
theorem Yy:Ee gK:=vR aH (by decide) [] (by decide) (fun x c=>by cases c) _ (by kernel_rfl)
theorem zfl:Ee Ih:=vR ⟨#[107]⟩ (by decide) [] (by decide) (fun x c=>by cases c) _ (by kernel_rfl)
theorem zfm:Ee Ii:=vR aH (by decide) [] (by decide) (fun x c=>by cases c) _ (by kernel_rfl)
theorem zfn:Ee BG:=vR aH (by decide) _ (by decide) (fun x c=>by
 simp only[List.mem_cons,List.not_mem_nil,or_false]at c
 rcases c with rfl| rfl<;>exact⟨by decide,by decide⟩) _ (by kernel_rfl)
theorem zds:dX (ord (dW gK))=ord (dW gK):=by
 have d:=g_ uT;have c:=ig 12 _ d;unfold dX;rw[if_pos c];exact lT 12 _ c (mK 12 _ d)
def zfo(w:World)(p:Option Addr)(n c:Nat):Prop:=n=(tZ gK).length/\Rd w.heap.size w p c (tZ gK)
theorem zfp(w:World)(k:lW w):Calls Tryz.prog 11 #[.agg #[.string gD,.string gF,.string dA,.bool false,.string aH,.int .i64 5,.int .i64 0,.string aH,.slice none 0 0,.slice none 0 0,.slice none 0 0,.slice none 0 0,.int .i64 0,.int .i64 0,.string aH,.slice none 0 0]] w fun x w'=>(∃p n c,x=.returned (.tuple #[.slice p n c,.int .i64 0])/\zfo w' p n c)/\Below w.heap.size w w':=by
 have h:=Aq (O:=fun _=>False) gK Pt.zero w (u_ _ _ _ _ _ _ _ _ _ _ _ _ _) (fun _ h=>h.elim) Yy k;simp only[fA,iN,J.kind,J.int,J.text,J.keys,J.list,gK,Pt.zero,List.length_nil]at h;refine h.mono ?_;rintro x w' ⟨_,_,h3,h4⟩;obtain⟨v,j,d⟩:=h3 uT Xt;obtain⟨q,c,rfl,f⟩:=zbL (g_ uT) d;exact⟨⟨q,_,c,j,rfl,f⟩,h4⟩
theorem zfq(w:World)(p:Option Addr)(n c:Nat)(d:zfo w p n c)(k:lW w):Calls Tryz.prog 10 #[.slice p n c] w fun x w'=>(∃pk ck pl cl pp cp pa ca ps cs,x=.returned (.tuple #[.agg #[.string gD,.string gF,.string dA,.bool false,.string aH,.int .i64 5,.int .i64 0,.string aH,.slice pk 0 ck,.slice pl 0 cl,.slice pp 0 cp,.slice pa 0 ca,.int .i64 0,.int .i64 0,.string aH,.slice ps 0 cs],.int .i64 0])/\mY (gH w w') w' gK ⟨pk,ck,pl,cl,pp,cp,pa,ca,ps,cs⟩)/\Below w.heap.size w w':=by
 obtain⟨rfl,d⟩:=d;have h:=O1 d (Nat.le_trans Xt (by decide)) (NK (g_ uT) Xt) (CE 12 _ (ig 12 _ (g_ uT))) zb9 k;rw[zds,zb8]at h;refine h.mono ?_;rintro x w' ⟨⟨j,rfl,m⟩,f⟩;obtain⟨pk,ck,pl,cl,pp,cp,pa,ca,ps,cs⟩:=j;exact⟨⟨pk,ck,pl,cl,pp,cp,pa,ca,ps,cs,rfl,m⟩,f⟩
theorem zfr(w:World)(c:lW w):Calls Tryz.prog 13 #[.agg #[.string gD,.string gF,.string dA,.bool false,.string aH,.int .i64 5,.int .i64 0,.string aH,.slice none 0 0,.slice none 0 0,.slice none 0 0,.slice none 0 0,.int .i64 0,.int .i64 0,.string aH,.slice none 0 0]] w fun x w'=>x=.returned (.int .i64 0)/\Below w.heap.size w w':=by
 have h:=kW (O:=fun _=>False) gK Pt.zero w (u_ _ _ _ _ _ _ _ _ _ _ _ _ _) (fun _ h=>h.elim) Yy c;rw[zai]at h;exact h
theorem zfs(w:World)(c:lW w):Calls Tryz.prog 13 #[.agg #[.string gD,.string gF,.string dA,.bool false,.string ⟨#[107]⟩,.int .i64 5,.int .i64 0,.string aH,.slice none 0 0,.slice none 0 0,.slice none 0 0,.slice none 0 0,.int .i64 0,.int .i64 0,.string aH,.slice none 0 0]] w fun x w'=>x=.returned (.int .i64 50)/\Below w.heap.size w w':=by
 have h:=kW (O:=fun _=>False) Ih Pt.zero w (u_ _ _ _ _ _ _ _ _ _ _ _ _ _) (fun _ h=>h.elim) zfl c;rw[zaj]at h;exact h
theorem zft(w:World)(c:lW w):Calls Tryz.prog 13 #[.agg #[.string gD,.string gF,.string dA,.bool false,.string aH,.int .i64 0,.int .i64 0,.string aH,.slice none 0 0,.slice none 0 0,.slice none 0 0,.slice none 0 0,.int .i64 0,.int .i64 0,.string aH,.slice none 0 0]] w fun x w'=>x=.returned (.int .i64 50)/\Below w.heap.size w w':=by
 have h:=kW (O:=fun _=>False) Ii Pt.zero w (u_ _ _ _ _ _ _ _ _ _ _ _ _ _) (fun _ h=>h.elim) zfm c;rw[zal]at h;exact h
theorem zfu(w:World)(b:Nat)(f:lW w)(c:w.heap[b]?=some (.cells #[.string ⟨#[98]⟩,.string TR,.string ⟨#[97]⟩,.string TR] 53 (0,0))):Calls Tryz.prog 13 #[.agg #[.string gD,.string gF,.string dA,.bool false,.string aH,.int .i64 5,.int .i64 0,.string aH,.slice none 0 0,.slice none 0 0,.slice none 0 0,.slice none 0 0,.int .i64 0,.int .i64 0,.string aH,.slice (some ⟨b,0,none⟩) 2 2]] w fun x w'=>x=.returned (.int .i64 50)/\Below w.heap.size w w':=by
 have h:=kW (O:=fun q=>q=b) BG ⟨none,0,none,0,none,0,none,0,some ⟨b,0,none⟩,2⟩ w (zfk c) (fun k d=>by subst d;exact(Array.getElem?_eq_some_iff.mp c).1) zfn f;rw[zak]at h;exact h
theorem zfv{O:Nat->Prop}(w:World)(pk:Option Addr)(ck:Nat)(pl:Option Addr)(cl:Nat)(pp:Option Addr)(cp:Nat)(pa:Option Addr)(ca:Nat)(ps:Option Addr)(cs:Nat)(d:mY O w gK ⟨pk,ck,pl,cl,pp,cp,pa,ca,ps,cs⟩)(c:∀k,O k->k<w.heap.size):Calls Tryz.prog 8 #[.agg #[.string gD,.string gF,.string dA,.bool false,.string aH,.int .i64 5,.int .i64 0,.string aH,.slice none 0 0,.slice none 0 0,.slice none 0 0,.slice none 0 0,.int .i64 0,.int .i64 0,.string aH,.slice none 0 0],.agg #[.string gD,.string gF,.string dA,.bool false,.string aH,.int .i64 5,.int .i64 0,.string aH,.slice pk 0 ck,.slice pl 0 cl,.slice pp 0 cp,.slice pa 0 ca,.int .i64 0,.int .i64 0,.string aH,.slice ps 0 cs]] w fun x w'=>x=.returned (.bool true)/\Below w.heap.size w w':=
 Xo gK Pt.zero ⟨pk,ck,pl,cl,pp,cp,pa,ca,ps,cs⟩ w (u_ _ _ _ _ _ _ _ _ _ _ _ _ _) d c Yy (by kernel_rfl) rfl
section
variable {w : World} {dQ : Array Oper} {rest : List Oper} {o : Oper} {a : Act} {Q : Exit -> Act -> World -> Prop} {b : Nat} {t : TypeId} {u0 u1 u2 u3 u4 u5 u6 u7 u8 u9 u10 u11 u12 u13 u14 u15 : Value}
theorem jZ(f:Region.wanted o (yielded dQ a.tmps)=true)(m:Operand)(c:o.op=Op.load 29 m)(k:a.eval m=.pointer (some ⟨b,0,none⟩))(h:w.heap[b]?=some (.cells #[u0,u1,u2,u3,u4,u5,u6,u7,u8,u9,u10,u11,u12,u13,u14,u15] t (0,0)))
    (j:wpList Tryz.prog dQ Q rest (a.put o.dst (.agg #[u0,u1,u2,u3,u4,u5,u6,u7,u8,u9,u10,u11,u12,u13,u14,u15])) w):wpList Tryz.prog dQ Q (o::rest) a w:=by
 have d:=yu h;simp only[wpList,f,if_true];refine Or.inl ?_;unfold Oper.wp;simp[execOp,c,k,d,Result.andThen];exact j
end
theorem Uq(w:World)(hT:lW w):Calls Tryz.prog 9 #[] w fun x w'=>x=.returned (.bool true)/\Below w.heap.size w w':=by
 have hS:=O3 w;have HT:Hid (lW w):=hT;clear hT;simp only[fA,iN,J.kind,J.int,J.text,J.keys,J.list,gK,Pt.zero,List.length_nil]at hS;go_enter Tryz.func9,Tryz.ntmps9
 go_upto_region 2 with(go_at_call 25;refine hS.mono ?_;rintro x z ⟨rfl,bK⟩)
 clear hS;obtain⟨d,E⟩:∃d,d=z.alloc (.cells #[.string gD,.string gF,.string dA,.bool false,.string aH,.int .i64 5,.int .i64 0,.string aH,.slice none 0 0,.slice none 0 0,.slice none 0 0,.slice none 0 0,.int .i64 0,.int .i64 0,.string aH,.slice none 0 0] 29):=⟨_,rfl⟩;have e1:d.heap[z.heap.size]?=some (.cells #[.string gD,.string gF,.string dA,.bool false,.string aH,.int .i64 5,.int .i64 0,.string aH,.slice none 0 0,.slice none 0 0,.slice none 0 0,.slice none 0 0,.int .i64 0,.int .i64 0,.string aH,.slice none 0 0] 29 (0,0)):=by rw[E];exact heap_alloc_new _ _
 have g1:Below w.heap.size w d:=by rw[E];exact bK.alloc bK.size _
 have s1:z.heap.size<d.heap.size:=by rw[E];simp
 have s0:=bK.size;rw[<-E];clear E bK
 go_upto_region 3 with(refine dB rfl _ rfl rfl e1 ?_)
 obtain⟨W2,u⟩:∃W2,W2=d.alloc (.cells #[.string gD,.string gF,.string dA,.bool false,.string aH,.int .i64 5,.int .i64 0,.string aH,.slice none 0 0,.slice none 0 0,.slice none 0 0,.slice none 0 0,.int .i64 0,.int .i64 0,.string aH,.slice none 0 0] 29):=⟨_,rfl⟩;have e2:W2.heap[z.heap.size]?=some (.cells #[.string gD,.string gF,.string dA,.bool false,.string aH,.int .i64 5,.int .i64 0,.string aH,.slice none 0 0,.slice none 0 0,.slice none 0 0,.slice none 0 0,.int .i64 0,.int .i64 0,.string aH,.slice none 0 0] 29 (0,0)):=by rw[u,Below.heap_alloc _ _ _ s1];exact e1
 have f2:W2.heap[d.heap.size]?=some (.cells #[.string gD,.string gF,.string dA,.bool false,.string aH,.int .i64 5,.int .i64 0,.string aH,.slice none 0 0,.slice none 0 0,.slice none 0 0,.slice none 0 0,.int .i64 0,.int .i64 0,.string aH,.slice none 0 0] 29 (0,0)):=by rw[u];exact heap_alloc_new _ _
 have g2:Below w.heap.size w W2:=by rw[u];exact g1.alloc g1.size _
 have s2:d.heap.size<W2.heap.size:=by rw[u];simp
 rw[<-u];clear u e1;have q4:=az f2 4 _ rfl;have z4:=aW f2 4
 go_upto_region 4 with fail
 clear q4 z4;have K3:ag (One d.heap.size) W2 (W2.setCell ⟨d.heap.size,4,none⟩ (.string ⟨#[107]⟩)):=ag.setCell (ag.refl _ _) (fun _=>(rfl:d.heap.size=d.heap.size)) _;have f3:(W2.setCell ⟨d.heap.size,4,none⟩ (.string ⟨#[107]⟩)).heap[d.heap.size]?=some (.cells #[.string gD,.string gF,.string dA,.bool false,.string ⟨#[107]⟩,.int .i64 5,.int .i64 0,.string aH,.slice none 0 0,.slice none 0 0,.slice none 0 0,.slice none 0 0,.int .i64 0,.int .i64 0,.string aH,.slice none 0 0] 29 (0,0)):=by rw[heap_setCell_same _ d.heap.size 4 _ _ _ f2];rfl
 have e3:=(K3.block z.heap.size (by omega) (by unfold One;omega)).trans e2;obtain⟨f,FL⟩:∃f,f=W2.setCell ⟨d.heap.size,4,none⟩ (.string ⟨#[107]⟩):=⟨_,rfl⟩;rw[<-FL]at K3 f3 e3 ⊢;have s3:=K3.size;have g3:Below w.heap.size w f:=g2.trans (K3.below (by omega) fun q Y=>by unfold One;omega);clear FL f2 e2 K3
 go_upto_region 5 with(refine dB rfl _ rfl rfl e3 ?_)
 obtain⟨W4,j⟩:∃W4,W4=f.alloc (.cells #[.string gD,.string gF,.string dA,.bool false,.string aH,.int .i64 5,.int .i64 0,.string aH,.slice none 0 0,.slice none 0 0,.slice none 0 0,.slice none 0 0,.int .i64 0,.int .i64 0,.string aH,.slice none 0 0] 29):=⟨_,rfl⟩;have e4:W4.heap[z.heap.size]?=some (.cells #[.string gD,.string gF,.string dA,.bool false,.string aH,.int .i64 5,.int .i64 0,.string aH,.slice none 0 0,.slice none 0 0,.slice none 0 0,.slice none 0 0,.int .i64 0,.int .i64 0,.string aH,.slice none 0 0] 29 (0,0)):=by rw[j,Below.heap_alloc _ _ _ (by omega)];exact e3
 have f4:W4.heap[d.heap.size]?=some (.cells #[.string gD,.string gF,.string dA,.bool false,.string ⟨#[107]⟩,.int .i64 5,.int .i64 0,.string aH,.slice none 0 0,.slice none 0 0,.slice none 0 0,.slice none 0 0,.int .i64 0,.int .i64 0,.string aH,.slice none 0 0] 29 (0,0)):=by rw[j,Below.heap_alloc _ _ _ (by omega)];exact f3
 have k4:W4.heap[f.heap.size]?=some (.cells #[.string gD,.string gF,.string dA,.bool false,.string aH,.int .i64 5,.int .i64 0,.string aH,.slice none 0 0,.slice none 0 0,.slice none 0 0,.slice none 0 0,.int .i64 0,.int .i64 0,.string aH,.slice none 0 0] 29 (0,0)):=by rw[j];exact heap_alloc_new _ _
 have g4:Below w.heap.size w W4:=by rw[j];exact g3.alloc g3.size _
 have s4:f.heap.size<W4.heap.size:=by rw[j];simp
 rw[<-j];clear j e3 f3;have q5:=az k4 15 _ rfl;have z5:=aW k4 15
 go_upto_region 6 with fail
 clear q5 z5;have K5:ag (One f.heap.size) W4 (W4.setCell ⟨f.heap.size,15,none⟩ (.slice (some ⟨W4.heap.size,0,none⟩) 2 2)):=ag.setCell (ag.refl _ _) (fun _=>(rfl:f.heap.size=f.heap.size)) _;have k5a:(W4.setCell ⟨f.heap.size,15,none⟩ (.slice (some ⟨W4.heap.size,0,none⟩) 2 2)).heap[f.heap.size]?=some (.cells #[.string gD,.string gF,.string dA,.bool false,.string aH,.int .i64 5,.int .i64 0,.string aH,.slice none 0 0,.slice none 0 0,.slice none 0 0,.slice none 0 0,.int .i64 0,.int .i64 0,.string aH,.slice (some ⟨W4.heap.size,0,none⟩) 2 2] 29 (0,0)):=by rw[heap_setCell_same _ f.heap.size 15 _ _ _ k4];rfl
 have z5s:(W4.setCell ⟨f.heap.size,15,none⟩ (.slice (some ⟨W4.heap.size,0,none⟩) 2 2)).heap.size=W4.heap.size:=by simp
 obtain⟨W5,G⟩:∃W5,W5=(W4.setCell ⟨f.heap.size,15,none⟩ (.slice (some ⟨W4.heap.size,0,none⟩) 2 2)).alloc (.cells #[.string ⟨#[98]⟩,.string ⟨#[65,65,65,65,65,65,65,65,65,65,69]⟩,.string ⟨#[97]⟩,.string ⟨#[65,65,65,65,65,65,65,65,65,65,69]⟩] 53):=⟨_,rfl⟩;have F:∀q,q<W4.heap.size->q≠f.heap.size->W5.heap[q]?=W4.heap[q]?:=fun q Y hn=>by rw[G,Below.heap_alloc _ _ _ (by omega)];exact K5.block q Y hn
 have e5:=(F z.heap.size (by omega) (by omega)).trans e4;have f5:=(F d.heap.size (by omega) (by omega)).trans f4;have k5:W5.heap[f.heap.size]?=some (.cells #[.string gD,.string gF,.string dA,.bool false,.string aH,.int .i64 5,.int .i64 0,.string aH,.slice none 0 0,.slice none 0 0,.slice none 0 0,.slice none 0 0,.int .i64 0,.int .i64 0,.string aH,.slice (some ⟨W4.heap.size,0,none⟩) 2 2] 29 (0,0)):=by rw[G,Below.heap_alloc _ _ _ (by omega)];exact k5a
 have m5:W5.heap[W4.heap.size]?=some (.cells #[.string ⟨#[98]⟩,.string ⟨#[65,65,65,65,65,65,65,65,65,65,69]⟩,.string ⟨#[97]⟩,.string ⟨#[65,65,65,65,65,65,65,65,65,65,69]⟩] 53 (0,0)):=by
  have hh:=heap_alloc_new (W4.setCell ⟨f.heap.size,15,none⟩ (.slice (some ⟨W4.heap.size,0,none⟩) 2 2)) (.cells #[.string ⟨#[98]⟩,.string ⟨#[65,65,65,65,65,65,65,65,65,65,69]⟩,.string ⟨#[97]⟩,.string ⟨#[65,65,65,65,65,65,65,65,65,65,69]⟩] 53);rw[z5s]at hh;rw[G];exact hh
 have s5:W5.heap.size=W4.heap.size+1:=by rw[G];simp
 have g5:Below w.heap.size w W5:=g4.trans ⟨by rw[G];rfl,by rw[G];rfl,by rw[G];rfl,by omega,fun q Y=>F q (by have:=g4.size;omega) (by omega)⟩;have S5:Hid (W5.heap.size=W4.heap.size+1):=s5;have s5a:W4.heap.size<W5.heap.size:=by omega
 rw[<-G];clear G k5a z5s K5 e4 f4 k4 F s5
 go_upto_region 7 with(refine dB rfl _ rfl rfl e5 ?_)
 obtain⟨m,h⟩:∃m,m=W5.alloc (.cells #[.string gD,.string gF,.string dA,.bool false,.string aH,.int .i64 5,.int .i64 0,.string aH,.slice none 0 0,.slice none 0 0,.slice none 0 0,.slice none 0 0,.int .i64 0,.int .i64 0,.string aH,.slice none 0 0] 29):=⟨_,rfl⟩;have e6:m.heap[z.heap.size]?=some (.cells #[.string gD,.string gF,.string dA,.bool false,.string aH,.int .i64 5,.int .i64 0,.string aH,.slice none 0 0,.slice none 0 0,.slice none 0 0,.slice none 0 0,.int .i64 0,.int .i64 0,.string aH,.slice none 0 0] 29 (0,0)):=by rw[h,Below.heap_alloc _ _ _ (by omega)];exact e5
 have f6:m.heap[d.heap.size]?=some (.cells #[.string gD,.string gF,.string dA,.bool false,.string ⟨#[107]⟩,.int .i64 5,.int .i64 0,.string aH,.slice none 0 0,.slice none 0 0,.slice none 0 0,.slice none 0 0,.int .i64 0,.int .i64 0,.string aH,.slice none 0 0] 29 (0,0)):=by rw[h,Below.heap_alloc _ _ _ (by omega)];exact f5
 have k6:m.heap[f.heap.size]?=some (.cells #[.string gD,.string gF,.string dA,.bool false,.string aH,.int .i64 5,.int .i64 0,.string aH,.slice none 0 0,.slice none 0 0,.slice none 0 0,.slice none 0 0,.int .i64 0,.int .i64 0,.string aH,.slice (some ⟨W4.heap.size,0,none⟩) 2 2] 29 (0,0)):=by rw[h,Below.heap_alloc _ _ _ (by omega)];exact k5
 have m6:=(show m.heap[W4.heap.size]?=W5.heap[W4.heap.size]? by rw[h,Below.heap_alloc _ _ _ (by omega)]).trans m5;have h6:m.heap[W5.heap.size]?=some (.cells #[.string gD,.string gF,.string dA,.bool false,.string aH,.int .i64 5,.int .i64 0,.string aH,.slice none 0 0,.slice none 0 0,.slice none 0 0,.slice none 0 0,.int .i64 0,.int .i64 0,.string aH,.slice none 0 0] 29 (0,0)):=by rw[h];exact heap_alloc_new _ _
 have g6:Below w.heap.size w m:=by rw[h];exact g5.alloc g5.size _
 have s6:W5.heap.size<m.heap.size:=by rw[h];simp
 rw[<-h];clear h e5 f5 k5 m5;have q7:=az h6 5 _ rfl;have z7:=aW h6 5
 go_upto_region 8 with fail
 clear q7 z7;have K7:ag (One W5.heap.size) m (m.setCell ⟨W5.heap.size,5,none⟩ (.int .i64 0)):=ag.setCell (ag.refl _ _) (fun _=>(rfl:W5.heap.size=W5.heap.size)) _;have h7:(m.setCell ⟨W5.heap.size,5,none⟩ (.int .i64 0)).heap[W5.heap.size]?=some (.cells #[.string gD,.string gF,.string dA,.bool false,.string aH,.int .i64 0,.int .i64 0,.string aH,.slice none 0 0,.slice none 0 0,.slice none 0 0,.slice none 0 0,.int .i64 0,.int .i64 0,.string aH,.slice none 0 0] 29 (0,0)):=by rw[heap_setCell_same _ W5.heap.size 5 _ _ _ h6];rfl
 obtain⟨W7,hW7⟩:∃W7,W7=m.setCell ⟨W5.heap.size,5,none⟩ (.int .i64 0):=⟨_,rfl⟩;rw[<-hW7]at K7 h7 ⊢;have e7:=(K7.block z.heap.size (by omega) (by unfold One;omega)).trans e6;have f7:=(K7.block d.heap.size (by omega) (by unfold One;omega)).trans f6;have k7:=(K7.block f.heap.size (by omega) (by unfold One;omega)).trans k6;have m7:=(K7.block W4.heap.size (by omega) (by unfold One;omega)).trans m6;have s7:=K7.size;have g7:Below w.heap.size w W7:=g6.trans (K7.below (by omega) fun q Y=>by unfold One;have:=g5.size;omega);clear hW7 e6 f6 k6 m6 h6 K7;have G7:Hid (Below w.heap.size w W7):=g7;have T7:Hid (lW W7):=HT.out.below g7;clear g1 g2 g3 g4 g5 g6 g7
 go_upto_region 9 with(first
  | (go_at_call 11;refine(zfp W7 T7.out).mono ?_;rintro x w8 ⟨⟨p8,n8,c8,rfl,hr8⟩,N⟩)
  | (refine dB rfl _ rfl rfl e7 ?_))
 have S8:=N.size;have e8:=(N.block z.heap.size (by omega)).trans e7;have f8:=(N.block d.heap.size (by omega)).trans f7;have k8:=(N.block f.heap.size (by omega)).trans k7;have m8:=(N.block W4.heap.size (by omega)).trans m7;have h8:=(N.block W5.heap.size (by omega)).trans h7;have G8:Hid (Below w.heap.size w w8):=ae G7.out N;have T8:Hid (lW w8):=HT.out.below G8.out;clear e7 f7 k7 m7 h7 N T7 G7
 go_upto_region 10 with(go_at_call 10;refine(zfq w8 p8 n8 c8 hr8 T8.out).mono ?_;rintro x K ⟨⟨pk,ck,pl,cl,pp,cp,pa,ca,ps,cs,rfl,hI9⟩,YT⟩)
 have S9:=YT.size;obtain⟨c,Z⟩:∃c,c=K.alloc (.cells #[.string gD,.string gF,.string dA,.bool false,.string aH,.int .i64 5,.int .i64 0,.string aH,.slice pk 0 ck,.slice pl 0 cl,.slice pp 0 cp,.slice pa 0 ca,.int .i64 0,.int .i64 0,.string aH,.slice ps 0 cs] 29):=⟨_,rfl⟩;have X:∀q,q<w8.heap.size->c.heap[q]?=w8.heap[q]?:=fun q Y=>by rw[Z,Below.heap_alloc _ _ _ (by omega)];exact YT.block q Y
 have Oa:=(X z.heap.size (by omega)).trans e8;have f10:=(X d.heap.size (by omega)).trans f8;have Mh:=(X f.heap.size (by omega)).trans k8;have m10:=(X W4.heap.size (by omega)).trans m8;have h10:=(X W5.heap.size (by omega)).trans h8;have d10:c.heap[K.heap.size]?=some (.cells #[.string gD,.string gF,.string dA,.bool false,.string aH,.int .i64 5,.int .i64 0,.string aH,.slice pk 0 ck,.slice pl 0 cl,.slice pp 0 cp,.slice pa 0 ca,.int .i64 0,.int .i64 0,.string aH,.slice ps 0 cs] 29 (0,0)):=by rw[Z];exact heap_alloc_new _ _
 have s10:K.heap.size<c.heap.size:=by rw[Z];simp
 have S:Below K.heap.size K c:=by rw[Z];exact(Below.refl _ _).alloc (Nat.le_refl _) _
 have HI:Hid (mY (gH w8 K) c gK ⟨pk,ck,pl,cl,pp,cp,pa,ca,ps,cs⟩):=hI9.below (fun k hk=>hk.2) S;have G10:Hid (Below w.heap.size w c):=ae (ae G8.out YT) S;have I:Hid (lW c):=HT.out.below G10.out;rw[<-Z];clear Z e8 f8 k8 m8 h8 YT hI9 S X hr8 T8 G8;have S5o:=S5.out;have L1:Hid (z.heap.size<c.heap.size):=(by omega:_<_);have L2:Hid (d.heap.size<c.heap.size):=(by omega:_<_);have L3:Hid (f.heap.size<c.heap.size):=(by omega:_<_);have L4:Hid (W4.heap.size<c.heap.size):=(by omega:_<_);have L5:Hid (W5.heap.size<c.heap.size):=(by omega:_<_);have L9:Hid (K.heap.size<c.heap.size):=s10;clear S5o s1 s2 s3 s4 s6 s7 S8 S9 s10;go_wp2_with(first
  | (go_at_call 8;refine(zfv w14 pk ck pl cl pp cp pa ca ps cs (HI.out.below (fun k hk=>Nat.lt_trans hk.2 L9.out) A.out) (fun k hk=>Nat.lt_of_lt_of_le (Nat.lt_trans hk.2 L9.out) A.out.size)).mono ?_;rintro x w15 ⟨rfl,zg7⟩)
  | (go_at_call 13;have _x:=YG;refine(zft w13 (I.out.below T.out)).mono ?_;rintro x w14 ⟨rfl,zfw⟩
     have A:Hid (Below c.heap.size c w14):=ae T.out zfw;have e14:=(A.out.block z.heap.size L1.out).trans E10.out;have d14:=(A.out.block K.heap.size L9.out).trans D10.out;clear YG zfw _x)
  | (go_at_call 13;have _x:=OC;refine(zfu w12 W4.heap.size (I.out.below H.out) ((H.out.block W4.heap.size L4.out).trans M10.out)).mono ?_;rintro x w13 ⟨rfl,zfx⟩
     have T:Hid (Below c.heap.size c w13):=ae H.out zfx;have YG:=(T.out.block W5.heap.size L5.out).trans H10.out;clear OC zfx _x)
  | (go_at_call 13;have _x:=U;refine(zfs KE (I.out.below B11.out)).mono ?_;rintro x w12 ⟨rfl,zfy⟩
     have H:Hid (Below c.heap.size c w12):=ae B11.out zfy;have OC:=(H.out.block f.heap.size L3.out).trans K10.out;clear U zfy _x)
  | (go_at_call 13;refine(zfr c I.out).mono ?_;rintro x KE ⟨rfl,V⟩
     have B11:Hid (Below c.heap.size c KE):=V;have U:=(V.block d.heap.size L2.out).trans f10;have K10:Hid _:=Mh;have M10:Hid _:=m10;have H10:Hid _:=h10;have D10:Hid _:=d10;have E10:Hid _:=Oa;clear Oa f10 Mh m10 h10 d10 V)
  | (refine dB rfl _ rfl rfl Oa ?_)
  | (refine jZ (by rfl) _ rfl rfl U ?_)
  | (refine jZ (by rfl) _ rfl rfl OC ?_)
  | (refine jZ (by rfl) _ rfl rfl YG ?_)
  | (refine jZ (by rfl) _ rfl rfl e14 ?_)
  | (refine jZ (by rfl) _ rfl rfl d14 ?_))
 go_ret;exact⟨rfl,ae G10.out (ae A.out zg7)⟩
theorem LZ:Ee Ev.zero:=⟨by decide,by decide,by decide,by decide,by decide,by kernel_rfl,by decide,(fun x c=>by cases c),by decide,(fun x c=>by cases c),by decide,(fun x c=>by cases c)⟩
theorem Ur{j:J}(d:szJ 12 j=true):Ee (dz (dX j)).1/\goodJ 12 (dz (dX j)).1.content=true:=by
 have c:=vL d;unfold dz
 split
 ·split
  ·refine⟨rh c.1 c.2, ?_⟩;rw[ng];exact oq (Iy c.1 aS)
  ·exact⟨LZ,by kernel_rfl⟩
 ·exact⟨LZ,by kernel_rfl⟩
theorem Yz{j:J}(c:smallJ 12 j=true):(dX j).keys.length<=80000:=by
 unfold dX
 split
 ·rename_i hg;exact Nat.le_trans (mV (zN 12 j hg c)).2.1 (by decide)
 ·decide
theorem PS{w:World}{j:J}{k i:Int}{t:ByteArray}{pk pl:Option Addr}{nk ck nl cl:Nat}(hj:isJ (fun b=>b<w.heap.size) w j [.int .i64 k,.int .i64 i,.string t,.slice pk nk ck,.slice pl nl cl])(hT:lW w):
    Calls Tryz.prog 3 #[.agg #[.int .i64 k,.int .i64 i,.string t,.slice pk nk ck,.slice pl nl cl]] w fun x w'=>x=.returned (.bool true)/\Below w.heap.size w w':=by
 obtain⟨WB,eY⟩:∃WB,WB=w.alloc (.cells #[.int .i64 k,.int .i64 i,.string t,.slice pk nk ck,.slice pl nl cl] 25):=⟨_,rfl⟩;have f:Below w.heap.size w WB:=by rw[eY];exact(Below.refl _ _).alloc (Nat.le_refl _) _
 have pW:WB.heap[w.heap.size]?=some (.cells #[.int .i64 k,.int .i64 i,.string t,.slice pk nk ck,.slice pl nl cl] 25 (0,0)):=by rw[eY];exact heap_alloc_new _ _
 have EP:w.heap.size<WB.heap.size:=by rw[eY];simp
 have HBX:Hid (∀X,Below WB.heap.size WB X->Below w.heap.size w X):=fun X c=>ae f c;have HXJ:Hid (∀X,Below WB.heap.size WB X->X.heap[w.heap.size]?=some (.cells #[.int .i64 k,.int .i64 i,.string t,.slice pk nk ck,.slice pl nl cl] 25 (0,0))):=fun X c=>(c.block _ EP).trans pW;have HJ:Hid (∀X,Below WB.heap.size WB X->isJ (fun b=>b<w.heap.size) X j [.int .i64 k,.int .i64 i,.string t,.slice pk nk ck,.slice pl nl cl]):=fun X c=>hj.carry fun b H=>⟨H,(ae f c).block b H⟩;have HLE:Hid (Calls Tryz.prog 5 #[.agg #[.int .i64 k,.int .i64 i,.string t,.slice pk nk ck,.slice pl nl cl],.int .i64 500,.int .i64 20] WB fun x w'=>((∃r:Int,x=.returned (.int .i64 r)/\decide (r<0)=true)\/ (∃r:Int,x=.returned (.int .i64 r)/\decide (r<0)=false/\Hid (smallJ 20 j=true/\uf 20 j<=500)))/\Below WB.heap.size WB w'):=by
  have:=Rf 20 WB (fun b=>b<w.heap.size) j k i 20 500 t pk pl nk ck nl cl (fun b H=>by omega) rfl (by decide) (by decide) (by decide) (HJ.out WB (Below.refl _ _));refine this.mono fun x w' ⟨⟨r,h1,h2,h3,h4⟩,H⟩=>⟨?_,H⟩
  by_cases hr:r<0
  ·exact .inl ⟨r,h1,decide_eq_true hr⟩
  ·have h5:=h4 (by omega);exact .inr ⟨r,h1,decide_eq_false hr,h5.1,by have:=h5.2;omega⟩
 have HTX:Hid (∀X,Below WB.heap.size WB X->lW X):=fun X c=>hT.below (ae f c);have HP:Hid (smallJ 20 j=true/\uf 20 j<=500->∀X,Below WB.heap.size WB X->Calls Tryz.prog 6 #[.agg #[.int .i64 k,.int .i64 i,.string t,.slice pk nk ck,.slice pl nl cl]] X fun x w'=>(∃p,x=.returned (.tuple #[fA (dz (dX j)).1 p,.int .i64 (dz (dX j)).2])/\Hid (mY (fun q=>q<w'.heap.size) w' (dz (dX j)).1 p))/\Below X.heap.size X w'):=fun m X c=>
  (yz (O:=fun b=>b<w.heap.size) (fun b H=>by have:=(ae f c).size;omega) (HJ.out X c) (yF 12 j (mU 12 20 j (by decide) m.1)) (Yz (mU 12 20 j (by decide) m.1)) (HTX.out X c)).mono fun x w' ⟨⟨p,h1,h2⟩,h3⟩=>⟨⟨p,h1,h2.carry fun q G=>⟨G.elim (fun h=>by have:=(ae f c).size;have:=h3.size;omega) fun h=>h.2,rfl⟩⟩,h3⟩
 have HR:Hid (smallJ 20 j=true/\uf 20 j<=500->∀X,Below WB.heap.size WB X->Calls Tryz.prog 7 #[.agg #[.int .i64 k,.int .i64 i,.string t,.slice pk nk ck,.slice pl nl cl]] X fun x w'=>(∃p,x=.returned (.tuple #[fA (dz (dX j)).1 p,.int .i64 (dz (dX j)).2])/\Hid (mY (fun q=>q<w'.heap.size) w' (dz (dX j)).1 p))/\Below X.heap.size X w'):=fun m X c=>
  (Uk (O:=fun b=>b<w.heap.size) (fun b H=>by have:=(ae f c).size;omega) (HJ.out X c) (yF 12 j (mU 12 20 j (by decide) m.1)) (mU 12 20 j (by decide) m.1) (Nat.le_trans (Lu 12 20 j (by decide)) (by have:=m.2;omega))).mono fun x w' ⟨⟨p,h1,h2⟩,h3⟩=>⟨⟨p,h1,h2.carry fun q G=>⟨G.elim (fun h=>by have:=(ae f c).size;have:=h3.size;omega) fun h=>h.2,rfl⟩⟩,h3⟩
 have HN:Hid (smallJ 20 j=true/\uf 20 j<=500->Ee (dz (dX j)).1/\goodJ 12 (dz (dX j)).1.content=true):=fun m=>Ur (yF 12 j (mU 12 20 j (by decide) m.1));generalize dz (dX j)=F at HP HR HN;obtain⟨e,er⟩:=F;simp only at HP HR HN;clear hj hT f;go_enter Tryz.func3,Tryz.ntmps3
 go_upto_region 1 with fail
 rw[<-eY];clear eY
 go_upto_region 3 with(first
  | (refine bV rfl _ rfl rfl pW ?_)
  | (go_at_call 5;refine HLE.out.mono ?_;rintro x w1 ⟨⟨r,rfl,hd⟩| ⟨r,rfl,hd,HS⟩,Y⟩))
 all_goals (first
  | (go_wp2;go_ret;exact⟨rfl,HBX.out _ Y⟩)
  | skip)
 have HP2:Hid (∀X,Below WB.heap.size WB X->Calls Tryz.prog 6 #[.agg #[.int .i64 k,.int .i64 i,.string t,.slice pk nk ck,.slice pl nl cl]] X fun x w'=>(∃p,x=.returned (.tuple #[fA e p,.int .i64 er])/\Hid (mY (fun q=>q<w'.heap.size) w' e p))/\Below X.heap.size X w'):=HP.out HS.out;have HR2:Hid (∀X,Below WB.heap.size WB X->Calls Tryz.prog 7 #[.agg #[.int .i64 k,.int .i64 i,.string t,.slice pk nk ck,.slice pl nl cl]] X fun x w'=>(∃p,x=.returned (.tuple #[fA e p,.int .i64 er])/\Hid (mY (fun q=>q<w'.heap.size) w' e p))/\Below X.heap.size X w'):=HR.out HS.out;obtain⟨fI,hcg⟩:=HN.out HS.out;have Bt:=HXJ.out _ Y;have Qx:=Y.size;clear HP HR HN HS HLE hd pW
 go_upto_region 4 with(first
  | (refine bV rfl _ rfl rfl Bt ?_)
  | (go_at_call 6;refine(HP2.out _ Y).mono ?_;rintro x Z ⟨⟨p,rfl,HI2⟩,bO⟩
     obtain⟨a0,a1,a2,b3,a4,n5,n6,a7,p8,n8,c8,p9,n9,c9,qW,rF,jB,qX,rG,pY,ov,rH,jT,qY,rJ,p_,A⟩:=zm e p;have HV:Hid (fA e p=.agg #[.string a0,.string a1,.string a2,.bool b3,.string a4,.int .i64 n5,.int .i64 n6,.string a7,.slice p8 n8 c8,.slice p9 n9 c9,.slice qW rF jB,.slice qX rG pY,.int .i64 ov,.int .i64 rH,.string jT,.slice qY rJ p_]):=A;rw[A];clear A))
 obtain⟨u,FL⟩:∃u,u=Z.alloc (.cells #[.string a0,.string a1,.string a2,.bool b3,.string a4,.int .i64 n5,.int .i64 n6,.string a7,.slice p8 n8 c8,.slice p9 n9 c9,.slice qW rF jB,.slice qX rG pY,.int .i64 ov,.int .i64 rH,.string jT,.slice qY rJ p_] 29):=⟨_,rfl⟩;have dh:Below Z.heap.size Z u:=by rw[FL];exact(Below.refl _ _).alloc (Nat.le_refl _) _
 have YM:u.heap[Z.heap.size]?=some (.cells #[.string a0,.string a1,.string a2,.bool b3,.string a4,.int .i64 n5,.int .i64 n6,.string a7,.slice p8 n8 c8,.slice p9 n9 c9,.slice qW rF jB,.slice qX rG pY,.int .i64 ov,.int .i64 rH,.string jT,.slice qY rJ p_] 29 (0,0)):=by rw[FL];exact heap_alloc_new _ _
 rw[<-FL];have UB:Below WB.heap.size WB u:=ae Y (ae bO dh);have ZX:=HXJ.out _ UB;have hl3:Z.heap.size<u.heap.size:=by rw[FL];simp
 clear FL Bt
 go_upto_region 5 with(first
  | (refine bV rfl _ rfl rfl ZX ?_)
  | (go_at_call 7;refine(HR2.out _ UB).mono ?_;rintro x w4 ⟨⟨p',rfl,HI4⟩,eQ⟩
     obtain⟨d0,d1,d2,d3,d4,m5,m6,d7,q8,m8,e8,q9,m9,e9,wS,T,Oa,K,U,Ob,I,N,S,E,z,V,A⟩:=zm e p';have HV':Hid (fA e p'=.agg #[.string d0,.string d1,.string d2,.bool d3,.string d4,.int .i64 m5,.int .i64 m6,.string d7,.slice q8 m8 e8,.slice q9 m9 e9,.slice wS T Oa,.slice K U Ob,.int .i64 I,.int .i64 N,.string S,.slice E z V]):=A;rw[A];clear A))
 obtain⟨W5,wh⟩:∃W5,W5=w4.alloc (.cells #[.string d0,.string d1,.string d2,.bool d3,.string d4,.int .i64 m5,.int .i64 m6,.string d7,.slice q8 m8 e8,.slice q9 m9 e9,.slice wS T Oa,.slice K U Ob,.int .i64 I,.int .i64 N,.string S,.slice E z V] 29):=⟨_,rfl⟩;have oP:Below w4.heap.size w4 W5:=by rw[wh];exact(Below.refl _ _).alloc (Nat.le_refl _) _
 have Il:W5.heap[w4.heap.size]?=some (.cells #[.string d0,.string d1,.string d2,.bool d3,.string d4,.int .i64 m5,.int .i64 m6,.string d7,.slice q8 m8 e8,.slice q9 m9 e9,.slice wS T Oa,.slice K U Ob,.int .i64 I,.int .i64 N,.string S,.slice E z V] 29 (0,0)):=by rw[wh];exact heap_alloc_new _ _
 rw[<-wh];have hB5:Below WB.heap.size WB W5:=ae UB (ae eQ oP);have d:Below u.heap.size u W5:=ae eQ oP;have zg8:=(d.block _ hl3).trans YM;have zbn:=zaN (O:=fun q=>q<W5.heap.size) e p p' W5 (HI2.out.carry fun q G=>⟨by have:=dh.size;have:=d.size;omega,(d.block q (by have:=dh.size;omega)).trans (dh.block q G)⟩) (HI4.out.carry fun q G=>⟨by have:=oP.size;omega,oP.block q G⟩) (fun _ h=>h) fI hcg;rw[HV.out,HV'.out]at zbn;have XQ:Hid (Below WB.heap.size WB W5):=hB5;clear wh ZX YM HI2 HI4 HV HV' HP2 HR2 HJ d hB5 UB Y bO dh eQ oP;go_wp2_with(first
  | (refine dB rfl _ rfl rfl zg8 ?_)
  | (refine dB rfl _ rfl rfl Il ?_)
  | (go_at_call 8;refine zbn.mono ?_;rintro x w6 ⟨rfl,Bw⟩;have hA:=Uq w6 (HTX.out _ (ae XQ.out Bw)))
  | (go_at_call 9;refine hA.mono ?_;rintro x w7 ⟨rfl,Ka⟩))
 go_ret;exact⟨rfl,HBX.out _ (ae XQ.out (ae Bw Ka))⟩
open Go.ChangeShapes Go.WideShapes Go.ChangeAt Go.RowKit
theorem YA:Tryz.prog.cellsOf 25=5:=by kernel_rfl
theorem YB:Tryz.prog.cellsOf 9=1:=by kernel_rfl
theorem zaQ:Tryz.prog.cellsOf 3=1:=by kernel_rfl
theorem zaR:Tryz.prog.cellsOf 2=1:=by kernel_rfl
theorem zaS:Tryz.prog.cellsOf 22=1:=by kernel_rfl
theorem zaT:Tryz.prog.cellsOf 23=1:=by kernel_rfl
theorem BI{w:World}{a:Addr}{v:Value}(h:w.cell? a=some v):a.block<w.heap.size:=by
 rcases Nat.lt_or_ge a.block w.heap.size with c| c
 ·exact c
 ·simp[World.cell?,Array.getElem?_eq_none c]at h
theorem Us{w:World}{b o:Nat}{c:Option Nat}{v:Value}(h:w.cell? ⟨b,o,c⟩=some v):c=none:=by
 cases c with
 | none=>rfl
 | some x=>
  unfold World.cell? at h
  split at h<;>simp at h
theorem Rh{O:Nat->Prop}{w:World}{b o:Nat}(d:O b):∀(l:List J) (n:Nat),(∀i,i<l.length->∃cs,(∀m v,cs[m]?=some v->w.cell? ⟨b,o+(n+i)*5+m,none⟩=some v)/\isJ O w (l.getD i J.zero) cs)->isJs O w (some ⟨b,o,none⟩) n l
 | [],_,_=>by unfold isJs;trivial
 | j::r,n,h=>by
  unfold isJs;obtain⟨cs,h1,h2⟩:=h 0 (by simp);refine⟨⟨b,o,cs,rfl,d,fun m v c=> ?_,h2⟩,Rh d r (n+1) fun i f=> ?_⟩
  ·have:=h1 m v c;simpa using this
  ·obtain⟨cs,h1,h2⟩:=h (i+1) (by simp;omega);refine⟨cs,fun m v c=> ?_,h2⟩;have:=h1 m v c
   rwa [show n+(i+1)=n+1+i by omega]at this
theorem Gz{α:Type}{z:α}{P:Nat->α->Prop}:∀n,(∀i,i<n->∃x,P i x)->∃l:List α,l.length=n/\∀i,i<n->P i (l.getD i z)
 | 0,_=>⟨[],rfl,fun i c=>absurd c (by omega)⟩
 | n+1,h=>by
  obtain⟨l,d,k⟩:=Gz (z:=z) n fun i c=>h i (by omega);obtain⟨x,f⟩:=h n (by omega);refine⟨l++ [x],by simp[d],fun i c=> ?_⟩
  by_cases j:i<n
  ·have:(l++ [x]).getD i z=l.getD i z:=by
     rw[List.getD_eq_getElem?_getD,List.getD_eq_getElem?_getD,List.getElem?_append_left (by omega)]
   rw[this];exact k i j
  ·obtain rfl:i=n:=by omega
   have:(l++ [x]).getD i z=x:=by
    rw[List.getD_eq_getElem?_getD,List.getElem?_append_right (by omega),d];simp
   rw[this];exact f
theorem zbo{H:Type}{enc:TypeId×Value->H}{W:World}:∀(c:Nat) (cs:List Value) (x:DataW H×List MemPlace),DataW.trod enc Tryz.prog W 0 (fun _=>true) true c 25 cs=some x->∃j,isJ (fun b=>b<W.heap.size) W j cs
 | 0,cs,x,h=>by
  obtain⟨_,n,hf,_⟩:=DataW.trod_struct Tryz.underlying25 h;omega
 | c+1,cs,x,h=>by
  obtain⟨xs,n,hf,_,hl,cB,d⟩:=DataW.trod_struct Tryz.underlying25 h;obtain rfl:c=n:=by omega
  rw[YA]at hl
  match cs,hl with
  | [c0,c1,c2,c3,c4],_=>
   match xs,cB with
   | [y0,y1,y2,y3,y4],_=>
    have g0:DataW.trod enc Tryz.prog W 0 (fun _=>true) true c 3 (([c0,c1,c2,c3,c4].drop 0).take (Tryz.prog.cellsOf 3))=some y0:=d 0 _ rfl;rw[zaQ]at g0;have f0:DataW.trod enc Tryz.prog W 0 (fun _=>true) true c 3 [c0]=some y0:=g0;have g1:DataW.trod enc Tryz.prog W 0 (fun _=>true) true c 2 (([c0,c1,c2,c3,c4].drop 1).take (Tryz.prog.cellsOf 2))=some y1:=d 1 _ rfl;rw[zaR]at g1;have f1:DataW.trod enc Tryz.prog W 0 (fun _=>true) true c 2 [c1]=some y1:=g1;have Z:DataW.trod enc Tryz.prog W 0 (fun _=>true) true c 9 (([c0,c1,c2,c3,c4].drop 2).take (Tryz.prog.cellsOf 9))=some y2:=d 2 _ rfl;rw[YB]at Z;have f2:DataW.trod enc Tryz.prog W 0 (fun _=>true) true c 9 [c2]=some y2:=Z;have g3:DataW.trod enc Tryz.prog W 0 (fun _=>true) true c 22 (([c0,c1,c2,c3,c4].drop 3).take (Tryz.prog.cellsOf 22))=some y3:=d 3 _ rfl;rw[zaS]at g3;have f3:DataW.trod enc Tryz.prog W 0 (fun _=>true) true c 22 [c3]=some y3:=g3;have g4:DataW.trod enc Tryz.prog W 0 (fun _=>true) true c 23 (([c0,c1,c2,c3,c4].drop 4).take (Tryz.prog.cellsOf 23))=some y4:=d 4 _ rfl;rw[zaT]at g4;have f4:DataW.trod enc Tryz.prog W 0 (fun _=>true) true c 23 [c4]=some y4:=g4;obtain⟨k,e0,_,_⟩:=DataW.trod_int Tryz.underlying3 f0;obtain⟨i,e1,_,_⟩:=DataW.trod_int Tryz.underlying2 f1;obtain⟨t,e2,_,_⟩:=DataW.trod_string Tryz.underlying9 f2;simp only[List.cons.injEq,and_true]at e0 e1 e2;subst e0 e1 e2;have X:∃pk nk ck ks,c3=.slice pk nk ck/\nk=ks.length/\j5 (fun b=>b<W.heap.size) W pk ck ks:=by
     rcases open_strings Tryz.underlying22 Tryz.underlying9 YB f3 with⟨A,_⟩| ⟨a,len,cap,ss,A,_,N,_,ZE,_,je,_⟩
     ·simp only[List.cons.injEq,and_true]at A;exact⟨none,0,0, [],A,rfl,j5.nil _ _⟩
     ·simp only[List.cons.injEq,and_true]at A;simp only[if_true]at ZE;refine⟨some a,len,cap,ss.take len,A,by simp;omega,by simp;omega,fun j F=>⟨a,rfl, ?_, ?_⟩⟩
      ·have EX:j<len:=by simp at F;omega
       have:=BI (je j (by omega))
       rwa [bu]at this
      ·have EX:j<len:=by simp at F;omega
       rw[je j (by omega)]
       congr 2
       rw[List.getD_eq_getElem?_getD,List.getD_eq_getElem?_getD,List.getElem?_take,if_pos EX,List.getElem?_eq_getElem (by omega)]
       rfl
    have U:∃pl nl cl l,c4=.slice pl nl cl/\nl=l.length/\l.length<=cl/\isJs (fun b=>b<W.heap.size) W pl 0 l:=by
     rcases DataW.trod_slice Tryz.underlying23 f4 with⟨u,_⟩| ⟨a,len,cap,S,rest,n',hn',u,_,_,N,_,hel,Ro,_,_⟩
     ·simp only[List.cons.injEq,and_true]at u;exact⟨none,0,0, [],u,rfl,Nat.le_refl _,by unfold isJs;trivial⟩
     ·simp only[List.cons.injEq,and_true]at u;rw[YA]at Ro
      cases len with
      | zero=>exact⟨some a,0,cap, [],u,rfl,Nat.zero_le _,by unfold isJs;trivial⟩
      | succ len=>
       obtain⟨b,o,E⟩:=a;have f:∀i,i<len+1->∃cs,W.cells? 0 ((⟨b,o,E⟩:Addr).add (i*5)) 5=some cs/\∃y,DataW.trod enc Tryz.prog W 0 (fun _=>true) true n' 25 cs=some y:=fun i G=>by
        have h1:=Ro i G;rw[List.getElem?_eq_getElem (by omega),Option.bind_eq_some_iff]at h1;obtain⟨cs,h2,h3⟩:=h1;exact⟨cs,h2,_,h3⟩
       have ZR:E=none:=by
        obtain⟨cs,h2,_⟩:=f 0 (by omega);have h3:=(World.cells?_some h2).2.2 0 (by omega);have h4:(((⟨b,o,E⟩:Addr).add (0*5)).add 0)=⟨b,o,E⟩:=by
         unfold Addr.add;simp
        rw[h4]at h3;have K:=(World.cells?_some h2).2.1;rw[List.getElem?_eq_getElem (by omega)]at h3;exact Us h3
       subst ZR;have Pp:∀m,(⟨b,o,none⟩:Addr).add m=⟨b,o+m,none⟩:=fun m=>by unfold Addr.add;split<;>simp_all
       have I:∀m V,((⟨b,o+m,none⟩:Addr)).add V=⟨b,o+m+V,none⟩:=fun m V=>by unfold Addr.add;split<;>simp_all
       have hb:b<W.heap.size:=by
        obtain⟨cs,h2,_⟩:=f 0 (by omega);have:=World.cells?_block h2 (by decide)
        rwa [Pp]at this
       obtain⟨l,UA,T⟩:=Gz (z:=J.zero) (P:=fun i j=>∃cs,(∀m v,cs[m]?=some v->W.cell? ⟨b,o+(0+i)*5+m,none⟩=some v)/\isJ (fun b=>b<W.heap.size) W j cs) (len+1) fun i G=>by
        obtain⟨cs,h2,y,h3⟩:=f i G;obtain⟨j,F⟩:=zbo n' cs y h3;refine⟨j,cs,fun m v Y=> ?_,F⟩;have h5:=(World.cells?_some h2).2.2;have K:=(World.cells?_some h2).2.1;have hm:m<5:=by
         have:=(List.getElem?_eq_some_iff.1 Y).1;omega
        have h6:=h5 m hm;rw[Pp,I,Y]at h6;rw[show o+(0+i)*5+m=o+i*5+m by omega];exact h6
       exact⟨some ⟨b,o,none⟩,len+1,cap,l,u,UA.symm,by omega,Rh (O:=fun b=>b<W.heap.size) hb l 0 fun i G=>T i (by omega)⟩
    obtain⟨pk,nk,ck,ks,rfl,rfl,hk⟩:=X;obtain⟨pl,nl,cl,l,rfl,rfl,N,rM⟩:=U;exact⟨.mk k i t ks l,by unfold isJ;exact⟨pk,ck,pl,cl,rfl,hk,N,rM⟩⟩
open Go Go.RowKit
theorem zg9:ownKnob Tryz.prog.godebug=none:=by kernel_rfl
def ve:List (String×DataW Unit):= [("math/bits.deBruijn32tab",Rows.laid_math_bits_deBruijn32tab),("math/bits.deBruijn64tab",Rows.laid_math_bits_deBruijn64tab),("internal/strconv.uint64pow10",Rows.laid_internal_strconv_uint64pow10),("unicode/utf8.acceptRanges",Rows.laid_unicode_utf8_acceptRanges),("unicode/utf8.first",Rows.laid_unicode_utf8_first)]
theorem zha:Tryz.prog.globalNamed "internal/strconv.uint64pow10" =some 2:=by kernel_rfl
theorem zhb:(Tryz.prog.globals[2]?).map (·.type)=some 174:=by kernel_rfl
theorem YC(os:Os)(args:Array Value):laidMetH Tryz.prog ve ((World.laidAll Tryz.prog os ve).forCall (fun _ _=>0) ⟨#[],args, []⟩).memory:=by
 rw[MakeChecks.laidMetH_plain _ _ _ (by kernel_rfl)];exact laidMet_laidAll _ (by kernel_rfl) (by kernel_rfl)
theorem YD:(Rows.laid_internal_strconv_uint64pow10:DataW Unit)=Lib.tabData .u64 Lib.pow10Tab:=by kernel_rfl
theorem PT:(Rows.laid_unicode_utf8_first:DataW Unit)=Lib.firstData:=by kernel_rfl
theorem L6:(Rows.laid_unicode_utf8_acceptRanges:DataW Unit)=Lib.acceptData:=by kernel_rfl
theorem AL{W:World}(h:laidMetH Tryz.prog ve W):laidMet Tryz.prog ve W:=by
 rw[MakeChecks.laidMetH_plain _ _ _ (by kernel_rfl)]at h;exact h
theorem L8{W:World}(h:laidMetH Tryz.prog ve W):Uy W.heap.size W:=by
 refine Lib.tabBelow_of_tabIs ?_;obtain⟨m,t2,k,x,u,f,c,j,d⟩:=Lib.laidMet.reads (AL h) (.tail _ (.tail _ (.head _)));obtain rfl:=Option.some.inj (zha.symm.trans f);obtain rfl:=Option.some.inj (zhb.symm.trans c);rw[YD]at d;unfold Lib.TabIs;rw[j,<-Lib.cells_of_tab Tryz.underlying174 Tryz.underlying154 (by kernel_rfl) (by kernel_rfl) d]
theorem Iz{W:World}(h:laidMetH Tryz.prog ve W):SS W.heap.size W:=by
 have m:=AL h;have h1:=Lib.laidMet.reads m (.tail _ (.tail _ (.tail _ (.tail _ (.head _)))));have h2:=Lib.laidMet.reads m (.tail _ (.tail _ (.tail _ (.head _))));rw[PT]at h1;rw[L6]at h2;have d:Lib.Utf8Tabs (Tryz.laysValid_ren.g 3) (Tryz.laysValid_ren.g 4) W:=utf8Tabs_of_readsT (U8Types.of196 Tryz.laysValid) ⟨by kernel_rfl,by kernel_rfl,by kernel_rfl,by kernel_rfl,by kernel_rfl,by kernel_rfl,by kernel_rfl⟩ h1 h2;intro W' j;refine⟨fun c k=>(j.cell (p:=⟨_,c,none⟩) (BI (d.1 c k))).trans (d.1 c k),fun i f=>⟨(j.cell (p:=⟨_,2*i,none⟩) (BI (d.2 i f).1)).trans (d.2 i f).1,(j.cell (p:=⟨_,2*i+1,none⟩) (BI (d.2 i f).2)).trans (d.2 i f).2⟩⟩
theorem IA{W:World}(h:laidMetH Tryz.prog ve W):lW W:=⟨L8 h,Iz h⟩
open Go.ChangeShapes Go.WideShapes Go.ChangeAt Go.RowKit
theorem YE:laidOutB Tryz.prog=true:=by kernel_rfl
theorem zfD{H:Type}{enc:TypeId×Value->H}{W:World}{base:Nat}{v:Value}{d:DataW H}{h:List MemPlace}(f:Value.okWide Tryz.prog W .any base 25 v)
    (h0:DataW.Trod enc Tryz.prog W 0 (fun _=>true) true 25 v d h):∃j k i t pk nk ck pl nl cl,v=.agg #[.int .i64 k,.int .i64 i,.string t,.slice pk nk ck,.slice pl nl cl]/\isJ (fun b=>b<W.heap.size) W j [.int .i64 k,.int .i64 i,.string t,.slice pk nk ck,.slice pl nl cl]:=by
 obtain⟨cs,rfl,_⟩:=okWide_struct Tryz.underlying25 f;obtain⟨u,z⟩:=h0;have c:DataW.trod enc Tryz.prog W 0 (fun _=>true) true u 25 cs.toList=some (d,h):=by simpa [Value.cells]using z
 obtain⟨j,m⟩:=zbo u cs.toList _ c;obtain⟨k,i,t,pk,nk,ck,pl,nl,cl,x⟩:=dD m;obtain rfl:cs=#[.int .i64 k,.int .i64 i,.string t,.slice pk nk ck,.slice pl nl cl]:=by rw[<-Array.toList_inj];exact x
 exact⟨j,k,i,t,pk,nk,ck,pl,nl,cl,rfl,m⟩
end Go.Proofs.YtldkblgclochjaaGreatDoor

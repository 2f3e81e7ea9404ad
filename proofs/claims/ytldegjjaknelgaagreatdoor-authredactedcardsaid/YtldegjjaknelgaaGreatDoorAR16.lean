/- A part. -/
import Derived.Test.YtldegjjaknelgaaGreatDoorAR15
import Derived.Laws.BitsAllLaws
set_option maxRecDepth 100000
set_option maxHeartbeats 64000000
namespace Go.Proofs.YtldegjjaknelgaaGreatDoor
open Go.RowKit
theorem nZ{d:Nat}{s:ByteArray}(h:s.size<=1000000000):szJ (d+1) (d_ s)=true:=by
 unfold d_ szJ;rw[decide_eq_true (show s.size<=1000000000 by omega)]
 rfl
theorem ES{d:Nat}{l:List ByteArray}(hl:l.length<=100000)(h:∀x∈l,x.size<=1000000000):szJ (d+2) (qP l)=true:=by
 unfold qP szJ;rw[show(l.map d_).all (szJ (d+1))=true by
  rw[List.all_eq_true];intro x hx;obtain⟨y,hy,rfl⟩:=List.mem_map.1 hx;exact nZ (h y hy),decide_eq_true (show(l.map d_).length<=100000 by rw[List.length_map];exact hl)]
 rfl
theorem M_{d:Nat}{l:List (ByteArray×ByteArray)}(hl:l.length<=100000)(h:∀x∈l,x.1.size<=1000000000/\x.2.size<=1000000000):szJ (d+2) (pM l)=true:=by
 unfold pM szJ;rw[show(l.map fun s=>d_ s.2).all (szJ (d+1))=true by
  rw[List.all_eq_true];intro x hx;obtain⟨y,hy,rfl⟩:=List.mem_map.1 hx;exact nZ (h y hy).2,show(l.map (·.1)).all (fun k=>decide (k.size<=1000000000))=true by
  rw[List.all_eq_true];intro x hx;obtain⟨y,hy,rfl⟩:=List.mem_map.1 hx;exact decide_eq_true (by have:=(h y hy).1;omega),decide_eq_true (show(l.map fun s=>d_ s.2).length<=100000 by rw[List.length_map];exact hl),decide_eq_true (show(l.map (·.1)).length<=100000 by rw[List.length_map];exact hl)]
 rfl
theorem Qe{d:Nat}{n:Int}:szJ (d+1) (Dw n)=true:=by
 unfold Dw szJ
 rfl
theorem Qf(b:Bool):((if b=true then [sG,ed,nK,sH,Oy,sI,sJ,j_,sK,RS,sM]else [sG,ed,nK,sH,sI,sJ,j_,sK,RS,sM]).all (fun k=>decide (k.size<=1000000000)))=true:=by
 cases b<;>kernel_rfl
theorem Na(e:Ev):(jR e).length<=11:=by
 unfold jR
 cases e.st<;>simp
theorem KF{e:Ev}(h:xe e):szJ 12 (mo e)=true:=by
 have hv:((jR e).map (·.2)).all (szJ 11)=true:=by
  rw[List.all_eq_true];intro x hx;obtain⟨y,hy,rfl⟩:=List.mem_map.1 hx;unfold jR at hy;simp only[List.mem_append,List.mem_cons,List.not_mem_nil,or_false]at hy
  rcases hy with((rfl| rfl| rfl| rfl)| hy)| (rfl| rfl| rfl| rfl| rfl| rfl)
  ·exact ES h.aA h.Eo
  ·exact lG 11 12 _ (by omega) h.cont
  ·exact Qe
  ·exact nZ h.hash
  ·split at hy
   ·rw[List.mem_singleton]at hy;subst hy;exact nZ h.key
   ·cases hy
  ·exact ES h.prev h.En
  ·exact nZ h.room
  ·exact nZ h.ag
  ·exact M_ h.sigs h.AX
  ·exact Qe
  ·exact nZ h.aK
 have hl:=Na e;unfold mo szJ;have hn:=Qf e.st;rw[<-Bb]at hn;rw[hn,hv,decide_eq_true (show((jR e).map (·.1)).length<=100000 by rw[List.length_map];omega),decide_eq_true (show((jR e).map (·.2)).length<=100000 by rw[List.length_map];omega)]
 rfl
def Ck(e:Ev):List Int:=kH (ord (mo e))
structure zel(w w':World)(e:Ev)(x:Ending):Prop where
 no:aG e=false->x=.returned (.tuple #[.slice none 0 0,.int .i64 50])
 long:aG e=true->16384<(Ck e).length->x=.returned (.tuple #[.slice none 0 0,.int .i64 13])
 ok:aG e=true->(Ck e).length<=16384->∃v,x=.returned (.tuple #[v,.int .i64 0])/\w'.ownsRow w.heap.size 5 1 v (Ck e).length ((Ck e).map (Value.int .u8))
 below:Below w.heap.size w w'
theorem ET{O:Nat->Prop}(e:Ev)(p:Pt)(w:World)(hE:iL O w e p)(hO:∀k,O k->k<w.heap.size)(hz:xe e)(hT:uW w):
    Calls Tryz.prog 49 #[dZ e p] w fun x w'=>zel w w' e x:=by
 obtain⟨room,aK,ag,st,key,⟨k,i,t,ks,l⟩,prev,aA,depth,ts,hash,sigs⟩:=e;obtain⟨pk,ck,pl,cl,pp,cp,pa,ca,ps,cs⟩:=p;have bS:Below w.heap.size w (w.alloc (.cells #[.string room,.string aK,.string ag,.bool st,.string key,.int .i64 k,.int .i64 i,.string t,.slice pk ks.length ck,.slice pl l.length cl,.slice pp prev.length cp,.slice pa aA.length ca,.int .i64 depth,.int .i64 ts,.string hash,.slice ps sigs.length cs] 28)):=(Below.refl _ _).alloc (Nat.le_refl _) _;have yK:=I8 ⟨room,aK,ag,st,key,⟨k,i,t,ks,l⟩,prev,aA,depth,ts,hash,sigs⟩ ⟨pk,ck,pl,cl,pp,cp,pa,ca,ps,cs⟩ (w.alloc (.cells #[.string room,.string aK,.string ag,.bool st,.string key,.int .i64 k,.int .i64 i,.string t,.slice pk ks.length ck,.slice pl l.length cl,.slice pp prev.length cp,.slice pa aA.length ca,.int .i64 depth,.int .i64 ts,.string hash,.slice ps sigs.length cs] 28)) (hE.below hO bS) (fun k hk=>Nat.lt_of_lt_of_le (hO k hk) bS.size) hz (hT.below bS);have HC:Hid (∀W,Below (w.alloc (.cells #[.string room,.string aK,.string ag,.bool st,.string key,.int .i64 k,.int .i64 i,.string t,.slice pk ks.length ck,.slice pl l.length cl,.slice pp prev.length cp,.slice pa aA.length ca,.int .i64 depth,.int .i64 ts,.string hash,.slice ps sigs.length cs] 28)).heap.size (w.alloc (.cells #[.string room,.string aK,.string ag,.bool st,.string key,.int .i64 k,.int .i64 i,.string t,.slice pk ks.length ck,.slice pl l.length cl,.slice pp prev.length cp,.slice pa aA.length ca,.int .i64 depth,.int .i64 ts,.string hash,.slice ps sigs.length cs] 28)) W->∀j v, [.string room,.string aK,.string ag,.bool st,.string key,.int .i64 k,.int .i64 i,.string t,.slice pk ks.length ck,.slice pl l.length cl,.slice pp prev.length cp,.slice pa aA.length ca,.int .i64 depth,.int .i64 ts,.string hash,.slice ps sigs.length cs][j]?=some v->W.cell? ⟨w.heap.size,j,none⟩=some v):=fun W hW j v hj=>a_ ((hW.block _ (by simp)).trans (heap_alloc_new _ _)) j v hj;have HTo:Hid (∀W,Below (w.alloc (.cells #[.string room,.string aK,.string ag,.bool st,.string key,.int .i64 k,.int .i64 i,.string t,.slice pk ks.length ck,.slice pl l.length cl,.slice pp prev.length cp,.slice pa aA.length ca,.int .i64 depth,.int .i64 ts,.string hash,.slice ps sigs.length cs] 28)).heap.size (w.alloc (.cells #[.string room,.string aK,.string ag,.bool st,.string key,.int .i64 k,.int .i64 i,.string t,.slice pk ks.length ck,.slice pl l.length cl,.slice pp prev.length cp,.slice pa aA.length ca,.int .i64 depth,.int .i64 ts,.string hash,.slice ps sigs.length cs] 28)) W->Calls Tryz.prog 79 #[.agg #[.string room,.string aK,.string ag,.bool st,.string key,.int .i64 k,.int .i64 i,.string t,.slice pk ks.length ck,.slice pl l.length cl,.slice pp prev.length cp,.slice pa aA.length ca,.int .i64 depth,.int .i64 ts,.string hash,.slice ps sigs.length cs]] W fun x w'=>(∃pk nk ck pl nl cl,x=.returned (.agg #[.int .i64 5,.int .i64 0,.string aN,.slice pk nk ck,.slice pl nl cl])/\isJ (fun k=>O k\/ qx W w' k) w' (mo ⟨room,aK,ag,st,key,⟨k,i,t,ks,l⟩,prev,aA,depth,ts,hash,sigs⟩) [.int .i64 5,.int .i64 0,.string aN,.slice pk nk ck,.slice pl nl cl])/\Below W.heap.size W w'):=fun W hW=>
  P_ ⟨room,aK,ag,st,key,⟨k,i,t,ks,l⟩,prev,aA,depth,ts,hash,sigs⟩ ⟨pk,ck,pl,cl,pp,cp,pa,ca,ps,cs⟩ W (hE.below hO (aj bS hW)) (fun k hk=>Nat.lt_of_lt_of_le (hO k hk) (aj bS hW).size) hz
 have HEn:Hid (∀W W2 pk nk ck pl nl cl,Below w.heap.size w W->Below W.heap.size W W2->isJ (fun k=>O k\/ qx W W2 k) W2 (mo ⟨room,aK,ag,st,key,⟨k,i,t,ks,l⟩,prev,aA,depth,ts,hash,sigs⟩) [.int .i64 5,.int .i64 0,.string aN,.slice pk nk ck,.slice pl nl cl]->Calls Tryz.prog 78 #[.agg #[.int .i64 5,.int .i64 0,.string aN,.slice pk nk ck,.slice pl nl cl]] W2 fun x w'=>Kr W2 w' (mo ⟨room,aK,ag,st,key,⟨k,i,t,ks,l⟩,prev,aA,depth,ts,hash,sigs⟩) x):=fun W W2 pk nk ck pl nl cl h1 h2 hj=>
  Ii (fun x hx=>by
   rcases hx with hx| hx
   ·exact Nat.lt_of_lt_of_le (hO x hx) (Nat.le_trans h1.size h2.size)
   ·exact hx.2) (KF hz) (hT.below (aj h1 h2)).pow (fun hg=>Sb hg (KF hz)) hj
 have l_:Hid (Below w.heap.size w (w.alloc (.cells #[.string room,.string aK,.string ag,.bool st,.string key,.int .i64 k,.int .i64 i,.string t,.slice pk ks.length ck,.slice pl l.length cl,.slice pp prev.length cp,.slice pa aA.length ca,.int .i64 depth,.int .i64 ts,.string hash,.slice ps sigs.length cs] 28))):=bS;have HG:Hid (aG ⟨room,aK,ag,st,key,⟨k,i,t,ks,l⟩,prev,aA,depth,ts,hash,sigs⟩=true->goodJ 12 (mo ⟨room,aK,ag,st,key,⟨k,i,t,ks,l⟩,prev,aA,depth,ts,hash,sigs⟩)=true):=fun h=>ER h;have HL:Hid ((Ck ⟨room,aK,ag,st,key,⟨k,i,t,ks,l⟩,prev,aA,depth,ts,hash,sigs⟩)=kH (ord (mo ⟨room,aK,ag,st,key,⟨k,i,t,ks,l⟩,prev,aA,depth,ts,hash,sigs⟩))):=rfl;simp only[dZ,aB,J.kind,J.int,J.text,J.keys,J.list]at yK ⊢;clear hE hO hz hT bS
 cases hs:aG ⟨room,aK,ag,st,key,⟨k,i,t,ks,l⟩,prev,aA,depth,ts,hash,sigs⟩with
 | false=>
  rw[hs]at yK;have HS:Hid (aG ⟨room,aK,ag,st,key,⟨k,i,t,ks,l⟩,prev,aA,depth,ts,hash,sigs⟩=false):=hs;clear hs;go_enter Tryz.func49,Tryz.ntmps49;go_wp2_with(go_at_call 77;refine yK.mono ?_;rintro x w1 ⟨rfl,aP⟩);go_ret2;exact⟨fun _=>rfl,fun h=>(by rw[HS.out]at h;cases h),fun h=>(by rw[HS.out]at h;cases h),aj l_.out aP⟩
 | true=>
  rw[hs]at yK;have HS:Hid (aG ⟨room,aK,ag,st,key,⟨k,i,t,ks,l⟩,prev,aA,depth,ts,hash,sigs⟩=true):=hs;clear hs;obtain⟨n,hn⟩:∃n,(Ck ⟨room,aK,ag,st,key,⟨k,i,t,ks,l⟩,prev,aA,depth,ts,hash,sigs⟩).length=n:=⟨_,rfl⟩;have HN:Hid ((Ck ⟨room,aK,ag,st,key,⟨k,i,t,ks,l⟩,prev,aA,depth,ts,hash,sigs⟩).length=n):=hn;clear hn
  by_cases mF:16384<n
  ·have Ij:Hid (16384<n):=mF;clear mF;go_enter Tryz.func49,Tryz.ntmps49;go_wp2_with(first
    | (go_at_call 78;refine hEn.mono ?_;rintro x w3 ⟨_,h3,_,dA⟩
       obtain rfl:=h3 (HG.out HS.out) (by rw[<-HL.out,HN.out];exact Ij.out))
    | (go_at_call 79;refine hTo.mono ?_;rintro x w2 ⟨⟨pk2,nk2,ck2,pl2,nl2,cl2,rfl,Rk⟩,aT⟩
       have hEn:=HEn.out w1 w2 pk2 nk2 ck2 pl2 nl2 cl2 (aj l_.out aP) aT Rk)
    | (go_at_call 77;refine yK.mono ?_;rintro x w1 ⟨rfl,aP⟩
       have cc:=HC.out w1 aP;have c0:=cc 0 _ rfl;have c1:=cc 1 _ rfl;have c2:=cc 2 _ rfl;have c3:=cc 3 _ rfl;have c4:=cc 4 _ rfl;have c5:=cc 5 _ rfl;have c6:=cc 6 _ rfl;have c7:=cc 7 _ rfl;have c8:=cc 8 _ rfl;have c9:=cc 9 _ rfl;have kY:=cc 10 _ rfl;have Ja:=cc 11 _ rfl;have Ga:=cc 12 _ rfl;have jX:=cc 13 _ rfl;have Gb:=cc 14 _ rfl;have Jb:=cc 15 _ rfl;clear cc;have hTo:=HTo.out w1 aP))
   go_ret2;exact⟨fun h=>(by rw[HS.out]at h;cases h),fun _ _=>rfl,fun _ h=>absurd h (by rw[HN.out];have:=Ij.out;omega),aj l_.out (aj aP (aj aT dA))⟩
  ·have Ij:Hid (n<=16384):=by show _<=_;omega
   clear mF;go_enter Tryz.func49,Tryz.ntmps49;go_wp2_with(first
    | (go_at_call 78;refine hEn.mono ?_;rintro x w3 ⟨_,_,h3,dA⟩
       obtain⟨v3,rfl,how⟩:=h3 (HG.out HS.out) (by rw[<-HL.out,HN.out];exact Ij.out))
    | (go_at_call 79;refine hTo.mono ?_;rintro x w2 ⟨⟨pk2,nk2,ck2,pl2,nl2,cl2,rfl,Rk⟩,aT⟩
       have hEn:=HEn.out w1 w2 pk2 nk2 ck2 pl2 nl2 cl2 (aj l_.out aP) aT Rk)
    | (go_at_call 77;refine yK.mono ?_;rintro x w1 ⟨rfl,aP⟩
       have cc:=HC.out w1 aP;have c0:=cc 0 _ rfl;have c1:=cc 1 _ rfl;have c2:=cc 2 _ rfl;have c3:=cc 3 _ rfl;have c4:=cc 4 _ rfl;have c5:=cc 5 _ rfl;have c6:=cc 6 _ rfl;have c7:=cc 7 _ rfl;have c8:=cc 8 _ rfl;have c9:=cc 9 _ rfl;have kY:=cc 10 _ rfl;have Ja:=cc 11 _ rfl;have Ga:=cc 12 _ rfl;have jX:=cc 13 _ rfl;have Gb:=cc 14 _ rfl;have Jb:=cc 15 _ rfl;clear cc;have hTo:=HTo.out w1 aP))
   go_ret2;exact⟨fun h=>(by rw[HS.out]at h;cases h),fun _ h=>absurd h (by rw[HN.out];have:=Ij.out;omega),fun _ _=>⟨_,rfl,Ar how (aj l_.out (aj aP aT)).size⟩,aj l_.out (aj aP (aj aT dA))⟩
def lZ(e:Ev):Int:=if aG e=true then(if 16384<(Ck e).length then 13 else 0)else 50
theorem Jc{O:Nat->Prop}(e:Ev)(p:Pt)(w:World)(hE:iL O w e p)(hO:∀k,O k->k<w.heap.size)(hz:xe e)(hT:uW w):
    Calls Tryz.prog 24 #[dZ e p] w fun x w'=>x=.returned (.int .i64 (lZ e))/\Below w.heap.size w w':=by
 obtain⟨room,aK,ag,st,key,⟨k,i,t,ks,l⟩,prev,aA,depth,ts,hash,sigs⟩:=e;obtain⟨pk,ck,pl,cl,pp,cp,pa,ca,ps,cs⟩:=p;have bS:Below w.heap.size w (w.alloc (.cells #[.string room,.string aK,.string ag,.bool st,.string key,.int .i64 k,.int .i64 i,.string t,.slice pk ks.length ck,.slice pl l.length cl,.slice pp prev.length cp,.slice pa aA.length ca,.int .i64 depth,.int .i64 ts,.string hash,.slice ps sigs.length cs] 28)):=(Below.refl _ _).alloc (Nat.le_refl _) _;have yK:=ET ⟨room,aK,ag,st,key,⟨k,i,t,ks,l⟩,prev,aA,depth,ts,hash,sigs⟩ ⟨pk,ck,pl,cl,pp,cp,pa,ca,ps,cs⟩ (w.alloc (.cells #[.string room,.string aK,.string ag,.bool st,.string key,.int .i64 k,.int .i64 i,.string t,.slice pk ks.length ck,.slice pl l.length cl,.slice pp prev.length cp,.slice pa aA.length ca,.int .i64 depth,.int .i64 ts,.string hash,.slice ps sigs.length cs] 28)) (hE.below hO bS) (fun k hk=>Nat.lt_of_lt_of_le (hO k hk) bS.size) hz (hT.below bS);have hX:Calls Tryz.prog 49 #[.agg #[.string room,.string aK,.string ag,.bool st,.string key,.int .i64 k,.int .i64 i,.string t,.slice pk ks.length ck,.slice pl l.length cl,.slice pp prev.length cp,.slice pa aA.length ca,.int .i64 depth,.int .i64 ts,.string hash,.slice ps sigs.length cs]] (w.alloc (.cells #[.string room,.string aK,.string ag,.bool st,.string key,.int .i64 k,.int .i64 i,.string t,.slice pk ks.length ck,.slice pl l.length cl,.slice pp prev.length cp,.slice pa aA.length ca,.int .i64 depth,.int .i64 ts,.string hash,.slice ps sigs.length cs] 28)) fun x w'=>(∃v,x=.returned (.tuple #[v,.int .i64 (lZ ⟨room,aK,ag,st,key,⟨k,i,t,ks,l⟩,prev,aA,depth,ts,hash,sigs⟩)]))/\Below (w.alloc (.cells #[.string room,.string aK,.string ag,.bool st,.string key,.int .i64 k,.int .i64 i,.string t,.slice pk ks.length ck,.slice pl l.length cl,.slice pp prev.length cp,.slice pa aA.length ca,.int .i64 depth,.int .i64 ts,.string hash,.slice ps sigs.length cs] 28)).heap.size (w.alloc (.cells #[.string room,.string aK,.string ag,.bool st,.string key,.int .i64 k,.int .i64 i,.string t,.slice pk ks.length ck,.slice pl l.length cl,.slice pp prev.length cp,.slice pa aA.length ca,.int .i64 depth,.int .i64 ts,.string hash,.slice ps sigs.length cs] 28)) w':=by
  refine yK.mono ?_;rintro x w' ⟨h1,h2,h3,h4⟩;refine⟨?_,h4⟩;unfold lZ
  cases hs:aG ⟨room,aK,ag,st,key,⟨k,i,t,ks,l⟩,prev,aA,depth,ts,hash,sigs⟩with
  | false=>exact⟨_,h1 hs⟩
  | true=>
   by_cases hl:16384<(Ck ⟨room,aK,ag,st,key,⟨k,i,t,ks,l⟩,prev,aA,depth,ts,hash,sigs⟩).length
   ·exact⟨_,by rw[if_pos rfl,if_pos hl];exact h2 hs hl⟩
   ·obtain⟨v,hv,_⟩:=h3 hs (by omega);exact⟨v,by rw[if_pos rfl,if_neg hl];exact hv⟩
 clear yK hE hO hz hT;generalize lZ ⟨room,aK,ag,st,key,⟨k,i,t,ks,l⟩,prev,aA,depth,ts,hash,sigs⟩=n at hX ⊢;simp only[dZ,aB,J.kind,J.int,J.text,J.keys,J.list];go_enter Tryz.func24,Tryz.ntmps24;go_wp2_with(go_at_call 49;refine hX.mono ?_;rintro x w1 ⟨⟨v,rfl⟩,aP⟩);go_ret;exact⟨rfl,aj bS aP⟩
open Go.RowKit Go.Maps
theorem Qg{O:Nat->Prop}{w:World}{j:J}{k i:Int}{t:ByteArray}{pk pl:Option Addr}{nk ck nl cl:Nat}(h:isJ O w j [.int .i64 k,.int .i64 i,.string t,.slice pk nk ck,.slice pl nl cl]):
    j.kind=k/\j.int=i/\j.text=t/\nk=j.keys.length/\nl=j.list.length/\ig O w pk ck j.keys/\j.list.length<=cl/\isJs O w pl 0 j.list:=by
 cases j with
 | mk k' i' t' ks l=>
  unfold isJ at h;obtain⟨VW,R8,VX,zD,e,h1,h2,h3⟩:=h
  cases e
  exact⟨rfl,rfl,rfl,rfl,rfl,h1,h2,h3⟩
open Go.RowKit
theorem mZ{w:World}{b:Nat}{t:TypeId}{a0 a1 a2 a3 a4 a5 a6 a7 a8 a9 a10 WT a12 a13 a14 a15:Value}(h:w.heap[b]?=some (.cells #[a0,a1,a2,a3,a4,a5,a6,a7,a8,a9,a10,WT,a12,a13,a14,a15] t (0,0)))(j:Nat)(v:Value)(hj: [a0,a1,a2,a3,a4,a5,a6,a7,a8,a9,a10,WT,a12,a13,a14,a15][j]?=some v):w.cell? ⟨b,j,none⟩=some v:=a_ (cur:= [a0,a1,a2,a3,a4,a5,a6,a7,a8,a9,a10,WT,a12,a13,a14,a15]) h j v hj
open Go.RowKit Go.Maps
theorem Bc:∀{d:Nat} {j:J},goodJ d j=true->goodJ (d+1) j=true
 | 0,j,h=>by unfold goodJ at h;cases h
 | d+1,.mk k i t ks l,h=>by
  unfold goodJ at h ⊢;rw[Bool.and_eq_true]at h ⊢;refine⟨h.1, ?_⟩;have h2:=h.2;have up:l.all (goodJ d)=true->l.all (goodJ (d+1))=true:=fun hl=>List.all_eq_true.2 fun x hx=>Bc (List.all_eq_true.1 hl x hx)
  split at h2
  ·rw[if_pos ‹_›]
  ·rw[if_neg ‹_›]
   split at h2
   ·rw[if_pos ‹_›];exact h2
   ·rw[if_neg ‹_›]
    split at h2
    ·rw[if_pos ‹_›];exact h2
    ·rw[if_neg ‹_›]
     split at h2
     ·rw[if_pos ‹_›];exact h2
     ·rw[if_neg ‹_›]
      split at h2
      ·rw[if_pos ‹_›];exact up h2
      ·rw[if_neg ‹_›]
       split at h2
       ·rw[if_pos ‹_›];rw[Bool.and_eq_true]at h2 ⊢;exact⟨h2.1,up h2.2⟩
       ·cases h2
theorem n_{fn:Func}{a:Tmp}{t:TypeId}(h:fn.results=#[.cell a t])(tmps:Array Value)(P:Program)(w:World){ad:Addr}{v:Value}(hp:tmps.getD a undef=.pointer (some ad))(hl:(loadVar t ad).run P w=.ok v w):
    (results fn tmps).run P w=.ok v w:=by
 rw[Array.getD_eq_getD_getElem?]at hp;simp[results,h,hp,hl,asAddr]
open Go.RowKit
theorem tL(a:Nat)(ha:a<18446744073709551616):(BitVec.ofInt 64 (a:Int)).toNat=a:=by
 rw[BitVec.ofInt_natCast,BitVec.toNat_ofNat];exact Nat.mod_eq_of_lt (by omega)
theorem o8(n:Int)(h0:0<=n)(h1:n<9223372036854775808):IntKind.i64.wrap n=n:=by
 simp[IntKind.wrap,IntKind.bits,IntKind.signed];omega
theorem o9(a b:Nat)(ha:a<9223372036854775808)(hb:b<9223372036854775808):bits .and .i64 (a:Int) (b:Int)=((a&&&b:Nat):Int):=by
 have h1:a&&&b<=a:=Nat.and_le_left
 show IntKind.i64.wrap ((BitVec.ofInt 64 (a:Int)&&&BitVec.ofInt 64 (b:Int)).toNat:Int)=_
 rw[BitVec.toNat_and,tL a (by omega),tL b (by omega)];exact o8 _ (by omega) (by omega)
theorem Jd(a b:Nat)(ha:a<4611686018427387904)(hb:b<4611686018427387904):bits .or .i64 (a:Int) (b:Int)=((a ||| b:Nat):Int):=by
 have h1:a ||| b<2 ^ 62:=Nat.or_lt_two_pow (by omega) (by omega)
 show IntKind.i64.wrap ((BitVec.ofInt 64 (a:Int) ||| BitVec.ofInt 64 (b:Int)).toNat:Int)=_
 rw[BitVec.toNat_or,tL a (by omega),tL b (by omega)];exact o8 _ (by omega) (by omega)
theorem WW(c:Int)(h0:0<=c)(h1:c<=255):bits .and .i64 c 31=c % 32:=by
 obtain⟨n,rfl⟩:=Int.eq_ofNat_of_zero_le h0;have:=o9 n 31 (by omega) (by omega);rw[show((31:Nat):Int)=31 from rfl]at this;rw[this,show(31:Nat)=2 ^ 5 - 1 from rfl,Nat.and_two_pow_sub_one_eq_mod];omega
theorem WX(c:Int)(h0:0<=c)(h1:c<=255):bits .and .i64 c 15=c % 16:=by
 obtain⟨n,rfl⟩:=Int.eq_ofNat_of_zero_le h0;have:=o9 n 15 (by omega) (by omega);rw[show((15:Nat):Int)=15 from rfl]at this;rw[this,show(15:Nat)=2 ^ 4 - 1 from rfl,Nat.and_two_pow_sub_one_eq_mod];omega
theorem zb6(c:Int)(h0:0<=c)(h1:c<=255):bits .and .i64 c 7=c % 8:=by
 obtain⟨n,rfl⟩:=Int.eq_ofNat_of_zero_le h0;have:=o9 n 7 (by omega) (by omega);rw[show((7:Nat):Int)=7 from rfl]at this;rw[this,show(7:Nat)=2 ^ 3 - 1 from rfl,Nat.and_two_pow_sub_one_eq_mod];omega
theorem Je(c:Int)(h0:0<=c)(h1:c<=255):bits .and .u8 c 63=c % 64:=by
 obtain⟨n,rfl⟩:=Int.eq_ofNat_of_zero_le h0;have:=u8_and_nat n 63 (by omega) (by omega);rw[show((63:Nat):Int)=63 from rfl]at this;rw[this,show(63:Nat)=2 ^ 6 - 1 from rfl,Nat.and_two_pow_sub_one_eq_mod];omega
theorem EU:∀n:Fin 256,(n:Nat)&&&192=(n:Nat) / 64*64:=by decide+kernel
theorem Cm(c:Int)(h0:0<=c)(h1:c<=255):bits .and .u8 c 192=c / 64*64:=by
 obtain⟨n,rfl⟩:=Int.eq_ofNat_of_zero_le h0;have:=u8_and_nat n 192 (by omega) (by omega);rw[show((192:Nat):Int)=192 from rfl]at this;rw[this];have h:=EU ⟨n,by omega⟩;simp only at h;rw[h];omega
theorem Qh(c x:Int)(h0:0<=c)(h1:c<=1000000)(h2:0<=x)(h3:x<64):bits .or .i64 (c*64) x=c*64+x:=by
 obtain⟨n,rfl⟩:=Int.eq_ofNat_of_zero_le h0;obtain⟨m,rfl⟩:=Int.eq_ofNat_of_zero_le h2;have:=Jd (n*64) m (by omega) (by omega);rw[show((n*64:Nat):Int)=(n:Int)*64 by omega]at this;rw[this];have h:=Nat.two_pow_add_eq_or_of_lt (i:=6) (b:=m) (by omega) n;rw[show n*64=2 ^ 6*n by omega,<-h];omega
theorem EW(s:ByteArray)(p:Nat)(hp:p<s.size):((s[p]'hp).toNat:Int)=ax (ints s) p:=by
 unfold ax;rw[cK s p hp]
theorem m_{b:Int}(h:0<=b/\b<=255):wrap64 b=b:=by
 unfold wrap64;omega
def accU(t:List Int)(p:Nat)(c:Int):Nat->Int
 | 0=>c
 | k+1=>accU t p c k*64+ax t (p+(k+1)) % 64
theorem uY(t:List Int)(p:Nat)(c:Int)(h:0<=c/\c<=31):∀n,n<=3->0<=accU t p c n/\accU t p c n<=32*64 ^ n - 1:=by
 have e1:accU t p c 1=c*64+ax t (p+1) % 64:=rfl;have e2:accU t p c 2=(c*64+ax t (p+1) % 64)*64+ax t (p+2) % 64:=rfl;have e3:accU t p c 3=((c*64+ax t (p+1) % 64)*64+ax t (p+2) % 64)*64+ax t (p+3) % 64:=rfl;intro n hn
 match n,hn with
 | 0,_=>exact⟨h.1,by show c<=_;omega⟩
 | 1,_=>rw[e1];omega
 | 2,_=>rw[e2];omega
 | 3,_=>rw[e3];omega
def dm(t:List Int)(p:Nat)(many:Nat)(least c:Int):Int×Nat:=
 if(∀k,k<many->bN t (p+(k+1))=true)/\least<=accU t p c many/\cO (accU t p c many)=true then(accU t p c many,many+1)else(0,0)
theorem Nb(s:ByteArray)(p:Nat)(w:World)(hp:p<s.size)(b:Int)(hb:ax (ints s) p=b)(h0:0<=b/\b<=255)(yt:b<128):
    Calls Tryz.prog 70 #[.string s,.int .i64 p] w fun x w'=>x=.returned (.tuple #[.int .i64 b,.int .i64 1])/\w=w':=by
 have e0:=EW s p hp;rw[hb]at e0;have e1:=m_ h0;have hpi:(p:Int)<s.size:=by omega
 go_enter Tryz.func70,Tryz.ntmps70;go_wp2;go_ret2;exact⟨rfl,rfl⟩
theorem Nc(s:ByteArray)(p:Nat)(w:World)(hp:p<s.size)(b:Int)(hb:ax (ints s) p=b)(h0:0<=b/\b<=255)(yt:128<=b)(WY:b<192\/ 248<=b):
    Calls Tryz.prog 70 #[.string s,.int .i64 p] w fun x w'=>x=.returned (.tuple #[.int .i64 0,.int .i64 0])/\w=w':=by
 have e0:=EW s p hp;rw[hb]at e0;have e1:=m_ h0;have hpi:(p:Int)<s.size:=by omega
 rcases WY with WY| WY
 ·go_enter Tryz.func70,Tryz.ntmps70;go_wp2;go_ret2;exact⟨rfl,rfl⟩
 ·go_enter Tryz.func70,Tryz.ntmps70;go_wp2;go_ret2;exact⟨rfl,rfl⟩
theorem Jf(s:ByteArray)(p:Nat)(w:World)(hp:p<s.size)(hs:s.size<=1000000000)(b:Int)(hb:ax (ints s) p=b)(h0:0<=b/\b<=255)(Sa:192<=b)(hhi:b<224):
    Calls Tryz.prog 70 #[.string s,.int .i64 p] w fun x w'=>x=.returned (.tuple #[.int .i64 (dm (ints s) p 1 128 (b % 32)).1,.int .i64 ((dm (ints s) p 1 128 (b % 32)).2:Nat)])/\w=w':=by
 have e0:=EW s p hp;rw[hb]at e0;have e1:=m_ h0;have hpi:(p:Int)<s.size:=by omega
 have em:bits .and .i64 b 31=b % 32:=WW b h0.1 h0.2;have oK:∀i,0<=ax (ints s) i/\ax (ints s) i<=255:=nA s;have HB:Hid (∀i,0<=ax (ints s) i/\ax (ints s) i<=255):=oK;clear oK;obtain⟨c0,NL⟩:∃c,b % 32=c:=⟨_,rfl⟩;have ze:0<=c0/\c0<=31:=by omega
 rw[NL]at em ⊢;go_enter Tryz.func70,Tryz.ntmps70;go_wp2
 go_loopw [6,9] (fun c i wr=>∃n:Nat,i=.int .i64 ((n:Int)+1)/\n<=1/\c=.int .i64 (accU (ints s) p c0 n)/\Hid (∀k,k<n->bN (ints s) (p+(k+1))=true)/\wr=w) (fun c i _=>1+1 - (intOf i).toNat)
 case atStart=>exact⟨0,rfl,by omega,rfl,fun k hk=>absurd hk (by omega),rfl⟩
 case round=>
  obtain⟨n,rfl,hn,rfl,HC,rfl⟩:=hrel;have jH:=uY (ints s) p c0 ze n (by omega);have yL:0<=accU (ints s) p c0 n/\accU (ints s) p c0 n<=10000000:=by
   refine⟨jH.1, ?_⟩;have:(64:Int) ^ n<=64 ^ 3:=by
    have:=Nat.pow_le_pow_right (n:=64) (by decide) (show n<=3 by omega)
    exact_mod_cast this
   omega
  obtain⟨A,hA⟩:∃A,accU (ints s) p c0 n=A:=⟨_,rfl⟩;rw[hA]at yL ⊢;have HA:Hid (accU (ints s) p c0 n=A):=hA;clear jH hA
  by_cases UZ:n<1
  ·have Qi:A<=131071:=by
     have h1:=uY (ints s) p c0 ze n (by omega);rw[HA.out]at h1;have:(64:Int) ^ n<=64 ^ 2:=by
      have:=Nat.pow_le_pow_right (n:=64) (by decide) (show n<=2 by omega)
      exact_mod_cast this
     omega
   have hM1:(n:Int)+1<=1:=by omega
   have U0:Hid (n<1):=UZ;clear UZ
   by_cases FW:p+(n+1)<s.size
   ·have Qj:(p:Int)+((n:Int)+1)<s.size:=by omega
    have e2:=EW s (p+(n+1)) FW;obtain⟨b1,aP⟩:∃b1,ax (ints s) (p+(n+1))=b1:=⟨_,rfl⟩;have vK:=HB.out (p+(n+1));rw[aP]at e2 vK;have a1:=Cm b1 vK.1 vK.2;have a2:=Je b1 vK.1 vK.2;have a3:=Qh A (b1 % 64) yL.1 (by omega) (by omega) (by omega)
    by_cases EX:b1 / 64*64=128
    ·have oV:Hid (bN (ints s) (p+(n+1))=true):=by show _=_;unfold bN;rw[aP];exact decide_eq_true (by omega)
     go_wp2;go_roundw
     case rel=>
      refine⟨n+1,by go_num,by omega, ?_,fun k hk=> ?_,trivial⟩
      ·rw[accU,HA.out,aP]
      ·rcases Nat.lt_or_ge k n with h| h
       ·exact HC.out k h
       ·obtain rfl:k=n:=by omega
        exact oV.out
     case measure=>simp[intOf];omega
    ·have HR:Hid (dm (ints s) p 1 128 c0=(0,0)):=by
       show _=_
       unfold dm;refine if_neg fun h=> ?_;have:=h.1 n U0.out;unfold bN at this;rw[aP]at this;have:=of_decide_eq_true this;omega
     have sN:(b1 / 64*64 !=128)=true:=by simp[EX]
     go_wp2;go_ret2;rw[HR.out];exact⟨rfl,rfl⟩
   ·have Qj:¬((p:Int)+((n:Int)+1)<s.size):=by omega
    have HR:Hid (dm (ints s) p 1 128 c0=(0,0)):=by
     show _=_
     unfold dm;refine if_neg fun h=> ?_;have h1:=h.1 n U0.out;have h2:ax (ints s) (p+(n+1))=0:=kE s (p+(n+1)) (by omega);unfold bN at h1;rw[h2]at h1;exact absurd (of_decide_eq_true h1) (by decide)
    go_wp2;go_ret2;rw[HR.out];exact⟨rfl,rfl⟩
  ·obtain rfl:n=1:=by omega
   have F6:=jo A yL.1
   by_cases hl:128<=A
   ·cases nQ:cO A with
    | true=>
     have HR:Hid (dm (ints s) p 1 128 c0=(A,1+1)):=by
      show _=_
      unfold dm;rw[HA.out,if_pos ⟨HC.out,hl,nQ⟩]
     rw[nQ]at F6;go_wp2_with(go_at_call 99;refine(F6 _).mono ?_;rintro x w' ⟨rfl,rfl⟩);go_ret2;rw[HR.out];exact⟨rfl,rfl⟩
    | false=>
     have HR:Hid (dm (ints s) p 1 128 c0=(0,0)):=by
      show _=_
      unfold dm;rw[HA.out,if_neg (fun h=>by rw[nQ]at h;cases h.2.2)]
     rw[nQ]at F6;go_wp2_with(go_at_call 99;refine(F6 _).mono ?_;rintro x w' ⟨rfl,rfl⟩);go_ret2;rw[HR.out];exact⟨rfl,rfl⟩
   ·have HR:Hid (dm (ints s) p 1 128 c0=(0,0)):=by
      show _=_
      unfold dm;rw[HA.out,if_neg (fun h=>hl h.2.1)]
    go_wp2;go_ret2;rw[HR.out];exact⟨rfl,rfl⟩
theorem Jg(s:ByteArray)(p:Nat)(w:World)(hp:p<s.size)(hs:s.size<=1000000000)(b:Int)(hb:ax (ints s) p=b)(h0:0<=b/\b<=255)(Sa:224<=b)(hhi:b<240):
    Calls Tryz.prog 70 #[.string s,.int .i64 p] w fun x w'=>x=.returned (.tuple #[.int .i64 (dm (ints s) p 2 2048 (b % 16)).1,.int .i64 ((dm (ints s) p 2 2048 (b % 16)).2:Nat)])/\w=w':=by
 have e0:=EW s p hp;rw[hb]at e0;have e1:=m_ h0;have hpi:(p:Int)<s.size:=by omega
 have em:bits .and .i64 b 15=b % 16:=WX b h0.1 h0.2;have oK:∀i,0<=ax (ints s) i/\ax (ints s) i<=255:=nA s;have HB:Hid (∀i,0<=ax (ints s) i/\ax (ints s) i<=255):=oK;clear oK;obtain⟨c0,NL⟩:∃c,b % 16=c:=⟨_,rfl⟩;have ze:0<=c0/\c0<=31:=by omega
 rw[NL]at em ⊢;go_enter Tryz.func70,Tryz.ntmps70;go_wp2
 go_loopw [6,9] (fun c i wr=>∃n:Nat,i=.int .i64 ((n:Int)+1)/\n<=2/\c=.int .i64 (accU (ints s) p c0 n)/\Hid (∀k,k<n->bN (ints s) (p+(k+1))=true)/\wr=w) (fun c i _=>2+1 - (intOf i).toNat)
 case atStart=>exact⟨0,rfl,by omega,rfl,fun k hk=>absurd hk (by omega),rfl⟩
 case round=>
  obtain⟨n,rfl,hn,rfl,HC,rfl⟩:=hrel;have jH:=uY (ints s) p c0 ze n (by omega);have yL:0<=accU (ints s) p c0 n/\accU (ints s) p c0 n<=10000000:=by
   refine⟨jH.1, ?_⟩;have:(64:Int) ^ n<=64 ^ 3:=by
    have:=Nat.pow_le_pow_right (n:=64) (by decide) (show n<=3 by omega)
    exact_mod_cast this
   omega
  obtain⟨A,hA⟩:∃A,accU (ints s) p c0 n=A:=⟨_,rfl⟩;rw[hA]at yL ⊢;have HA:Hid (accU (ints s) p c0 n=A):=hA;clear jH hA
  by_cases UZ:n<2
  ·have Qi:A<=131071:=by
     have h1:=uY (ints s) p c0 ze n (by omega);rw[HA.out]at h1;have:(64:Int) ^ n<=64 ^ 2:=by
      have:=Nat.pow_le_pow_right (n:=64) (by decide) (show n<=2 by omega)
      exact_mod_cast this
     omega
   have hM1:(n:Int)+1<=2:=by omega
   have U0:Hid (n<2):=UZ;clear UZ
   by_cases FW:p+(n+1)<s.size
   ·have Qj:(p:Int)+((n:Int)+1)<s.size:=by omega
    have e2:=EW s (p+(n+1)) FW;obtain⟨b1,aP⟩:∃b1,ax (ints s) (p+(n+1))=b1:=⟨_,rfl⟩;have vK:=HB.out (p+(n+1));rw[aP]at e2 vK;have a1:=Cm b1 vK.1 vK.2;have a2:=Je b1 vK.1 vK.2;have a3:=Qh A (b1 % 64) yL.1 (by omega) (by omega) (by omega)
    by_cases EX:b1 / 64*64=128
    ·have oV:Hid (bN (ints s) (p+(n+1))=true):=by show _=_;unfold bN;rw[aP];exact decide_eq_true (by omega)
     go_wp2;go_roundw
     case rel=>
      refine⟨n+1,by go_num,by omega, ?_,fun k hk=> ?_,trivial⟩
      ·rw[accU,HA.out,aP]
      ·rcases Nat.lt_or_ge k n with h| h
       ·exact HC.out k h
       ·obtain rfl:k=n:=by omega
        exact oV.out
     case measure=>simp[intOf];omega
    ·have HR:Hid (dm (ints s) p 2 2048 c0=(0,0)):=by
       show _=_
       unfold dm;refine if_neg fun h=> ?_;have:=h.1 n U0.out;unfold bN at this;rw[aP]at this;have:=of_decide_eq_true this;omega
     have sN:(b1 / 64*64 !=128)=true:=by simp[EX]
     go_wp2;go_ret2;rw[HR.out];exact⟨rfl,rfl⟩
   ·have Qj:¬((p:Int)+((n:Int)+1)<s.size):=by omega
    have HR:Hid (dm (ints s) p 2 2048 c0=(0,0)):=by
     show _=_
     unfold dm;refine if_neg fun h=> ?_;have h1:=h.1 n U0.out;have h2:ax (ints s) (p+(n+1))=0:=kE s (p+(n+1)) (by omega);unfold bN at h1;rw[h2]at h1;exact absurd (of_decide_eq_true h1) (by decide)
    go_wp2;go_ret2;rw[HR.out];exact⟨rfl,rfl⟩
  ·obtain rfl:n=2:=by omega
   have F6:=jo A yL.1
   by_cases hl:2048<=A
   ·cases nQ:cO A with
    | true=>
     have HR:Hid (dm (ints s) p 2 2048 c0=(A,2+1)):=by
      show _=_
      unfold dm;rw[HA.out,if_pos ⟨HC.out,hl,nQ⟩]
     rw[nQ]at F6;go_wp2_with(go_at_call 99;refine(F6 _).mono ?_;rintro x w' ⟨rfl,rfl⟩);go_ret2;rw[HR.out];exact⟨rfl,rfl⟩
    | false=>
     have HR:Hid (dm (ints s) p 2 2048 c0=(0,0)):=by
      show _=_
      unfold dm;rw[HA.out,if_neg (fun h=>by rw[nQ]at h;cases h.2.2)]
     rw[nQ]at F6;go_wp2_with(go_at_call 99;refine(F6 _).mono ?_;rintro x w' ⟨rfl,rfl⟩);go_ret2;rw[HR.out];exact⟨rfl,rfl⟩
   ·have HR:Hid (dm (ints s) p 2 2048 c0=(0,0)):=by
      show _=_
      unfold dm;rw[HA.out,if_neg (fun h=>hl h.2.1)]
    go_wp2;go_ret2;rw[HR.out];exact⟨rfl,rfl⟩
theorem Jh(s:ByteArray)(p:Nat)(w:World)(hp:p<s.size)(hs:s.size<=1000000000)(b:Int)(hb:ax (ints s) p=b)(h0:0<=b/\b<=255)(Sa:240<=b)(hhi:b<248):
    Calls Tryz.prog 70 #[.string s,.int .i64 p] w fun x w'=>x=.returned (.tuple #[.int .i64 (dm (ints s) p 3 65536 (b % 8)).1,.int .i64 ((dm (ints s) p 3 65536 (b % 8)).2:Nat)])/\w=w':=by
 have e0:=EW s p hp;rw[hb]at e0;have e1:=m_ h0;have hpi:(p:Int)<s.size:=by omega
 have em:bits .and .i64 b 7=b % 8:=zb6 b h0.1 h0.2;have oK:∀i,0<=ax (ints s) i/\ax (ints s) i<=255:=nA s;have HB:Hid (∀i,0<=ax (ints s) i/\ax (ints s) i<=255):=oK;clear oK;obtain⟨c0,NL⟩:∃c,b % 8=c:=⟨_,rfl⟩;have ze:0<=c0/\c0<=31:=by omega
 rw[NL]at em ⊢;go_enter Tryz.func70,Tryz.ntmps70;go_wp2
 go_loopw [6,9] (fun c i wr=>∃n:Nat,i=.int .i64 ((n:Int)+1)/\n<=3/\c=.int .i64 (accU (ints s) p c0 n)/\Hid (∀k,k<n->bN (ints s) (p+(k+1))=true)/\wr=w) (fun c i _=>3+1 - (intOf i).toNat)
 case atStart=>exact⟨0,rfl,by omega,rfl,fun k hk=>absurd hk (by omega),rfl⟩
 case round=>
  obtain⟨n,rfl,hn,rfl,HC,rfl⟩:=hrel;have jH:=uY (ints s) p c0 ze n (by omega);have yL:0<=accU (ints s) p c0 n/\accU (ints s) p c0 n<=10000000:=by
   refine⟨jH.1, ?_⟩;have:(64:Int) ^ n<=64 ^ 3:=by
    have:=Nat.pow_le_pow_right (n:=64) (by decide) (show n<=3 by omega)
    exact_mod_cast this
   omega
  obtain⟨A,hA⟩:∃A,accU (ints s) p c0 n=A:=⟨_,rfl⟩;rw[hA]at yL ⊢;have HA:Hid (accU (ints s) p c0 n=A):=hA;clear jH hA
  by_cases UZ:n<3
  ·have Qi:A<=131071:=by
     have h1:=uY (ints s) p c0 ze n (by omega);rw[HA.out]at h1;have:(64:Int) ^ n<=64 ^ 2:=by
      have:=Nat.pow_le_pow_right (n:=64) (by decide) (show n<=2 by omega)
      exact_mod_cast this
     omega
   have hM1:(n:Int)+1<=3:=by omega
   have U0:Hid (n<3):=UZ;clear UZ
   by_cases FW:p+(n+1)<s.size
   ·have Qj:(p:Int)+((n:Int)+1)<s.size:=by omega
    have e2:=EW s (p+(n+1)) FW;obtain⟨b1,aP⟩:∃b1,ax (ints s) (p+(n+1))=b1:=⟨_,rfl⟩;have vK:=HB.out (p+(n+1));rw[aP]at e2 vK;have a1:=Cm b1 vK.1 vK.2;have a2:=Je b1 vK.1 vK.2;have a3:=Qh A (b1 % 64) yL.1 (by omega) (by omega) (by omega)
    by_cases EX:b1 / 64*64=128
    ·have oV:Hid (bN (ints s) (p+(n+1))=true):=by show _=_;unfold bN;rw[aP];exact decide_eq_true (by omega)
     go_wp2;go_roundw
     case rel=>
      refine⟨n+1,by go_num,by omega, ?_,fun k hk=> ?_,trivial⟩
      ·rw[accU,HA.out,aP]
      ·rcases Nat.lt_or_ge k n with h| h
       ·exact HC.out k h
       ·obtain rfl:k=n:=by omega
        exact oV.out
     case measure=>simp[intOf];omega
    ·have HR:Hid (dm (ints s) p 3 65536 c0=(0,0)):=by
       show _=_
       unfold dm;refine if_neg fun h=> ?_;have:=h.1 n U0.out;unfold bN at this;rw[aP]at this;have:=of_decide_eq_true this;omega
     have sN:(b1 / 64*64 !=128)=true:=by simp[EX]
     go_wp2;go_ret2;rw[HR.out];exact⟨rfl,rfl⟩
   ·have Qj:¬((p:Int)+((n:Int)+1)<s.size):=by omega
    have HR:Hid (dm (ints s) p 3 65536 c0=(0,0)):=by
     show _=_
     unfold dm;refine if_neg fun h=> ?_;have h1:=h.1 n U0.out;have h2:ax (ints s) (p+(n+1))=0:=kE s (p+(n+1)) (by omega);unfold bN at h1;rw[h2]at h1;exact absurd (of_decide_eq_true h1) (by decide)
    go_wp2;go_ret2;rw[HR.out];exact⟨rfl,rfl⟩
  ·obtain rfl:n=3:=by omega
   have F6:=jo A yL.1
   by_cases hl:65536<=A
   ·cases nQ:cO A with
    | true=>
     have HR:Hid (dm (ints s) p 3 65536 c0=(A,3+1)):=by
      show _=_
      unfold dm;rw[HA.out,if_pos ⟨HC.out,hl,nQ⟩]
     rw[nQ]at F6;go_wp2_with(go_at_call 99;refine(F6 _).mono ?_;rintro x w' ⟨rfl,rfl⟩);go_ret2;rw[HR.out];exact⟨rfl,rfl⟩
    | false=>
     have HR:Hid (dm (ints s) p 3 65536 c0=(0,0)):=by
      show _=_
      unfold dm;rw[HA.out,if_neg (fun h=>by rw[nQ]at h;cases h.2.2)]
     rw[nQ]at F6;go_wp2_with(go_at_call 99;refine(F6 _).mono ?_;rintro x w' ⟨rfl,rfl⟩);go_ret2;rw[HR.out];exact⟨rfl,rfl⟩
   ·have HR:Hid (dm (ints s) p 3 65536 c0=(0,0)):=by
      show _=_
      unfold dm;rw[HA.out,if_neg (fun h=>hl h.2.1)]
    go_wp2;go_ret2;rw[HR.out];exact⟨rfl,rfl⟩
theorem SX{t:List Int}{p:Nat}(hb:∀i,0<=ax t i/\ax t i<=255)(h1:192<=ax t p)(h2:ax t p<224):bD t p=dm t p 1 128 (ax t p % 32):=by
 have e1:accU t p (ax t p % 32) 1=ax t p % 32*64+ax t (p+1) % 64:=rfl;have q1:=hb (p+1);unfold bD dm;rw[e1,if_neg (by omega)]
 by_cases c1:bN t (p+1)=true
 ·rw[if_pos (by rw[c1,decide_eq_true (show ax t p / 32=6 by omega)];rfl)]
  split
  ·rename_i hl;have nQ:cO (ax t p % 32*64+ax t (p+1) % 64)=true:=by
    unfold cO;simp only[Bool.and_eq_true,Bool.or_eq_true,decide_eq_true_eq];omega
   rw[if_pos ⟨fun k hk=>(by obtain rfl:k=0:=(by omega);exact c1),hl,nQ⟩]
  ·rename_i hl;rw[if_neg fun h=>hl h.2.1]
 ·rw[if_neg (fun h=>c1 (Bool.and_eq_true _ _ ▸ h:_/\_).2),decide_eq_false (show¬ax t p / 16=14 by omega),decide_eq_false (show¬ax t p / 8=30 by omega)];rw[if_neg (by simp),if_neg (by simp),if_neg fun h=>c1 (h.1 0 (by omega))]
theorem SY{t:List Int}{p:Nat}(h1:224<=ax t p)(h2:ax t p<240):bD t p=dm t p 2 2048 (ax t p % 16):=by
 have e1:accU t p (ax t p % 16) 2=ax t p % 16*4096+ax t (p+1) % 64*64+ax t (p+2) % 64:=by
  show(ax t p % 16*64+ax t (p+1) % 64)*64+ax t (p+2) % 64=_
  omega
 unfold bD dm;rw[e1,if_neg (by omega),decide_eq_false (show¬ax t p / 32=6 by omega),decide_eq_true (show ax t p / 16=14 by omega),decide_eq_false (show¬ax t p / 8=30 by omega),if_neg (by simp)];generalize ax t p % 16*4096+ax t (p+1) % 64*64+ax t (p+2) % 64=A
 by_cases c1:bN t (p+1)=true/\bN t (p+2)=true
 ·rw[if_pos (by rw[c1.1,c1.2];rfl)]
  by_cases hl:2048<=A/\cO A=true
  ·rw[if_pos (by rw[hl.2,decide_eq_true hl.1];rfl),if_pos ⟨fun k hk=>by
     match k,hk with
     | 0,_=>exact c1.1
     | 1,_=>exact c1.2,hl.1,hl.2⟩]
  ·rw[if_neg (fun h=>hl (by simpa using h)),if_neg fun h=>hl h.2]
 ·rw[if_neg (fun h=>c1 (by simpa using h)),if_neg (by simp),if_neg fun h=>c1 ⟨h.1 0 (by omega),h.1 1 (by omega)⟩]
theorem S9{t:List Int}{p:Nat}(h1:240<=ax t p)(h2:ax t p<248):bD t p=dm t p 3 65536 (ax t p % 8):=by
 have e1:accU t p (ax t p % 8) 3=ax t p % 8*262144+ax t (p+1) % 64*4096+ax t (p+2) % 64*64+ax t (p+3) % 64:=by
  show((ax t p % 8*64+ax t (p+1) % 64)*64+ax t (p+2) % 64)*64+ax t (p+3) % 64=_
  omega
 unfold bD dm;rw[e1,if_neg (by omega),decide_eq_false (show¬ax t p / 32=6 by omega),decide_eq_false (show¬ax t p / 16=14 by omega),decide_eq_true (show ax t p / 8=30 by omega),if_neg (by simp),if_neg (by simp)];generalize ax t p % 8*262144+ax t (p+1) % 64*4096+ax t (p+2) % 64*64+ax t (p+3) % 64=A
 by_cases c1:bN t (p+1)=true/\bN t (p+2)=true/\bN t (p+3)=true
 ·rw[if_pos (by rw[c1.1,c1.2.1,c1.2.2];rfl)]
  by_cases hl:65536<=A/\cO A=true
  ·rw[if_pos (by rw[hl.2,decide_eq_true hl.1];rfl),if_pos ⟨fun k hk=>by
     match k,hk with
     | 0,_=>exact c1.1
     | 1,_=>exact c1.2.1
     | 2,_=>exact c1.2.2,hl.1,hl.2⟩]
  ·rw[if_neg (fun h=>hl (by simpa using h)),if_neg fun h=>hl h.2]
 ·rw[if_neg (fun h=>c1 (by simp at h;exact⟨h.1.1,h.1.2,h.2⟩)),if_neg fun h=>c1 ⟨h.1 0 (by omega),h.1 1 (by omega),h.1 2 (by omega)⟩]
theorem Nf{t:List Int}{p:Nat}(h1:128<=ax t p)(h2:ax t p<192\/ 248<=ax t p):bD t p=(0,0):=by
 unfold bD;rw[if_neg (by omega),decide_eq_false (show¬ax t p / 32=6 by omega),decide_eq_false (show¬ax t p / 16=14 by omega),decide_eq_false (show¬ax t p / 8=30 by omega),if_neg (by simp),if_neg (by simp),if_neg (by simp)]
theorem Qk:Runes:=fun s p w hp hs=>by
 have oK:=nA s;have h0:=oK p
 by_cases c1:ax (ints s) p<128
 ·have e:bD (ints s) p=(ax (ints s) p,1):=by unfold bD;rw[if_pos c1]
  rw[e];exact Nb s p w hp _ rfl h0 c1
 by_cases c2:ax (ints s) p<192\/ 248<=ax (ints s) p
 ·rw[Nf (by omega) c2];exact Nc s p w hp _ rfl h0 (by omega) c2
 by_cases c3:ax (ints s) p<224
 ·rw[SX oK (by omega) c3];exact Jf s p w hp hs _ rfl h0 (by omega) c3
 by_cases c4:ax (ints s) p<240
 ·rw[SY (by omega) c4];exact Jg s p w hp hs _ rfl h0 (by omega) c4
 ·rw[S9 (by omega) (by omega)];exact Jh s p w hp hs _ rfl h0 (by omega) (by omega)
end Go.Proofs.YtldegjjaknelgaaGreatDoor

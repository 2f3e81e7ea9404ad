/- A part. -/
import Derived.Test.YtldkblgclochjaaGreatDoorE14
set_option maxRecDepth 100000
set_option maxHeartbeats 16000000
namespace Go.Proofs.YtldkblgclochjaaGreatDoor
open Go.RowKit
theorem sN{d:Nat}{s:ByteArray}(h:s.size<=1000000000):szJ (d+1) (aR s)=true:=by
 unfold aR szJ;rw[decide_eq_true (show s.size<=1000000000 by omega)]
 rfl
theorem Ko{d:Nat}{l:List ByteArray}(f:l.length<=100000)(h:∀x∈l,x.size<=1000000000):szJ (d+2) (dH l)=true:=by
 unfold dH szJ;rw[show(l.map aR).all (szJ (d+1))=true by
  rw[List.all_eq_true];intro x c;obtain⟨y,j,rfl⟩:=List.mem_map.1 c;exact sN (h y j),decide_eq_true (show(l.map aR).length<=100000 by rw[List.length_map];exact f)]
 rfl
theorem Tq{d:Nat}{l:List (ByteArray×ByteArray)}(j:l.length<=100000)(h:∀x∈l,x.1.size<=1000000000/\x.2.size<=1000000000):szJ (d+2) (fH l)=true:=by
 unfold fH szJ;rw[show(l.map fun s=>aR s.2).all (szJ (d+1))=true by
  rw[List.all_eq_true];intro x c;obtain⟨y,f,rfl⟩:=List.mem_map.1 c;exact sN (h y f).2,show(l.map (·.1)).all (fun k=>decide (k.size<=1000000000))=true by
  rw[List.all_eq_true];intro x c;obtain⟨y,f,rfl⟩:=List.mem_map.1 c;exact decide_eq_true (by have:=(h y f).1;omega),decide_eq_true (show(l.map fun s=>aR s.2).length<=100000 by rw[List.length_map];exact j),decide_eq_true (show(l.map (·.1)).length<=100000 by rw[List.length_map];exact j)]
 rfl
theorem WC{d:Nat}{n:Int}:szJ (d+1) (kg n)=true:=by
 unfold kg szJ
 rfl
theorem WG(b:Bool):((if b=true then [dG,aS,dw,ed,kK,dL,eu,bN,dV,qQ,fE]else [dG,aS,dw,ed,dL,eu,bN,dV,qQ,fE]).all (fun k=>decide (k.size<=1000000000)))=true:=by
 cases b<;>kernel_rfl
theorem Tt(e:Ev):(gW e).length<=11:=by
 unfold gW
 cases e.st<;>simp
theorem Bz{e:Ev}(h:Ee e):szJ 12 (dW e)=true:=by
 have j:((gW e).map (·.2)).all (szJ 11)=true:=by
  rw[List.all_eq_true];intro x f;obtain⟨y,c,rfl⟩:=List.mem_map.1 f;unfold gW at c;simp only[List.mem_append,List.mem_cons,List.not_mem_nil,or_false]at c
  rcases c with((rfl| rfl| rfl| rfl)| c)| (rfl| rfl| rfl| rfl| rfl| rfl)
  ·exact Ko h.aA h.Wj
  ·exact Bo 11 12 _ (by omega) h.cont
  ·exact WC
  ·exact sN h.hash
  ·split at c
   ·rw[List.mem_singleton]at c;subst c;exact sN h.key
   ·cases c
  ·exact Ko h.prev h.Wi
  ·exact sN h.room
  ·exact sN h.ai
  ·exact Tq h.sigs h.Qw
  ·exact WC
  ·exact sN h.aU
 have k:=Tt e;unfold dW szJ;have d:=WG e.st;rw[<-qU]at d;rw[d,j,decide_eq_true (show((gW e).map (·.1)).length<=100000 by rw[List.length_map];omega),decide_eq_true (show((gW e).map (·.2)).length<=100000 by rw[List.length_map];omega)]
 rfl
def tZ(e:Ev):List Int:=aY (ord (dW e))
structure zgm(w w':World)(e:Ev)(x:Ending):Prop where
 no:aO e=false->x=.returned (.tuple #[.slice none 0 0,.int .i64 50])
 long:aO e=true->16384<(tZ e).length->x=.returned (.tuple #[.slice none 0 0,.int .i64 13])
 ok:aO e=true->(tZ e).length<=16384->∃v,x=.returned (.tuple #[v,.int .i64 0])/\w'.ownsRow w.heap.size 5 1 v (tZ e).length ((tZ e).map (Value.int .u8))
 below:Below w.heap.size w w'
theorem Aq{O:Nat->Prop}(e:Ev)(p:Pt)(w:World)(hE:mY O w e p)(G:∀k,O k->k<w.heap.size)(T:Ee e)(hT:lW w):
    Calls Tryz.prog 11 #[fA e p] w fun x w'=>zgm w w' e x:=by
 obtain⟨room,aU,ai,st,key,⟨k,i,t,ks,l⟩,prev,aA,depth,ts,hash,sigs⟩:=e;obtain⟨pk,ck,pl,cl,pp,cp,pa,ca,ps,cs⟩:=p;have E:Below w.heap.size w (w.alloc (.cells #[.string room,.string aU,.string ai,.bool st,.string key,.int .i64 k,.int .i64 i,.string t,.slice pk ks.length ck,.slice pl l.length cl,.slice pp prev.length cp,.slice pa aA.length ca,.int .i64 depth,.int .i64 ts,.string hash,.slice ps sigs.length cs] 29)):=(Below.refl _ _).alloc (Nat.le_refl _) _;have K:=Ov ⟨room,aU,ai,st,key,⟨k,i,t,ks,l⟩,prev,aA,depth,ts,hash,sigs⟩ ⟨pk,ck,pl,cl,pp,cp,pa,ca,ps,cs⟩ (w.alloc (.cells #[.string room,.string aU,.string ai,.bool st,.string key,.int .i64 k,.int .i64 i,.string t,.slice pk ks.length ck,.slice pl l.length cl,.slice pp prev.length cp,.slice pa aA.length ca,.int .i64 depth,.int .i64 ts,.string hash,.slice ps sigs.length cs] 29)) (hE.below G E) (fun k hk=>Nat.lt_of_lt_of_le (G k hk) E.size) T (hT.below E);have HC:Hid (∀W,Below (w.alloc (.cells #[.string room,.string aU,.string ai,.bool st,.string key,.int .i64 k,.int .i64 i,.string t,.slice pk ks.length ck,.slice pl l.length cl,.slice pp prev.length cp,.slice pa aA.length ca,.int .i64 depth,.int .i64 ts,.string hash,.slice ps sigs.length cs] 29)).heap.size (w.alloc (.cells #[.string room,.string aU,.string ai,.bool st,.string key,.int .i64 k,.int .i64 i,.string t,.slice pk ks.length ck,.slice pl l.length cl,.slice pp prev.length cp,.slice pa aA.length ca,.int .i64 depth,.int .i64 ts,.string hash,.slice ps sigs.length cs] 29)) W->∀j v, [.string room,.string aU,.string ai,.bool st,.string key,.int .i64 k,.int .i64 i,.string t,.slice pk ks.length ck,.slice pl l.length cl,.slice pp prev.length cp,.slice pa aA.length ca,.int .i64 depth,.int .i64 ts,.string hash,.slice ps sigs.length cs][j]?=some v->W.cell? ⟨w.heap.size,j,none⟩=some v):=fun W X j v hj=>aQ ((X.block _ (by simp)).trans (heap_alloc_new _ _)) j v hj;have V:Hid (∀W,Below (w.alloc (.cells #[.string room,.string aU,.string ai,.bool st,.string key,.int .i64 k,.int .i64 i,.string t,.slice pk ks.length ck,.slice pl l.length cl,.slice pp prev.length cp,.slice pa aA.length ca,.int .i64 depth,.int .i64 ts,.string hash,.slice ps sigs.length cs] 29)).heap.size (w.alloc (.cells #[.string room,.string aU,.string ai,.bool st,.string key,.int .i64 k,.int .i64 i,.string t,.slice pk ks.length ck,.slice pl l.length cl,.slice pp prev.length cp,.slice pa aA.length ca,.int .i64 depth,.int .i64 ts,.string hash,.slice ps sigs.length cs] 29)) W->Calls Tryz.prog 29 #[.agg #[.string room,.string aU,.string ai,.bool st,.string key,.int .i64 k,.int .i64 i,.string t,.slice pk ks.length ck,.slice pl l.length cl,.slice pp prev.length cp,.slice pa aA.length ca,.int .i64 depth,.int .i64 ts,.string hash,.slice ps sigs.length cs]] W fun x w'=>(∃pk nk ck pl nl cl,x=.returned (.agg #[.int .i64 5,.int .i64 0,.string aH,.slice pk nk ck,.slice pl nl cl])/\isJ (fun k=>O k\/ gH W w' k) w' (dW ⟨room,aU,ai,st,key,⟨k,i,t,ks,l⟩,prev,aA,depth,ts,hash,sigs⟩) [.int .i64 5,.int .i64 0,.string aH,.slice pk nk ck,.slice pl nl cl])/\Below W.heap.size W w'):=fun W X=>
  Wu ⟨room,aU,ai,st,key,⟨k,i,t,ks,l⟩,prev,aA,depth,ts,hash,sigs⟩ ⟨pk,ck,pl,cl,pp,cp,pa,ca,ps,cs⟩ W (hE.below G (ae E X)) (fun k hk=>Nat.lt_of_lt_of_le (G k hk) (ae E X).size) T
 have U:Hid (∀W W2 pk nk ck pl nl cl,Below w.heap.size w W->Below W.heap.size W W2->isJ (fun k=>O k\/ gH W W2 k) W2 (dW ⟨room,aU,ai,st,key,⟨k,i,t,ks,l⟩,prev,aA,depth,ts,hash,sigs⟩) [.int .i64 5,.int .i64 0,.string aH,.slice pk nk ck,.slice pl nl cl]->Calls Tryz.prog 28 #[.agg #[.int .i64 5,.int .i64 0,.string aH,.slice pk nk ck,.slice pl nl cl]] W2 fun x w'=>Qk W2 w' (dW ⟨room,aU,ai,st,key,⟨k,i,t,ks,l⟩,prev,aA,depth,ts,hash,sigs⟩) x):=fun W W2 pk nk ck pl nl cl h1 h2 hj=>
  NI (fun x N=>by
   rcases N with N| N
   ·exact Nat.lt_of_lt_of_le (G x N) (Nat.le_trans h1.size h2.size)
   ·exact N.2) (Bz T) (hT.below (ae h1 h2)).pow (fun hg=>G9 hg (Bz T)) hj
 have I:Hid (Below w.heap.size w (w.alloc (.cells #[.string room,.string aU,.string ai,.bool st,.string key,.int .i64 k,.int .i64 i,.string t,.slice pk ks.length ck,.slice pl l.length cl,.slice pp prev.length cp,.slice pa aA.length ca,.int .i64 depth,.int .i64 ts,.string hash,.slice ps sigs.length cs] 29))):=E;have HG:Hid (aO ⟨room,aU,ai,st,key,⟨k,i,t,ks,l⟩,prev,aA,depth,ts,hash,sigs⟩=true->goodJ 12 (dW ⟨room,aU,ai,st,key,⟨k,i,t,ks,l⟩,prev,aA,depth,ts,hash,sigs⟩)=true):=fun h=>g_ h;have HL:Hid ((tZ ⟨room,aU,ai,st,key,⟨k,i,t,ks,l⟩,prev,aA,depth,ts,hash,sigs⟩)=aY (ord (dW ⟨room,aU,ai,st,key,⟨k,i,t,ks,l⟩,prev,aA,depth,ts,hash,sigs⟩))):=rfl;simp only[fA,iN,J.kind,J.int,J.text,J.keys,J.list]at K ⊢;clear hE G T hT E
 cases hs:aO ⟨room,aU,ai,st,key,⟨k,i,t,ks,l⟩,prev,aA,depth,ts,hash,sigs⟩with
 | false=>
  rw[hs]at K;have u:Hid (aO ⟨room,aU,ai,st,key,⟨k,i,t,ks,l⟩,prev,aA,depth,ts,hash,sigs⟩=false):=hs;clear hs;go_enter Tryz.func11,Tryz.ntmps11;go_wp2_with(go_at_call 27;refine K.mono ?_;rintro x f ⟨rfl,d⟩);go_ret2;exact⟨fun _=>rfl,fun h=>(by rw[u.out]at h;cases h),fun h=>(by rw[u.out]at h;cases h),ae I.out d⟩
 | true=>
  rw[hs]at K;have u:Hid (aO ⟨room,aU,ai,st,key,⟨k,i,t,ks,l⟩,prev,aA,depth,ts,hash,sigs⟩=true):=hs;clear hs;obtain⟨n,hn⟩:∃n,(tZ ⟨room,aU,ai,st,key,⟨k,i,t,ks,l⟩,prev,aA,depth,ts,hash,sigs⟩).length=n:=⟨_,rfl⟩;have Y:Hid ((tZ ⟨room,aU,ai,st,key,⟨k,i,t,ks,l⟩,prev,aA,depth,ts,hash,sigs⟩).length=n):=hn;clear hn
  by_cases lC:16384<n
  ·have S:Hid (16384<n):=lC;clear lC;go_enter Tryz.func11,Tryz.ntmps11;go_wp2_with(first
    | (go_at_call 28;refine m.mono ?_;rintro x w3 ⟨_,h3,_,dh⟩
       obtain rfl:=h3 (HG.out u.out) (by rw[<-HL.out,Y.out];exact S.out))
    | (go_at_call 29;refine A.mono ?_;rintro x w2 ⟨⟨xU,F,Kq,Kr,z,Z,rfl,Ff⟩,H⟩
       have m:=U.out f w2 xU F Kq Kr z Z (ae I.out d) H Ff)
    | (go_at_call 27;refine K.mono ?_;rintro x f ⟨rfl,d⟩
       have c:=HC.out f d;have c0:=c 0 _ rfl;have c1:=c 1 _ rfl;have c2:=c 2 _ rfl;have c3:=c 3 _ rfl;have c4:=c 4 _ rfl;have c5:=c 5 _ rfl;have c6:=c 6 _ rfl;have c7:=c 7 _ rfl;have c8:=c 8 _ rfl;have c9:=c 9 _ rfl;have jB:=c 10 _ rfl;have pY:=c 11 _ rfl;have c12:=c 12 _ rfl;have rV:=c 13 _ rfl;have c14:=c 14 _ rfl;have p_:=c 15 _ rfl;clear c;have A:=V.out f d))
   go_ret2;exact⟨fun h=>(by rw[u.out]at h;cases h),fun _ _=>rfl,fun _ h=>absurd h (by rw[Y.out];have:=S.out;omega),ae I.out (ae d (ae H dh))⟩
  ·have S:Hid (n<=16384):=by show _<=_;omega
   clear lC;go_enter Tryz.func11,Tryz.ntmps11;go_wp2_with(first
    | (go_at_call 28;refine m.mono ?_;rintro x w3 ⟨_,_,h3,dh⟩
       obtain⟨v3,rfl,how⟩:=h3 (HG.out u.out) (by rw[<-HL.out,Y.out];exact S.out))
    | (go_at_call 29;refine A.mono ?_;rintro x w2 ⟨⟨xU,F,Kq,Kr,z,Z,rfl,Ff⟩,H⟩
       have m:=U.out f w2 xU F Kq Kr z Z (ae I.out d) H Ff)
    | (go_at_call 27;refine K.mono ?_;rintro x f ⟨rfl,d⟩
       have c:=HC.out f d;have c0:=c 0 _ rfl;have c1:=c 1 _ rfl;have c2:=c 2 _ rfl;have c3:=c 3 _ rfl;have c4:=c 4 _ rfl;have c5:=c 5 _ rfl;have c6:=c 6 _ rfl;have c7:=c 7 _ rfl;have c8:=c 8 _ rfl;have c9:=c 9 _ rfl;have jB:=c 10 _ rfl;have pY:=c 11 _ rfl;have c12:=c 12 _ rfl;have rV:=c 13 _ rfl;have c14:=c 14 _ rfl;have p_:=c 15 _ rfl;clear c;have A:=V.out f d))
   go_ret2;exact⟨fun h=>(by rw[u.out]at h;cases h),fun _ h=>absurd h (by rw[Y.out];have:=S.out;omega),fun _ _=>⟨_,rfl,Fx how (ae I.out (ae d H)).size⟩,ae I.out (ae d (ae H dh))⟩
def dR(e:Ev):Int:=if aO e=true then(if 16384<(tZ e).length then 13 else 0)else 50
theorem kW{O:Nat->Prop}(e:Ev)(p:Pt)(w:World)(u:mY O w e p)(d:∀k,O k->k<w.heap.size)(h:Ee e)(j:lW w):
    Calls Tryz.prog 13 #[fA e p] w fun x w'=>x=.returned (.int .i64 (dR e))/\Below w.heap.size w w':=by
 obtain⟨room,aU,ai,st,key,⟨k,i,t,ks,l⟩,prev,aA,depth,ts,hash,sigs⟩:=e;obtain⟨pk,ck,pl,cl,pp,cp,pa,ca,ps,cs⟩:=p;have c:Below w.heap.size w (w.alloc (.cells #[.string room,.string aU,.string ai,.bool st,.string key,.int .i64 k,.int .i64 i,.string t,.slice pk ks.length ck,.slice pl l.length cl,.slice pp prev.length cp,.slice pa aA.length ca,.int .i64 depth,.int .i64 ts,.string hash,.slice ps sigs.length cs] 29)):=(Below.refl _ _).alloc (Nat.le_refl _) _;have z:=Aq ⟨room,aU,ai,st,key,⟨k,i,t,ks,l⟩,prev,aA,depth,ts,hash,sigs⟩ ⟨pk,ck,pl,cl,pp,cp,pa,ca,ps,cs⟩ (w.alloc (.cells #[.string room,.string aU,.string ai,.bool st,.string key,.int .i64 k,.int .i64 i,.string t,.slice pk ks.length ck,.slice pl l.length cl,.slice pp prev.length cp,.slice pa aA.length ca,.int .i64 depth,.int .i64 ts,.string hash,.slice ps sigs.length cs] 29)) (u.below d c) (fun k F=>Nat.lt_of_lt_of_le (d k F) c.size) h (j.below c);have m:Calls Tryz.prog 11 #[.agg #[.string room,.string aU,.string ai,.bool st,.string key,.int .i64 k,.int .i64 i,.string t,.slice pk ks.length ck,.slice pl l.length cl,.slice pp prev.length cp,.slice pa aA.length ca,.int .i64 depth,.int .i64 ts,.string hash,.slice ps sigs.length cs]] (w.alloc (.cells #[.string room,.string aU,.string ai,.bool st,.string key,.int .i64 k,.int .i64 i,.string t,.slice pk ks.length ck,.slice pl l.length cl,.slice pp prev.length cp,.slice pa aA.length ca,.int .i64 depth,.int .i64 ts,.string hash,.slice ps sigs.length cs] 29)) fun x w'=>(∃v,x=.returned (.tuple #[v,.int .i64 (dR ⟨room,aU,ai,st,key,⟨k,i,t,ks,l⟩,prev,aA,depth,ts,hash,sigs⟩)]))/\Below (w.alloc (.cells #[.string room,.string aU,.string ai,.bool st,.string key,.int .i64 k,.int .i64 i,.string t,.slice pk ks.length ck,.slice pl l.length cl,.slice pp prev.length cp,.slice pa aA.length ca,.int .i64 depth,.int .i64 ts,.string hash,.slice ps sigs.length cs] 29)).heap.size (w.alloc (.cells #[.string room,.string aU,.string ai,.bool st,.string key,.int .i64 k,.int .i64 i,.string t,.slice pk ks.length ck,.slice pl l.length cl,.slice pp prev.length cp,.slice pa aA.length ca,.int .i64 depth,.int .i64 ts,.string hash,.slice ps sigs.length cs] 29)) w':=by
  refine z.mono ?_;rintro x w' ⟨h1,h2,h3,h4⟩;refine⟨?_,h4⟩;unfold dR
  cases hs:aO ⟨room,aU,ai,st,key,⟨k,i,t,ks,l⟩,prev,aA,depth,ts,hash,sigs⟩with
  | false=>exact⟨_,h1 hs⟩
  | true=>
   by_cases f:16384<(tZ ⟨room,aU,ai,st,key,⟨k,i,t,ks,l⟩,prev,aA,depth,ts,hash,sigs⟩).length
   ·exact⟨_,by rw[if_pos rfl,if_pos f];exact h2 hs f⟩
   ·obtain⟨v,E,_⟩:=h3 hs (by omega);exact⟨v,by rw[if_pos rfl,if_neg f];exact E⟩
 clear z u d h j;generalize dR ⟨room,aU,ai,st,key,⟨k,i,t,ks,l⟩,prev,aA,depth,ts,hash,sigs⟩=n at m ⊢;simp only[fA,iN,J.kind,J.int,J.text,J.keys,J.list];go_enter Tryz.func13,Tryz.ntmps13;go_wp2_with(go_at_call 11;refine m.mono ?_;rintro x G ⟨⟨v,rfl⟩,A⟩);go_ret;exact⟨rfl,ae c A⟩
open Go.RowKit Go.Maps
def BA(v:Value):Option (DataW Value×List MemPlace):=some (.held v, [])
def lookE:List (ByteArray×Value)->ByteArray->Option Value
 | [],_=>none
 | p::r,s=>if p.1.data=s.data then some p.2 else lookE r s
def zk:List (ByteArray×Value)->ByteArray->List (ByteArray×Value)
 | [],_=> []
 | p::r,s=>if p.1.data=s.data then zk r s else p::zk r s
theorem data_inj{a b:ByteArray}(h:a.data=b.data):a=b:=by
 cases a;cases b
 simp only at h;rw[h]
theorem FW{es:List (ByteArray×Value)}{s:ByteArray}:lookE es s=none↔s∉es.map (·.1):=by
 induction es with
 | nil=>simp[lookE]
 | cons p r ih=>
  unfold lookE
  by_cases h:p.1.data=s.data
  ·rw[if_pos h];simp[data_inj h]
  ·rw[if_neg h,ih];simp;intro _ e;exact h (by rw[e])
theorem FX{es:List (ByteArray×Value)}{k s:ByteArray}{v:Value}(c:k∉es.map (·.1)):lookE (es++ [(k,v)]) s=if k.data=s.data then some v else lookE es s:=by
 induction es with
 | nil=>simp[lookE]
 | cons p r ih=>
  have d:k≠p.1:=fun e=>c (by simp[e]);have f:k∉r.map (·.1):=fun h=>c (by simp at h ⊢;exact .inr h);simp only[List.cons_append,lookE,ih f]
  by_cases h:p.1.data=s.data
  ·rw[if_pos h,if_neg (fun e=>d (data_inj (e.trans h.symm))),if_pos h]
  ·rw[if_neg h,if_neg h]
theorem Ku(es:List (ByteArray×Value))(k s:ByteArray):lookE (zk es k) s=if k.data=s.data then none else lookE es s:=by
 induction es with
 | nil=>simp[lookE,zk]
 | cons p r ih=>
  unfold zk
  by_cases h:p.1.data=k.data
  ·rw[if_pos h,ih]
   by_cases h2:k.data=s.data
   ·rw[if_pos h2,if_pos h2]
   ·rw[if_neg h2,if_neg h2,lookE,if_neg (fun e=>h2 (h.symm.trans e))]
  ·rw[if_neg h,lookE,ih,lookE]
   by_cases h2:p.1.data=s.data
   ·rw[if_pos h2,if_pos h2,if_neg (fun e=>h (h2.trans e.symm))]
   ·rw[if_neg h2,if_neg h2]
theorem Z6(es:List (ByteArray×Value))(k:ByteArray):(zk es k).Sublist es:=by
 induction es with
 | nil=>exact List.Sublist.refl _
 | cons p r ih=>
  unfold zk
  split
  ·exact ih.cons p
  ·exact ih.cons_cons p
theorem Z7{es:List (ByteArray×Value)}(d:(es.map (·.1)).Pairwise (· ≠ ·))(k:ByteArray):(zk es k).length+(if(lookE es k).isSome=true then 1 else 0)=es.length:=by
 induction es with
 | nil=>rfl
 | cons p r c=>
  rw[List.map_cons,List.pairwise_cons]at d;have c:=c d.2;unfold zk lookE
  by_cases h:p.1.data=k.data
  ·rw[if_pos h,if_pos h];have f:lookE r k=none:=FW.2 (by rw[<-data_inj h];exact fun j=>d.1 _ j rfl);rw[f]at c;simp at c ⊢;exact c
  ·rw[if_neg h,if_neg h,List.length_cons,List.length_cons];omega
structure fU(w:World)(M:Nat)(es:List (ByteArray×Value)):Prop where
 own:∃D n,w.ownsMap Tryz.prog 9 BA M n D/\n<=100000/\(∀s,vw s->Maps.has D (Bl s)=(lookE es s).isSome)/\(∀s z,vw s->D.atKey (Bl s) (.held z)=.held ((lookE es s).getD z))/\Maps.size D=es.length
 apart:(es.map (·.1)).Pairwise (· ≠ ·)
theorem fU.bf{S:Nat->Prop}{w w':World}{M:Nat}{es:List (ByteArray×Value)}(h:fU w M es)(j:ag S w w')(m:¬S M):fU w' M es:=by
 obtain⟨⟨D,n,⟨d,clock,c,F,k,u⟩,r⟩,f⟩:=h;exact⟨⟨D,n,⟨d,clock,(j.block M (Array.getElem?_eq_some_iff.1 c).1 m).trans c,F,k,u⟩,r⟩,f⟩
theorem fU.lt{w:World}{M:Nat}{es:List (ByteArray×Value)}(h:fU w M es):M<w.heap.size:=by
 obtain⟨⟨D,n,c,_⟩,_⟩:=h;exact c.lt
theorem fU.made(w:World):fU (w.alloc (.map #[] 0)) w.heap.size []:=
 ⟨⟨.map [],0,World.ownsMap_made _ _ _ _,by omega,fun _ _=>rfl,fun _ _ _=>rfl,rfl⟩,List.Pairwise.nil⟩
abbrev WH:Value:=.agg #[.int .i64 0,.int .i64 0,.string ⟨#[]⟩,.slice none 0 0,.slice none 0 0]
theorem za2(w:World):(zeroValue 25).run Tryz.prog w=.ok WH w:=by kernel_rfl
theorem fU.look{w:World}{M:Nat}{es:List (ByteArray×Value)}(h:fU w M es){s:ByteArray}(d:vw s):(Instr.lookup 65 (.map (some M)) (.string s) false).run Tryz.prog w=.ok ((lookE es s).getD WH) w:=by
 obtain⟨⟨D,n,f,_,_,j,_⟩,_⟩:=h;obtain⟨v,ps,k,c⟩:=f.lookup yS Tryz.underlying65 (za2 w) (zd:=.held WH) (zp:= []) rfl (RO d);rw[j s _ d]at c;unfold BA at c;have:v=(lookE es s).getD WH:=by
  have:=Option.some.inj c;have:=congrArg Prod.fst this;exact DataW.held.inj this
 rw[k,this]
theorem fU.look_ok{w:World}{M:Nat}{es:List (ByteArray×Value)}(h:fU w M es){s:ByteArray}(c:vw s):(Instr.lookup 65 (.map (some M)) (.string s) true).run Tryz.prog w=.ok (.tuple #[(lookE es s).getD WH,.bool (lookE es s).isSome]) w:=by
 obtain⟨⟨D,n,j,_,f,k,_⟩,_⟩:=h;obtain⟨v,ps,m,d⟩:=j.look_ok yS Tryz.underlying65 (za2 w) (zd:=.held WH) (zp:= []) rfl (RO c);rw[k s _ c]at d;unfold BA at d;have:v=(lookE es s).getD WH:=by
  have:=Option.some.inj d;have:=congrArg Prod.fst this;exact DataW.held.inj this
 rw[m,this,f s c]
theorem fU.put{w:World}{M:Nat}{es:List (ByteArray×Value)}(h:fU w M es){s:ByteArray}(G:vw s)(f:s∉es.map (·.1))(hl:es.length<90000)(v:Value):
    ∃w',(Instr.mapUpdate 65 (.map (some M)) (.string s) v).run Tryz.prog w=.ok () w'/\fU w' M (es++ [(s,v)])/\w.grownBy w' (some M):=by
 obtain⟨⟨D,n,U,Jd,u,K,T⟩,Z⟩:=h;have P_:=U;obtain⟨m,clock,N,F,X,H⟩:=P_;have lG:m.size=Maps.size D:=by
  rw[H];simp[Maps.size,length_sorted]
 have j:w.ownsMap Tryz.prog 9 BA M es.length D:=⟨m,clock,N,F,by omega,H⟩;obtain⟨w',V,Y,S⟩:=j.update yS Tryz.underlying65 (by unfold maxLen;omega) (RO G) (d:=.held v) (ps:= []) rfl;have E:=j.isMap;have I:=FW.2 f;refine⟨w',V,⟨⟨D.put (Bl s) (.held v),es.length+1,Y,by omega,fun x k=> ?_,fun x z k=> ?_, ?_⟩, ?_⟩,S⟩
 ·rw[FX f]
  by_cases e:x=s
  ·subst e;rw[has_put_same E (show WideAt.IsKeyLit (Bl x)from trivial),if_pos rfl];rfl
  ·rw[has_put_other (fun c=>e (vz c)),u x k,if_neg (fun c=>e (data_inj c).symm)]
 ·rw[FX f]
  by_cases e:x=s
  ·subst e;rw[atKey_put_same E (show WideAt.IsKeyLit (Bl x)from trivial),if_pos rfl];rfl
  ·rw[atKey_put_other (fun c=>e (vz c)),K x z k,if_neg (fun c=>e (data_inj c).symm)]
 ·rw[size_put (j.tidy yS),u s G,I,T];simp
 ·rw[List.map_append,List.pairwise_append];refine⟨Z,by simp,fun a Qt b A e=> ?_⟩;simp at A;subst A;exact f (e ▸ Qt)
theorem fU.del{w:World}{M:Nat}{es:List (ByteArray×Value)}(h:fU w M es){s:ByteArray}(E:vw s)(j:TypeId):
    ∃w',(Builtin.delete_ #[65,9] j #[.map (some M),.string s]).run Tryz.prog w=.ok (.tuple #[]) w'/\fU w' M (zk es s)/\ag (One M) w w':=by
 obtain⟨⟨D,n,m,F,u,G,I⟩,A⟩:=h;obtain⟨w',K,S,⟨T,c1,U,c2,H,d⟩⟩:=m.drop yS Tryz.underlying65 (RO E) j;refine⟨w',K,⟨⟨D.del (Bl s),n,S,F,fun x f=> ?_,fun x z f=> ?_, ?_⟩, ?_⟩, ?_⟩
 ·rw[Ku]
  by_cases e:x=s
  ·subst e;rw[has_del_same,if_pos rfl];rfl
  ·rw[has_del_other (fun c=>e (vz c)),u x f,if_neg (fun c=>e (data_inj c).symm)]
 ·rw[Ku]
  by_cases e:x=s
  ·subst e;rw[atKey_del_same,if_pos rfl];rfl
  ·rw[atKey_del_other (fun c=>e (vz c)),G x z f,if_neg (fun c=>e (data_inj c).symm)]
 ·have h1:=size_del (k:=Bl s) (m.tidy yS);have h2:=Z7 A s;rw[u s E,I]at h1;omega
 ·exact A.sublist ((Z6 es s).map _)
 ·rw[d];exact⟨rfl,rfl,rfl,by simp[ChangeMaps.setBlock],fun k _ N=>ChangeMaps.heap_setBlock_other H _ (fun e=>N e)⟩
theorem fU.len{w:World}{M:Nat}{es:List (ByteArray×Value)}(h:fU w M es)(c:TypeId):(Builtin.len_ #[65] c #[.map (some M)]).run Tryz.prog w=.ok (.int .i64 (es.length:Int)) w:=by
 obtain⟨⟨D,n,f,_,_,_,d⟩,_⟩:=h;rw[f.len Tryz.underlying65 c,d]
section
variable {w : World} {dQ : Array Oper} {rest : List Oper} {o : Oper} {a : Act} {Q : Exit -> Act -> World -> Prop} {M : Nat} {es : List (ByteArray × Value)} {s : ByteArray}
theorem Hz(k:o.guard=none)(m x:Operand)(f:o.op=Op.lookup 65 m x false)(E:a.eval m=.map (some M))(d:a.eval x=.string s)(h:fU w M es)(z:vw s)(v:Value)(A:(lookE es s).getD WH=v)
    (u:wpList Tryz.prog dQ Q rest (a.put o.dst v) w):wpList Tryz.prog dQ Q (o::rest) a w:=by
 refine wpList_plain k fun F j=> ?_;have c:=h.look z;rw[A]at c;unfold Oper.wp;simp[execOp,f,E,d,c,Result.andThen];exact j _ _ u
theorem m_(k:o.guard=none)(m x:Operand)(f:o.op=Op.lookup 65 m x true)(E:a.eval m=.map (some M))(d:a.eval x=.string s)(h:fU w M es)(z:vw s)(v:Value)(A:(lookE es s).getD WH=v)
    (u:wpList Tryz.prog dQ Q rest (a.put o.dst (.tuple #[v,.bool (lookE es s).isSome])) w):wpList Tryz.prog dQ Q (o::rest) a w:=by
 refine wpList_plain k fun F j=> ?_;have c:=h.look_ok z;rw[A]at c;unfold Oper.wp;simp[execOp,f,E,d,c,Result.andThen];exact j _ _ u
theorem Kw(k:o.guard=none)(m x:Operand)(f:o.op=Op.call {callee:=Callee.builtin Builtin.delete,args:=#[m,x],argTypes:=#[65,9]})(F:a.eval m=.map (some M))(c:a.eval x=.string s)(h:fU w M es)(A:vw s)
    (z:∀w',fU w' M (zk es s)->ag (One M) w w'->wpList Tryz.prog dQ Q rest (a.put o.dst (.tuple #[])) w'):wpList Tryz.prog dQ Q (o::rest) a w:=by
 refine wpList_plain k fun G j=> ?_;obtain⟨w',u,E,d⟩:=h.del A o.type;unfold Oper.wp;simp[execOp,f,resolve,invoke,builtin,F,c,u,Result.andThen];exact j _ _ (z w' E d)
theorem BB{K:Act->World->Prop}(m x y:Operand)(j:o.op=Op.mapUpdate 65 m x y)(v:Value)(G:a.eval m=.map (some M))(c:a.eval x=.string s)(f:a.eval y=v)(h:fU w M es)(E:vw s)(z:s∉es.map (·.1))(k:es.length<90000)
    (A:∀w',fU w' M (es++ [(s,v)])->w.grownBy w' (some M)->K (a.put o.dst undef) w'):o.wp Tryz.prog a w K Q:=by
 obtain⟨w',u,F,d⟩:=h.put E z k v;unfold Oper.wp;simp[execOp,j,G,c,f,u,Result.andThen,Oper.upon];exact A w' F d
end
def lookJ:List (ByteArray×J)->ByteArray->Option J
 | [],_=>none
 | p::r,s=>if p.1.data=s.data then some p.2 else lookJ r s
def jJ:List (ByteArray×J)->ByteArray->List (ByteArray×J)
 | [],_=> []
 | p::r,s=>if p.1.data=s.data then jJ r s else p::jJ r s
def gz(ps:List (ByteArray×J))(s:ByteArray):J:=(lookJ ps s).getD J.zero
def vJ(O:Nat->Prop)(w:World)(j:J)(v:Value):Prop:=∃k i t pk nk ck pl nl cl,v=.agg #[.int .i64 k,.int .i64 i,.string t,.slice pk nk ck,.slice pl nl cl]/\isJ O w j [.int .i64 k,.int .i64 i,.string t,.slice pk nk ck,.slice pl nl cl]
theorem Z9(O:Nat->Prop)(w:World):vJ O w J.zero WH:=⟨_,_,_,_,_,_,_,_,_,rfl,uz O w⟩
theorem vJ.carry{O O':Nat->Prop}{w w':World}{j:J}{v:Value}(h:vJ O w j v)(c:∀k,O k->O' k/\w'.heap[k]?=w.heap[k]?):vJ O' w' j v:=by
 obtain⟨k,i,t,pk,nk,ck,pl,nl,cl,e,d⟩:=h;exact⟨k,i,t,pk,nk,ck,pl,nl,cl,e,d.carry c⟩
def oL(O:Nat->Prop)(w:World):List (ByteArray×J)->List (ByteArray×Value)->Prop
 | [],es=>es= []
 | p::r,es=>∃v q,es=(p.1,v)::q/\vJ O w p.2 v/\oL O w r q
theorem oL.carry{O O':Nat->Prop}{w w':World}(c:∀k,O k->O' k/\w'.heap[k]?=w.heap[k]?):∀{ps:List (ByteArray×J)} {es:List (ByteArray×Value)},oL O w ps es->oL O' w' ps es
 | [],_,h=>h
 | _::_,_,⟨v,q,e,hv,hr⟩=>⟨v,q,e,hv.carry c,oL.carry c hr⟩
theorem oL.keys{O:Nat->Prop}{w:World}:∀{ps:List (ByteArray×J)} {es:List (ByteArray×Value)},oL O w ps es->es.map (·.1)=ps.map (·.1)
 | [],_,h=>by
  have h:_=_:=h;rw[h];rfl
 | p::r,_,⟨v,q,e,hv,hr⟩=>by rw[e,List.map_cons,List.map_cons,hr.keys]
theorem oL.snoc{O:Nat->Prop}{w:World}{k:ByteArray}{j:J}{v:Value}(c:vJ O w j v):∀{ps:List (ByteArray×J)} {es:List (ByteArray×Value)},oL O w ps es->oL O w (ps++ [(k,j)]) (es++ [(k,v)])
 | [],_,h=>by
  have h:_=_:=h;subst h;exact⟨v, [],rfl,c,rfl⟩
 | p::r,_,⟨u,q,e,hu,hr⟩=>⟨u,q++ [(k,v)],by rw[e];rfl,hu,oL.snoc c hr⟩
theorem oL.look{O:Nat->Prop}{w:World}(s:ByteArray):∀{ps:List (ByteArray×J)} {es:List (ByteArray×Value)},oL O w ps es->vJ O w (gz ps s) ((lookE es s).getD WH)/\(lookE es s).isSome=(lookJ ps s).isSome
 | [],_,h=>by
  have h:_=_:=h;subst h;exact⟨Z9 _ _,rfl⟩
 | p::r,_,⟨v,q,e,hv,hr⟩=>by
  subst e;have c:=oL.look s hr;unfold gz at c ⊢;unfold lookE lookJ
  by_cases h:p.1.data=s.data
  ·rw[if_pos h,if_pos h];exact⟨hv,rfl⟩
  ·rw[if_neg h,if_neg h];exact c
theorem oL.del{O:Nat->Prop}{w:World}(s:ByteArray):∀{ps:List (ByteArray×J)} {es:List (ByteArray×Value)},oL O w ps es->oL O w (jJ ps s) (zk es s)
 | [],_,h=>by
  have h:_=_:=h;subst h
  rfl
 | p::r,_,⟨v,q,e,hv,hr⟩=>by
  subst e;have c:=oL.del s hr;unfold zk jJ
  by_cases h:p.1.data=s.data
  ·rw[if_pos h,if_pos h];exact c
  ·rw[if_neg h,if_neg h];exact⟨v,_,rfl,hv,c⟩
structure ER(O:Nat->Prop)(w:World)(R M:Nat)(ps:List (ByteArray×J))(bad:Bool):Prop where
 obj:w.heap[R]?=some (.cells #[.map (some M),.bool bad] 67 (0,0))
 map:∃es,fU w M es/\oL O w ps es
 ne:R≠M
 low:∀k,O k->k≠R/\k≠M/\k<w.heap.size
theorem ER.c0{O:Nat->Prop}{w:World}{R M:Nat}{ps:List (ByteArray×J)}{bad:Bool}(h:ER O w R M ps bad):w.cell? ⟨R,0,none⟩=some (.map (some M)):=aQ (cur:= [_,_]) h.obj 0 _ rfl
theorem ER.c1{O:Nat->Prop}{w:World}{R M:Nat}{ps:List (ByteArray×J)}{bad:Bool}(h:ER O w R M ps bad):w.cell? ⟨R,1,none⟩=some (.bool bad):=aQ (cur:= [_,_]) h.obj 1 _ rfl
theorem ER.lt{O:Nat->Prop}{w:World}{R M:Nat}{ps:List (ByteArray×J)}{bad:Bool}(h:ER O w R M ps bad):R<w.heap.size/\M<w.heap.size:=by
 obtain⟨es,h1,_⟩:=h.map;exact⟨(Array.getElem?_eq_some_iff.1 h.obj).1,h1.lt⟩
theorem ER.bf{O S:Nat->Prop}{w w':World}{R M:Nat}{ps:List (ByteArray×J)}{bad:Bool}(h:ER O w R M ps bad)(d:ag S w w')(j:¬S R)(m:¬S M)(f:∀k,O k->¬S k):ER O w' R M ps bad:=by
 obtain⟨es,h1,h2⟩:=h.map;have u:=h.lt;exact⟨(d.block R u.1 j).trans h.obj,⟨es,h1.bf d m,h2.carry fun k c=>⟨c,d.block k (h.low k c).2.2 (f k c)⟩⟩,h.ne,fun k c=>⟨(h.low k c).1,(h.low k c).2.1,Nat.lt_of_lt_of_le (h.low k c).2.2 d.size⟩⟩
theorem ER.below{O:Nat->Prop}{w w':World}{R M:Nat}{ps:List (ByteArray×J)}{bad:Bool}(h:ER O w R M ps bad)(c:Below w.heap.size w w'):ER O w' R M ps bad:=h.bf (S:=fun _=>False) (ag.fJ c) (fun h=>h) (fun h=>h) (fun _ _ h=>h)
theorem ER.MB{O:Nat->Prop}{w:World}{R M:Nat}{ps:List (ByteArray×J)}{bad:Bool}(h:ER O w R M ps bad):w.frozen? ⟨R,1,none⟩=false/\ER O (w.setCell ⟨R,1,none⟩ (.bool true)) R M ps true/\ag (One R) w (w.setCell ⟨R,1,none⟩ (.bool true)):=by
 have K:ag (One R) w (w.setCell ⟨R,1,none⟩ (.bool true)):=ag.setCell (ag.refl _ _) (fun _=>(rfl:R=R)) _;obtain⟨es,h1,h2⟩:=h.map;refine⟨frozen_of_row w R 1 _ _ h.obj,⟨?_,⟨es,h1.bf K (fun e=>h.ne (by unfold One at e;exact e.symm)),h2.carry fun k c=>⟨c,K.block k (h.low k c).2.2 (h.low k c).1⟩⟩,h.ne,fun k c=>⟨(h.low k c).1,(h.low k c).2.1,Nat.lt_of_lt_of_le (h.low k c).2.2 K.size⟩⟩,K⟩;rw[heap_setCell_same _ R 1 _ _ _ h.obj];rfl
theorem xn{O:Nat->Prop}{w:World}{R M:Nat}{ps:List (ByteArray×J)}{bad:Bool}(h:ER O w R M ps bad)(k i:Int)(t:ByteArray)(pk pl:Option Addr)(nk ck nl cl:Nat)(kd:Int):
    Calls Tryz.prog 79 #[.pointer (some ⟨R,0,none⟩),.agg #[.int .i64 k,.int .i64 i,.string t,.slice pk nk ck,.slice pl nl cl],.int .i64 kd] w fun x w'=>x=.returned (.tuple #[])/\ER O w' R M ps (bad || decide (k≠kd))/\ag (One R) w w':=by
 have c:=h.below ((Below.refl _ _).alloc (Nat.le_refl _) (.cells #[.int .i64 k,.int .i64 i,.string t,.slice pk nk ck,.slice pl nl cl] 25));have j:ag (One R) w (w.alloc (.cells #[.int .i64 k,.int .i64 i,.string t,.slice pk nk ck,.slice pl nl cl] 25)):=(ag.refl _ _).alloc _
 by_cases d:k=kd
 ·subst d;have f:Hid ((bad || decide (k≠k))=bad):=by show _=_;simp
  go_enter Tryz.func79,Tryz.ntmps79;go_wp2
  go_end0
  exact⟨rfl,by rw[f.out];exact c,j⟩
 ·have f:Hid ((bad || decide (k≠kd))=true):=by show _=_;simp[d]
  have m:decide (k=kd)=false:=decide_eq_false d;obtain⟨A,z,u⟩:=c.MB;have c1:=c.c1;go_enter Tryz.func79,Tryz.ntmps79;go_wp2
  go_end0
  exact⟨rfl,by rw[f.out];exact z,j.then u⟩
theorem nC{O:Nat->Prop}{w:World}{R M:Nat}{ps:List (ByteArray×J)}{bad:Bool}(h:ER O w R M ps bad)(s:ByteArray)(hs:vw s)(kd:Int):
    Calls Tryz.prog 36 #[.pointer (some ⟨R,0,none⟩),.string s,.int .i64 kd] w fun x w'=>(∃k i t pk nk ck pl nl cl,x=.returned (.agg #[.int .i64 k,.int .i64 i,.string t,.slice pk nk ck,.slice pl nl cl])/\isJ O w' (gz ps s) [.int .i64 k,.int .i64 i,.string t,.slice pk nk ck,.slice pl nl cl])/\ER O w' R M (jJ ps s) (bad || decide ((gz ps s).kind≠kd))/\ag (dU R M) w w':=by
 have bQ:=h.lt;obtain⟨es,hm,hr⟩:=h.map;obtain⟨⟨k,i,t,pk,nk,ck,pl,nl,cl,hv,I⟩,_⟩:=hr.look s;have HKK:Hid ((gz ps s).kind=k):=by
  show _=_
  cases hg:gz ps s with
  | mk k' i' t' ks l=>
   rw[hg]at I;unfold isJ at I;obtain⟨_,_,_,_,e,_⟩:=I
   cases e
   rfl
 obtain⟨WA,K⟩:∃WA,WA=w.alloc (.cells #[.int .i64 0,.int .i64 0,.string ⟨#[]⟩,.slice none 0 0,.slice none 0 0] 25):=⟨_,rfl⟩;have A:Below w.heap.size w WA:=by rw[K];exact(Below.refl _ _).alloc (Nat.le_refl _) _
 have bq:WA.heap[w.heap.size]?=some (.cells #[.int .i64 0,.int .i64 0,.string ⟨#[]⟩,.slice none 0 0,.slice none 0 0] 25 (0,0)):=by rw[K];exact heap_alloc_new _ _
 have FM:WA.heap.size=w.heap.size+1:=by rw[K];simp
 have X:=h.below A;have z:=hm.bf (S:=fun _=>False) (ag.fJ A) (fun h=>h);have a0:=X.c0;have u:Below WA.heap.size WA (WA.alloc (.cells #[.int .i64 k,.int .i64 i,.string t,.slice pk nk ck,.slice pl nl cl] 25)):=(Below.refl _ _).alloc (Nat.le_refl _) _;have G:=X.below u;have H:=z.bf (S:=fun _=>False) (ag.fJ u) (fun h=>h);have b0:=G.c0;have m:(WA.alloc (.cells #[.int .i64 k,.int .i64 i,.string t,.slice pk nk ck,.slice pl nl cl] 25)).heap[WA.heap.size]?=some (.cells #[.int .i64 k,.int .i64 i,.string t,.slice pk nk ck,.slice pl nl cl] 25 (0,0)):=heap_alloc_new _ _;have F:(WA.alloc (.cells #[.int .i64 k,.int .i64 i,.string t,.slice pk nk ck,.slice pl nl cl] 25)).heap[w.heap.size]?=some (.cells #[.int .i64 0,.int .i64 0,.string ⟨#[]⟩,.slice none 0 0,.slice none 0 0] 25 (0,0)):=(u.block _ (by omega)).trans bq;have zgn:=hr.carry (O':=O) (w':=WA.alloc (.cells #[.int .i64 k,.int .i64 i,.string t,.slice pk nk ck,.slice pl nl cl] 25)) fun q c=>⟨c,(ae A u).block q (h.low q c).2.2⟩;have U:Hid (isJ O (WA.alloc (.cells #[.int .i64 k,.int .i64 i,.string t,.slice pk nk ck,.slice pl nl cl] 25)) (gz ps s) [.int .i64 k,.int .i64 i,.string t,.slice pk nk ck,.slice pl nl cl]):=I.carry fun q c=>⟨c,(ae A u).block q (h.low q c).2.2⟩;have j:Hid (∀k,O k->k≠R/\k≠M/\k<w.heap.size):=h.low;have E:Hid (R≠M):=h.ne;have HWW:Hid (Below w.heap.size w (WA.alloc (.cells #[.int .i64 k,.int .i64 i,.string t,.slice pk nk ck,.slice pl nl cl] 25))):=ae A u;have d:Hid ((WA.alloc (.cells #[.int .i64 k,.int .i64 i,.string t,.slice pk nk ck,.slice pl nl cl] 25)).heap.size=w.heap.size+2):=by show _=_;simp[FM]
 rw[FM]at m;have V:Hid _:=F;have HJX:Hid _:=m;rw[K]at a0 z b0 H;clear hm hr I A bq X u h F m;go_enter Tryz.func36,Tryz.ntmps36;go_wp2_with(first
  | (at_lookup;refine Hz rfl _ _ rfl rfl rfl z hs _ hv ?_)
  | (at_delete;refine Kw rfl _ _ rfl rfl rfl H hs ?_;intro W2 Tu f
     rw[<-K]at f;have AZ:ER O W2 R M (jJ ps s) bad:=⟨(f.block R (by have:=d.out;omega) (by unfold One;exact E.out)).trans G.obj,⟨_,Tu,(zgn.del s).carry fun q c=>⟨c,f.block q (by have:=d.out;have:=(j.out q c).2.2;omega) (by unfold One;exact(j.out q c).2.1)⟩⟩,E.out,fun q c=>⟨(j.out q c).1,(j.out q c).2.1,by have:=d.out;have:=f.size;have:=(j.out q c).2.2;omega⟩⟩;have xi:=(f.block (w.heap.size+1) (by have:=d.out;omega) (by unfold One;omega)).trans HJX.out;obtain⟨x0,x1,x2,x3,x4⟩:=aj xi)
  | (go_at_call 79;refine(xn AZ k i t pk pl nk ck nl cl kd).mono ?_;rintro x W3 ⟨rfl,Z_,N⟩
     have ZX:=(N.block (w.heap.size+1) (by have:=d.out;have:=f.size;omega) (by unfold One;omega)).trans xi;obtain⟨y0,y1,y2,y3,y4⟩:=aj ZX;have Z:=(N.block w.heap.size (by have:=d.out;have:=f.size;omega) (by unfold One;omega)).trans ((f.block w.heap.size (by have:=d.out;omega) (by unfold One;omega)).trans V.out);obtain⟨i0,i1,i2,i3,i4⟩:=aj Z;obtain⟨z0,z1,z2,z3,z4⟩:=aN Z))
 have h5:=aK Z (.int .i64 k) (.int .i64 i) (.string t) (.slice pk nk ck) (.slice pl nl cl);have T:ag (One w.heap.size) W3 _:=aI W3 w.heap.size (.int .i64 k) (.int .i64 i) (.string t) (.slice pk nk ck) (.slice pl nl cl);unfold di at h5 T;obtain⟨k0,k1,k2,k3,k4⟩:=aj h5;refine bodyPost_ret (v:=.agg #[.int .i64 k,.int .i64 i,.string t,.slice pk nk ck,.slice pl nl cl]) (by simp[results,Tryz.results36,go_sem,k0,k1,k2,k3,k4]) rfl ?_;have eT:ag (fun q=>q=R\/ q=M\/ q=w.heap.size) (WA.alloc (.cells #[.int .i64 k,.int .i64 i,.string t,.slice pk nk ck,.slice pl nl cl] 25)) _:=((f.mono fun q _ e=>.inr (.inl e)).then (N.mono fun q _ e=>.inl e)).then (T.mono fun q _ e=>.inr (.inr e));refine⟨⟨k,i,t,pk,nk,ck,pl,nl,cl,rfl,U.out.carry fun q c=>⟨c,eT.block q (by have:=d.out;have:=(j.out q c).2.2;omega) fun e=> ?_⟩⟩, ?_, ?_⟩
 ·have:=j.out q c
  rcases e with e| e| e
  ·exact this.1 e
  ·exact this.2.1 e
  ·omega
 ·rw[HKK.out];exact Z_.bf T (by unfold One;omega) (by unfold One;omega) fun q c=>by unfold One;have:=(j.out q c).2.2;omega
 ·have Y:ag (dU R M) w (WA.alloc (.cells #[.int .i64 k,.int .i64 i,.string t,.slice pk nk ck,.slice pl nl cl] 25)):=ag.fJ HWW.out;refine Y.trans eT fun q c e=> ?_
  rcases e with e| e| e
  ·exact .inl e
  ·exact .inr e
  ·omega
theorem Oy(k i t pk pl:Value)(w:World):(Instr.field 25 (.agg #[k,i,t,pk,pl]) 2).run Tryz.prog w=.ok t w:=by kernel_rfl
theorem Tv(k i t pk pl:Value)(w:World):(Instr.field 25 (.agg #[k,i,t,pk,pl]) 1).run Tryz.prog w=.ok i w:=by kernel_rfl
theorem Oz(k i t pk pl:Value)(w:World):(Instr.field 25 (.agg #[k,i,t,pk,pl]) 4).run Tryz.prog w=.ok pl w:=by kernel_rfl
theorem dO{s:ByteArray}(h:s.size<=1000000000):vw s:=by unfold vw maxLen;omega
theorem eZ{O:Nat->Prop}{w:World}{R M:Nat}{ps:List (ByteArray×J)}{bad:Bool}(h:ER O w R M ps bad)(s:ByteArray)(m:vw s):
    Calls Tryz.prog 35 #[.pointer (some ⟨R,0,none⟩),.string s] w fun x w'=>x=.returned (.string (gz ps s).text)/\ER O w' R M (jJ ps s) (bad || decide ((gz ps s).kind≠3))/\ag (dU R M) w w':=by
 have d:=nC h s m 3;have u:=Oy;go_enter Tryz.func35,Tryz.ntmps35;go_wp2_with(go_at_call 36;refine d.mono ?_;rintro x z ⟨⟨k,i,t,pk,nk,ck,pl,nl,cl,rfl,c⟩,j,f⟩);go_ret;refine⟨?_,j,f⟩
 cases hg:gz ps s with
 | mk k' i' t' ks l=>
  rw[hg]at c;unfold isJ at c;obtain⟨_,_,_,_,e,_⟩:=c
  cases e
  rfl
theorem jh{O:Nat->Prop}{w:World}{R M:Nat}{ps:List (ByteArray×J)}{bad:Bool}(h:ER O w R M ps bad)(s:ByteArray)(m:vw s):
    Calls Tryz.prog 38 #[.pointer (some ⟨R,0,none⟩),.string s] w fun x w'=>x=.returned (.int .i64 (gz ps s).int)/\ER O w' R M (jJ ps s) (bad || decide ((gz ps s).kind≠2))/\ag (dU R M) w w':=by
 have d:=nC h s m 2;have u:=Tv;go_enter Tryz.func38,Tryz.ntmps38;go_wp2_with(go_at_call 36;refine d.mono ?_;rintro x z ⟨⟨k,i,t,pk,nk,ck,pl,nl,cl,rfl,c⟩,j,f⟩);go_ret;refine⟨?_,j,f⟩
 cases hg:gz ps s with
 | mk k' i' t' ks l=>
  rw[hg]at c;unfold isJ at c;obtain⟨_,_,_,_,e,_⟩:=c
  cases e
  rfl
theorem bC{O:Nat->Prop}{w:World}{j:J}{k i:Int}{t:ByteArray}{pk pl:Option Addr}{nk ck nl cl:Nat}(h:isJ O w j [.int .i64 k,.int .i64 i,.string t,.slice pk nk ck,.slice pl nl cl]):
    j.kind=k/\j.int=i/\j.text=t/\nk=j.keys.length/\nl=j.list.length/\j5 O w pk ck j.keys/\j.list.length<=cl/\isJs O w pl 0 j.list:=by
 cases j with
 | mk k' i' t' ks l=>
  unfold isJ at h;obtain⟨m,d,c,f,e,h1,h2,h3⟩:=h
  cases e
  exact⟨rfl,rfl,rfl,rfl,rfl,h1,h2,h3⟩
def b_(l:List J):Bool:=l.any fun j=>decide (j.kind≠3)
theorem uP(l:List J)(j:J):b_ (l++ [j])=(b_ l || decide (j.kind≠3)):=by
 unfold b_;rw[List.any_append];simp
theorem jV{O:Nat->Prop}{w:World}{R M:Nat}{ps:List (ByteArray×J)}{bad:Bool}(h:ER O w R M ps bad)(s:ByteArray)(hs:vw s)(hl:(gz ps s).list.length<=100000):
    Calls Tryz.prog 37 #[.pointer (some ⟨R,0,none⟩),.string s] w fun x w'=>(∃q c,x=.returned (.slice q (gz ps s).list.length c)/\j5 (gH w w') w' q c ((gz ps s).list.map J.text))/\ER O w' R M (jJ ps s) (bad || decide ((gz ps s).kind≠4) || b_ (gz ps s).list)/\ag (dU R M) w w':=by
 have Y:=nC h s hs 4;have hf:=Oz;have zhw:=h.lt;obtain⟨j,Z4⟩:∃j,gz ps s=j:=⟨_,rfl⟩;rw[Z4]at Y hl ⊢;clear Z4;obtain⟨b1,bK⟩:∃b,(bad || decide (j.kind≠4))=b:=⟨_,rfl⟩;rw[bK]at Y ⊢;clear bK;go_enter Tryz.func37,Tryz.ntmps37;go_wp2_with(go_at_call 36;refine Y.mono ?_;rintro x A ⟨⟨k,i,t,pk,nk,ck,pl,nl,cl,rfl,hj⟩,hE,kD⟩);have mo:=(bC hj).2.2.2.2.1;have Ed:=(bC hj).2.2.2.2.2.2.1;have mf:=(bC hj).2.2.2.2.2.2.2;have nH:Hid (nl=j.list.length):=mo;rw[<-mo]at hl Ed;have bQ:=hE.lt;clear Y hj hf h mo
 go_loopw [5,13] (fun vr v wr=>∃m:Nat,v=.int .i64 m/\m<=nl/\ER O wr R M (jJ ps s) (b1 || b_ (j.list.take m))/\wr.ownsRow A.heap.size 9 1 vr m (((j.list.take m).map J.text).map Value.string)/\ag (One R) A wr) (fun _ v _=>nl - (intOf v).toNat)
 case atStart=>exact⟨0,rfl,Nat.zero_le _,by rw[List.take_zero];simpa [b_]using hE,World.ownsRow_nil _ _ _ _,ag.refl _ _⟩
 case round=>
  obtain⟨m,rfl,hm,kF,d,Z⟩:=hrel;have fI:=Z.size;obtain⟨qv,cv,hvr⟩:=fe d;subst hvr
  by_cases lG:m<nl
  ·have oH:(m:Int)<(nl:Int):=by omega
   have X:m<j.list.length:=by rw[<-nH.out];exact lG
   obtain⟨z,lo,cs,rO,uq,bL,U⟩:=isJs.at j.list 0 m mf X;subst rO;obtain⟨u,G,f,K,N,c3,H,I,c4,rfl⟩:=dD U;have rW:=hE.low z uq;have gT:wr.heap[z]?=A.heap[z]?:=Z.block z rW.2.2 rW.1;have F:∀n v, [Value.int .i64 u,.int .i64 G,.string f,.slice K N c3,.slice H I c4][n]?=some v->wr.cell? ⟨z,lo+m*5+n,none⟩=some v:=fun n v h=>by
    have:=bL n v h;rw[Nat.zero_add]at this;exact(World.cell?_of_block (a:=⟨z,lo+m*5+n,none⟩) gT).trans this
   have y0:wr.cell? ⟨z,lo+m*5,none⟩=some (.int .i64 u):=F 0 _ rfl;have y1:=F 1 _ rfl;have y2:=F 2 _ rfl;have y3:=F 3 _ rfl;have y4:=F 4 _ rfl;have e0:=(bC U).1;have e2:=(bC U).2.2.1;have YU:j.list.take (m+1)=j.list.take m++ [j.list.getD m J.zero]:=by
    rw[List.take_add_one,List.getElem?_eq_getElem X,List.getD_eq_getElem?_getD,List.getElem?_eq_getElem X];rfl
   have HB:Hid ((b1 || b_ (j.list.take (m+1)))=(b1 || b_ (j.list.take m) || decide (u≠3))):=by show _=_;rw[YU,uP,e0,Bool.or_assoc]
   have HR:Hid (((j.list.take (m+1)).map J.text).map Value.string=((j.list.take m).map J.text).map Value.string++ [.string f]):=by show _=_;rw[YU,List.map_append,List.map_append,List.map_cons,List.map_nil,List.map_cons,List.map_nil,e2]
   obtain⟨WJ,De⟩:∃r,((j.list.take m).map J.text).map Value.string=r:=⟨_,rfl⟩;obtain⟨bd,oV⟩:∃b,(b1 || b_ (j.list.take m))=b:=⟨_,rfl⟩;rw[De]at d HR;rw[oV]at kF HB;clear F bL U YU De oV e0 e2 X;have dM:Below wr.heap.size wr (wr.alloc (.cells #[.int .i64 u,.int .i64 G,.string f,.slice K N c3,.slice H I c4] 25)):=(Below.refl _ _).alloc (Nat.le_refl _) _;have Am:=kF.below dM;have hX:=xn Am u G f K H N c3 I c4 3;have T:=aJ d;have vV:=heap_alloc_new wr (.cells #[.int .i64 u,.int .i64 G,.string f,.slice K N c3,.slice H I c4] 25);go_wp2_with(first
    | (go_at_call 79;refine hX.mono ?_;rintro x W2 ⟨rfl,AZ,V⟩
       have xi:=(V.block wr.heap.size (by simp) (by unfold One;omega)).trans vV;have z2:=nS xi;have WL:=(aX (d.alloc (.cells #[.int .i64 u,.int .i64 G,.string f,.slice K N c3,.slice H I c4] 25)) V fun q e=>by have:=(T q e).1;unfold One;omega).alloc (.cells #[.string f] 9))
    | (at_builtin;refine nA rfl _ _ 22 rfl A.heap.size 9 (.string ⟨#[]⟩) 1 16 Tryz.underlying22 Tryz.jM rfl (by decide) (by decide) _ m WJ rfl WL _ [.string f] rfl rfl (Bv (by simp)) (yh f) (by omega) (by have:=V.size;simp at this ⊢;omega) ?_
       intro vr2 W4 Tw lZ ib))
   have zhx:=aJ Tw;have hkk:ag (One R) A W4:=by
    have k1:ag (One R) A (W2.alloc (.cells #[.string f] 9)):=((Z.alloc _).then V).alloc _;exact k1.trans (S':=fun q=>(Value.slice qv m cv).ownBlock=some q) (ag.dt lZ fun _ _ e=>e) fun q E e=>by have:=(T q e).1;omega
   have WM:ER O W4 R M (jJ ps s) (bd || decide (u≠3)):=(AZ.below ((Below.refl _ _).alloc (Nat.le_refl _) (.cells #[.string f] 9))).bf (S:=fun q=>(Value.slice qv m cv).ownBlock=some q) (ag.dt lZ fun _ _ e=>e) (fun e=>by have:=(T _ e).1;omega) (fun e=>by have:=(T _ e).1;omega) fun q E e=>by have:=(T q e).1;have:=(hE.low q E).2.2;omega
   go_roundw
   case rel=>exact⟨m+1,by go_num,lG,by rw[HB.out];exact WM,by rw[HR.out];exact Tw,hkk⟩
   case measure=>simp[intOf];omega
  ·obtain rfl:m=nl:=by omega
   have xW:j.list.take m=j.list:=List.take_of_length_le (by rw[nH.out];omega);rw[xW]at kF d;have HOW:Hid (wr.ownsRow A.heap.size 9 1 (.slice qv m cv) m ((j.list.map J.text).map Value.string)):=d;clear d;go_wp2;go_ret;have cB:(j.list.map J.text).length=m:=by rw[List.length_map,<-nH.out]
   obtain⟨q',c',e',ll⟩:=nT (S:=j.list.map J.text) (by rw[cB];exact HOW.out);rw[cB]at e'
   cases e'
   have YL:=kD.size;refine⟨⟨_,_,by rw[<-nH.out];rfl,ll.carry fun q E=>⟨⟨by have:=E.1;omega,E.2⟩,rfl⟩⟩,kF,kD.trans Z fun q E e=>.inl e⟩
theorem Tryz.QA:(Tryz.prog.info? 53).map (fun i=>(i.zero,i.size,i.bytes))=some (some (.agg #[.string ⟨#[]⟩,.string ⟨#[]⟩]),2,32):=by kernel_rfl
theorem zaa{w:World}{b t:Nat}{y0 y1:Value}(h:w.heap.size=b):∀j u, [y0,y1][j]?=some u->(w.alloc (.cells #[y0,y1] t)).cell? ((⟨b,0,none⟩:Addr).add j)=some u:=by
 subst h;intro j u c;have e:(⟨w.heap.size,0,none⟩:Addr).add j=⟨w.heap.size,j,none⟩:=by unfold Addr.add;split<;>simp_all
 rw[e];exact aQ (cur:= [_,_]) (heap_alloc_new _ _) j u c
theorem QB(a b:ByteArray):∀u∈ [Value.string a,.string b],u.oneCell'=true:=by
 intro u c;simp at c
 rcases c with rfl| rfl<;>rfl
def gB(l:List (ByteArray×ByteArray)):List Value:=l.flatMap fun s=> [.string s.1,.string s.2]
theorem Ar:∀(l:List (ByteArray×ByteArray)) (j:Nat),j<l.length->(gB l)[j*2]?=some (.string (l.getD j (aH,aH)).1)/\(gB l)[j*2+1]?=some (.string (l.getD j (aH,aH)).2)
 | [],j,h=>absurd h (by simp)
 | a::r,0,_=>by simp[gB]
 | a::r,j+1,h=>by
  have c:=Ar r j (by simpa using h);unfold gB at c ⊢;rw[List.flatMap_cons]
  constructor
  ·rw[List.getElem?_append_right (by simp;omega)];simp only[List.length_cons,List.length_nil];rw[show(j+1)*2 - (0+1+1)=j*2 by omega];simpa using c.1
  ·rw[List.getElem?_append_right (by simp;omega)];simp only[List.length_cons,List.length_nil];rw[show(j+1)*2+1 - (0+1+1)=j*2+1 by omega];simpa using c.2
theorem QC{w:World}{B:Nat}{v:Value}{l:List (ByteArray×ByteArray)}(h:w.ownsRow B 53 2 v l.length (gB l)):∃q c,v=.slice q l.length c/\FK (fun k=>B<=k/\k<w.heap.size) w q c l:=by
 rcases h.2 with⟨rfl,u⟩| ⟨g,cap,cur,rfl,d,f,h1,h2,h3,h4⟩
 ·obtain rfl:l= []:=List.eq_nil_of_length_eq_zero u;exact⟨none,0,rfl,FK.nil _ _ _ _⟩
 ·refine⟨_,cap,rfl,h1,fun j m=>⟨g,0,rfl,⟨d,(Array.getElem?_eq_some_iff.1 f).1⟩, ?_⟩⟩;have e:=Ar l j m;rw[Nat.zero_add];exact⟨(h.cellAt (j*2) (by omega)).trans e.1,(h.cellAt (j*2+1) (by omega)).trans e.2⟩
def aT(j:J):List (ByteArray×ByteArray):=j.keys.zip (j.list.map J.text)
theorem Df{j:J}(h:j.keys.length<=j.list.length):(aT j).length=j.keys.length:=by
 unfold aT;rw[List.length_zip,List.length_map];omega
theorem QD{j:J}{m:Nat}(h:j.keys.length<=j.list.length)(c:m<j.keys.length):(aT j).take (m+1)=(aT j).take m++ [(j.keys.getD m aH,(j.list.getD m J.zero).text)]:=by
 have:(aT j)[m]?=some (j.keys.getD m aH,(j.list.getD m J.zero).text):=by
  unfold aT;rw[List.zip_eq_zipWith,List.getElem?_zipWith,List.getElem?_map,List.getElem?_eq_getElem c,List.getElem?_eq_getElem (by omega:m<j.list.length),List.getD_eq_getElem?_getD,List.getElem?_eq_getElem c,List.getD_eq_getElem?_getD,List.getElem?_eq_getElem (by omega:m<j.list.length)]
  rfl
 rw[List.take_add_one,this]
 rfl
theorem wP(l:List (ByteArray×ByteArray))(a b:ByteArray):gB (l++ [(a,b)])=gB l++ [.string a,.string b]:=by
 unfold gB;rw[List.flatMap_append]
 rfl
theorem vK{O:Nat->Prop}{w:World}{R M:Nat}{ps:List (ByteArray×J)}{bad:Bool}(h:ER O w R M ps bad)(s:ByteArray)(hs:vw s)(hl:(gz ps s).list.length<=100000)(gZ:(gz ps s).keys.length<=(gz ps s).list.length):
    Calls Tryz.prog 39 #[.pointer (some ⟨R,0,none⟩),.string s] w fun x w'=>(∃q c,x=.returned (.slice q (aT (gz ps s)).length c)/\FK (gH w w') w' q c (aT (gz ps s)))/\ER O w' R M (jJ ps s) (bad || decide ((gz ps s).kind≠5) || b_ ((gz ps s).list.take (gz ps s).keys.length))/\ag (dU R M) w w':=by
 have hT:=nC h s hs 5;obtain⟨j,Z4⟩:∃j,gz ps s=j:=⟨_,rfl⟩;rw[Z4]at hT hl gZ ⊢;clear Z4;obtain⟨b1,bK⟩:∃b,(bad || decide (j.kind≠5))=b:=⟨_,rfl⟩;rw[bK]at hT ⊢;clear bK h;have Ec:Hid (j.keys.length<=j.list.length):=gZ;have Z:Hid ((aT j).length=j.keys.length):=Df gZ;obtain⟨nk,zd7⟩:∃n,j.keys.length=n:=⟨_,rfl⟩;have E:Hid (j.keys.length=nk):=zd7;clear zd7;go_enter Tryz.func39,Tryz.ntmps39;go_wp2_with(go_at_call 36;refine hT.mono ?_;rintro x A ⟨⟨k,i,t,pk,nk',ck,pl,nl,cl,rfl,K⟩,H,kD⟩;have G:=(bC K).2.2.2.1;have mo:=(bC K).2.2.2.2.1;have ll:=(bC K).2.2.2.2.2.1;have Ed:=(bC K).2.2.2.2.2.2.1;have mf:=(bC K).2.2.2.2.2.2.2;rw[E.out]at G;have zgo:=G.symm;clear G;subst zgo;have nH:Hid (nl=j.list.length):=mo;(have YV:nl<=100000:=by omega);(have IE:nk<=nl:=by have:=Ec.out;have:=E.out;omega);(have zgp:nl<=cl:=by omega);(have zhy:nk<=ck:=by have:=ll.1;have:=E.out;omega);clear mo Ed K);have bQ:=H.lt;obtain⟨WA,wm⟩:∃WA,WA=A.alloc (.cells #[.int .i64 k,.int .i64 i,.string t,.slice pk nk ck,.slice pl nl cl] 25):=⟨_,rfl⟩;have dM:Below A.heap.size A WA:=by rw[wm];exact(Below.refl _ _).alloc (Nat.le_refl _) _
 have UU:WA.heap[A.heap.size]?=some (.cells #[.int .i64 k,.int .i64 i,.string t,.slice pk nk ck,.slice pl nl cl] 25 (0,0)):=by rw[wm];exact heap_alloc_new _ _
 have FM:WA.heap.size=A.heap.size+1:=by rw[wm];simp
 rw[<-wm];have Am:=H.below dM;clear hT wm hl gZ
 go_loopw [5,16] (fun vr v wr=>∃m:Nat,v=.int .i64 m/\m<=nk/\ER O wr R M (jJ ps s) (b1 || b_ (j.list.take m))/\wr.ownsRow (A.heap.size+1) 53 2 vr m (gB ((aT j).take m))/\ag (One R) WA wr) (fun _ v _=>nk - (intOf v).toNat)
 case atStart=>exact⟨0,rfl,Nat.zero_le _,by rw[List.take_zero];simpa [b_]using Am,World.ownsRow_nil _ _ _ _,ag.refl _ _⟩
 case round=>
  obtain⟨m,rfl,hm,kF,d,Y⟩:=hrel;have fI:=Y.size;obtain⟨qv,cv,hvr⟩:=fe d;subst hvr;have gV:=(Y.block A.heap.size (by omega) (by unfold One;omega)).trans UU
  by_cases lG:m<nk
  ·have oH:(m:Int)<(nk:Int):=by omega
   have Tx:(m:Int)<(nl:Int):=by omega
   have gX:m<j.list.length:=by rw[<-nH.out];omega
   obtain⟨ka,Ct,WN,Bj⟩:=ll.2 m (by rw[E.out];exact lG);subst Ct;have jW:∀q,O q->wr.heap[q]?=A.heap[q]?:=fun q z=>(Y.block q (by have:=(H.low q z).2.2;omega) (H.low q z).1).trans (dM.block q (H.low q z).2.2);have JC:wr.cell? (ka.add m)=some (.string (j.keys.getD m aH)):=(World.cell?_of_block (by rw[bu];exact jW _ WN)).trans Bj;obtain⟨U,lo,cs,rO,uq,bL,iV⟩:=isJs.at j.list 0 m mf gX;subst rO;obtain⟨F,N,f,X,n3,c3,T,V,c4,rfl⟩:=dD iV;have rW:=H.low U uq;have gT:=jW U uq;have I:∀n v, [Value.int .i64 F,.int .i64 N,.string f,.slice X n3 c3,.slice T V c4][n]?=some v->wr.cell? ⟨U,lo+m*5+n,none⟩=some v:=fun n v h=>by
    have:=bL n v h;rw[Nat.zero_add]at this;exact(World.cell?_of_block (a:=⟨U,lo+m*5+n,none⟩) gT).trans this
   have y0:wr.cell? ⟨U,lo+m*5,none⟩=some (.int .i64 F):=I 0 _ rfl;have y1:=I 1 _ rfl;have y2:=I 2 _ rfl;have y3:=I 3 _ rfl;have y4:=I 4 _ rfl;have e0:=(bC iV).1;have e2:=(bC iV).2.2.1;have YU:j.list.take (m+1)=j.list.take m++ [j.list.getD m J.zero]:=by
    rw[List.take_add_one,List.getElem?_eq_getElem gX,List.getD_eq_getElem?_getD,List.getElem?_eq_getElem gX];rfl
   have HB:Hid ((b1 || b_ (j.list.take (m+1)))=(b1 || b_ (j.list.take m) || decide (F≠3))):=by show _=_;rw[YU,uP,e0,Bool.or_assoc]
   obtain⟨u,hu⟩:∃u,j.keys.getD m aH=u:=⟨_,rfl⟩;have HR:Hid (gB ((aT j).take (m+1))=gB ((aT j).take m)++ [.string u,.string f]):=by show _=_;rw[QD Ec.out (by rw[E.out];exact lG),wP,e2,hu]
   rw[hu]at JC;obtain⟨WJ,De⟩:∃r,gB ((aT j).take m)=r:=⟨_,rfl⟩;obtain⟨bd,oV⟩:∃b,(b1 || b_ (j.list.take m))=b:=⟨_,rfl⟩;rw[De]at d HR;rw[oV]at kF HB;clear I bL iV YU De oV e0 e2 gX hu Bj jW;have b3:=fV gV;have b4:=aZ gV;have uj:Below wr.heap.size wr (wr.alloc (.cells #[.int .i64 F,.int .i64 N,.string f,.slice X n3 c3,.slice T V c4] 25)):=(Below.refl _ _).alloc (Nat.le_refl _) _;have hEB:=kF.below uj;have hX:=xn hEB F N f X T n3 c3 V c4 3;have wW:=aJ d;have vV:=heap_alloc_new wr (.cells #[.int .i64 F,.int .i64 N,.string f,.slice X n3 c3,.slice T V c4] 25);go_wp2_with(first
    | (go_at_call 79;refine hX.mono ?_;rintro x W2 ⟨rfl,AZ,jk⟩
       have xi:=(jk.block wr.heap.size (by simp) (by unfold One;omega)).trans vV;have z2:=nS xi;have WL:=(aX (d.alloc (.cells #[.int .i64 F,.int .i64 N,.string f,.slice X n3 c3,.slice T V c4] 25)) jk fun q e=>by have:=(wW q e).1;unfold One;omega).alloc (.cells #[.string u,.string f] 53))
    | (at_builtin;refine nA rfl _ _ 27 rfl (A.heap.size+1) 53 (.agg #[.string ⟨#[]⟩,.string ⟨#[]⟩]) 2 32 Tryz.underlying27 Tryz.QA rfl (by decide) (by decide) _ m WJ rfl WL _ [.string u,.string f] rfl rfl (zaa (by simp)) (QB u f) (by omega) (by have:=jk.size;simp at this ⊢;omega) ?_
       intro vr2 W4 Tw lZ ib))
   have hkk:ag (One R) WA W4:=by
    have k1:ag (One R) WA (W2.alloc (.cells #[.string u,.string f] 53)):=((Y.alloc _).then jk).alloc _;exact k1.trans (S':=fun q=>(Value.slice qv m cv).ownBlock=some q) (ag.dt lZ fun _ _ e=>e) fun q z e=>by have:=(wW q e).1;omega
   have WM:ER O W4 R M (jJ ps s) (bd || decide (F≠3)):=(AZ.below ((Below.refl _ _).alloc (Nat.le_refl _) (.cells #[.string u,.string f] 53))).bf (S:=fun q=>(Value.slice qv m cv).ownBlock=some q) (ag.dt lZ fun _ _ e=>e) (fun e=>by have:=(wW _ e).1;omega) (fun e=>by have:=(wW _ e).1;omega) fun q z e=>by have:=(wW q e).1;have:=(H.low q z).2.2;omega
   go_roundw
   case rel=>exact⟨m+1,by go_num,lG,by rw[HB.out];exact WM,by rw[HR.out];exact Tw,hkk⟩
   case measure=>simp[intOf];omega
  ·obtain rfl:m=nk:=by omega
   have xW:(aT j).take m=aT j:=List.take_of_length_le (by rw[Z.out,E.out];omega);rw[xW]at d;have HOW:Hid (wr.ownsRow (A.heap.size+1) 53 2 (.slice qv m cv) m (gB (aT j))):=d;have HBB:Hid (ER O wr R M (jJ ps s) (b1 || b_ (j.list.take j.keys.length))):=by rw[E.out];exact kF
   clear d xW;go_wp2;go_ret;have cB:(aT j).length=m:=by rw[Z.out,E.out]
   obtain⟨q',c',e',pX⟩:=QC (l:=aT j) (by rw[cB];exact HOW.out);rw[cB]at e'
   cases e'
   have YL:=kD.size;refine⟨⟨_,_,by rw[cB];rfl,pX.carry fun q z=>⟨⟨by have:=z.1;omega,z.2⟩,rfl⟩⟩,HBB.out,kD.trans ((ag.fJ dM).then Y) fun q z e=>.inl e⟩
def mg(j:J):List (ByteArray×J):=j.keys.zip j.list
def qa(j:J):J:=gz (mg j) eu
def FY(j:J):List (ByteArray×J):=jJ (mg j) eu
def qm(j:J):J:=gz (FY j) fE
def H_(j:J):List (ByteArray×J):=jJ (FY j) fE
def qo(j:J):J:=gz (H_ j) bN
def IU(j:J):List (ByteArray×J):=jJ (H_ j) bN
def rG3(j:J):J:=gz (IU j) aS
def Kz(j:J):List (ByteArray×J):=jJ (IU j) aS
def nU(j:J):J:=gz (Kz j) dL
def Mg(j:J):List (ByteArray×J):=jJ (Kz j) dL
def nV(j:J):J:=gz (Mg j) dG
def OA(j:J):List (ByteArray×J):=jJ (Mg j) dG
def qp(j:J):J:=gz (OA j) dw
def QE(j:J):List (ByteArray×J):=jJ (OA j) dw
def qw(j:J):J:=gz (QE j) qQ
def Ty(j:J):List (ByteArray×J):=jJ (QE j) qQ
def qx(j:J):J:=gz (Ty j) ed
def UF(j:J):List (ByteArray×J):=jJ (Ty j) ed
def nI(j:J):J:=gz (UF j) dV
def ym(j:J):List (ByteArray×J):=jJ (UF j) dV
def nO(j:J):J:=gz (ym j) kK
def OB(j:J):List (ByteArray×J):=jJ (ym j) kK
def rB0(_:J):Bool:=false
def QF(j:J):Bool:=(rB0 j || decide ((qa j).kind≠3))
def Tz(j:J):Bool:=(QF j || decide ((qm j).kind≠3))
def TA(j:J):Bool:=(Tz j || decide ((qo j).kind≠3))
def TB(j:J):Bool:=(TA j || decide ((rG3 j).kind≠5))
def TC(j:J):Bool:=(TB j || decide ((nU j).kind≠4) || b_ (nU j).list)
def TD(j:J):Bool:=(TC j || decide ((nV j).kind≠4) || b_ (nV j).list)
def TE(j:J):Bool:=(TD j || decide ((qp j).kind≠2))
def TF(j:J):Bool:=(TE j || decide ((qw j).kind≠2))
def TG(j:J):Bool:=(TF j || decide ((qx j).kind≠3))
def t_(j:J):Bool:=(TG j || decide ((nI j).kind≠5) || b_ ((nI j).list.take (nI j).keys.length))
def EO(j:J):Bool:=(t_ j || decide ((nO j).kind≠3))
def BC(j:J):Bool:=(lookJ (mg j) kK).isSome
def bM(j:J):Ev:=⟨(qa j).text,(qm j).text,(qo j).text,BC j,if BC j=true then(nO j).text else aH,rG3 j,(nU j).list.map J.text,(nV j).list.map J.text,(qp j).int,(qw j).int,(qx j).text,aT (nI j)⟩
def fO(j:J):Bool:=if BC j=true then !EO j&&decide ((OB j).length=0)else !t_ j&&decide ((ym j).length=0)
def zl(j:J):Prop:=j.list.length<=100000/\j.keys.length<=j.list.length
theorem TH:zl J.zero:=⟨by decide,by decide⟩
theorem BD{ps:List (ByteArray×J)}{s:ByteArray}{j:J}(h:lookJ ps s=some j):j∈ps.map (·.2):=by
 induction ps with
 | nil=>cases h
 | cons p r ih=>
  unfold lookJ at h
  split at h
  ·cases h;simp
  ·rw[List.map_cons];exact List.mem_cons_of_mem _ (ih h)
theorem gP{ps:List (ByteArray×J)}(h:∀x∈ps.map (·.2),zl x)(s:ByteArray):zl (gz ps s):=by
 unfold gz
 cases e:lookJ ps s with
 | none=>exact TH
 | some j=>exact h j (BD e)
theorem KA(ps:List (ByteArray×J))(k:ByteArray):(jJ ps k).Sublist ps:=by
 induction ps with
 | nil=>exact List.Sublist.refl _
 | cons p r ih=>
  unfold jJ
  split
  ·exact ih.cons p
  ·exact ih.cons_cons p
theorem bP{ps:List (ByteArray×J)}(h:∀x∈ps.map (·.2),zl x)(s:ByteArray):∀x∈(jJ ps s).map (·.2),zl x:=fun x c=>h x (((KA ps s).map _).subset c)
theorem yn{j:J}(h:∀x∈j.list,zl x):∀x∈(mg j).map (·.2),zl x:=fun x c=>by
 obtain⟨p,d,rfl⟩:=List.mem_map.1 c;exact h _ (List.of_mem_zip d).2
theorem yo{j:J}{m:Nat}(h:j.keys.length<=j.list.length)(c:m<j.keys.length):(mg j).take (m+1)=(mg j).take m++ [(j.keys.getD m aH,j.list.getD m J.zero)]:=by
 have:(mg j)[m]?=some (j.keys.getD m aH,j.list.getD m J.zero):=by
  unfold mg;rw[List.zip_eq_zipWith,List.getElem?_zipWith,List.getElem?_eq_getElem c,List.getElem?_eq_getElem (by omega:m<j.list.length),List.getD_eq_getElem?_getD,List.getElem?_eq_getElem c,List.getD_eq_getElem?_getD,List.getElem?_eq_getElem (by omega:m<j.list.length)]
  rfl
 rw[List.take_add_one,this]
 rfl
theorem WO{j:J}(h:j.keys.length<=j.list.length):(mg j).map (·.1)=j.keys:=by
 unfold mg;rw[List.map_fst_zip h]
theorem BF{j:J}{m:Nat}(h:j.keys.length<=j.list.length)(k:j.keys.Pairwise (· ≠ ·))(c:m<j.keys.length):j.keys.getD m aH∉((mg j).take m).map (·.1):=by
 rw[List.map_take,WO h,List.getD_eq_getElem?_getD,List.getElem?_eq_getElem c];intro d;obtain⟨q,f,e⟩:=List.getElem_of_mem d;rw[List.length_take]at f;rw[List.getElem_take]at e;exact List.pairwise_iff_getElem.1 k q m (by omega) c (by omega) e
open Go.RowKit
def mq(w:World)(b:Nat)(v0 v1 v2 v3 v4 v5 v6 v7 v8 v9 qh Mr v12 UG YW v15:Value):World:=(((((((((((((((w.setCell ⟨b,0,none⟩ v0).setCell ⟨b,1,none⟩ v1).setCell ⟨b,2,none⟩ v2).setCell ⟨b,3,none⟩ v3).setCell ⟨b,4,none⟩ v4).setCell ⟨b,5,none⟩ v5).setCell ⟨b,6,none⟩ v6).setCell ⟨b,7,none⟩ v7).setCell ⟨b,8,none⟩ v8).setCell ⟨b,9,none⟩ v9).setCell ⟨b,10,none⟩ qh).setCell ⟨b,11,none⟩ Mr).setCell ⟨b,12,none⟩ v12).setCell ⟨b,13,none⟩ UG).setCell ⟨b,14,none⟩ YW).setCell ⟨b,15,none⟩ v15
theorem jX{w:World}{b:Nat}{t:TypeId}{a0 a1 a2 a3 a4 a5 I G F a9 A z a12 u k j:Value}(h:w.heap[b]?=some (.cells #[a0,a1,a2,a3,a4,a5,I,G,F,a9,A,z,a12,u,k,j] t (0,0)))(v0 v1 v2 v3 v4 v5 c d f v9 m x v12 H K E:Value):(mq w b v0 v1 v2 v3 v4 v5 c d f v9 m x v12 H K E).heap[b]?=some (.cells #[v0,v1,v2,v3,v4,v5,c,d,f,v9,m,x,v12,H,K,E] t (0,0)):=by
 have h0:(w.setCell ⟨b,0,none⟩ v0).heap[b]?=some (.cells #[v0,a1,a2,a3,a4,a5,I,G,F,a9,A,z,a12,u,k,j] t (0,0)):=by rw[heap_setCell_same _ b 0 _ _ _ h];rfl
 have h1:((w.setCell ⟨b,0,none⟩ v0).setCell ⟨b,1,none⟩ v1).heap[b]?=some (.cells #[v0,v1,a2,a3,a4,a5,I,G,F,a9,A,z,a12,u,k,j] t (0,0)):=by rw[heap_setCell_same _ b 1 _ _ _ h0];rfl
 have h2:(((w.setCell ⟨b,0,none⟩ v0).setCell ⟨b,1,none⟩ v1).setCell ⟨b,2,none⟩ v2).heap[b]?=some (.cells #[v0,v1,v2,a3,a4,a5,I,G,F,a9,A,z,a12,u,k,j] t (0,0)):=by rw[heap_setCell_same _ b 2 _ _ _ h1];rfl
 have h3:((((w.setCell ⟨b,0,none⟩ v0).setCell ⟨b,1,none⟩ v1).setCell ⟨b,2,none⟩ v2).setCell ⟨b,3,none⟩ v3).heap[b]?=some (.cells #[v0,v1,v2,v3,a4,a5,I,G,F,a9,A,z,a12,u,k,j] t (0,0)):=by rw[heap_setCell_same _ b 3 _ _ _ h2];rfl
 have h4:(((((w.setCell ⟨b,0,none⟩ v0).setCell ⟨b,1,none⟩ v1).setCell ⟨b,2,none⟩ v2).setCell ⟨b,3,none⟩ v3).setCell ⟨b,4,none⟩ v4).heap[b]?=some (.cells #[v0,v1,v2,v3,v4,a5,I,G,F,a9,A,z,a12,u,k,j] t (0,0)):=by rw[heap_setCell_same _ b 4 _ _ _ h3];rfl
 have h5:((((((w.setCell ⟨b,0,none⟩ v0).setCell ⟨b,1,none⟩ v1).setCell ⟨b,2,none⟩ v2).setCell ⟨b,3,none⟩ v3).setCell ⟨b,4,none⟩ v4).setCell ⟨b,5,none⟩ v5).heap[b]?=some (.cells #[v0,v1,v2,v3,v4,v5,I,G,F,a9,A,z,a12,u,k,j] t (0,0)):=by rw[heap_setCell_same _ b 5 _ _ _ h4];rfl
 have h6:(((((((w.setCell ⟨b,0,none⟩ v0).setCell ⟨b,1,none⟩ v1).setCell ⟨b,2,none⟩ v2).setCell ⟨b,3,none⟩ v3).setCell ⟨b,4,none⟩ v4).setCell ⟨b,5,none⟩ v5).setCell ⟨b,6,none⟩ c).heap[b]?=some (.cells #[v0,v1,v2,v3,v4,v5,c,G,F,a9,A,z,a12,u,k,j] t (0,0)):=by rw[heap_setCell_same _ b 6 _ _ _ h5];rfl
 have h7:((((((((w.setCell ⟨b,0,none⟩ v0).setCell ⟨b,1,none⟩ v1).setCell ⟨b,2,none⟩ v2).setCell ⟨b,3,none⟩ v3).setCell ⟨b,4,none⟩ v4).setCell ⟨b,5,none⟩ v5).setCell ⟨b,6,none⟩ c).setCell ⟨b,7,none⟩ d).heap[b]?=some (.cells #[v0,v1,v2,v3,v4,v5,c,d,F,a9,A,z,a12,u,k,j] t (0,0)):=by rw[heap_setCell_same _ b 7 _ _ _ h6];rfl
 have h8:(((((((((w.setCell ⟨b,0,none⟩ v0).setCell ⟨b,1,none⟩ v1).setCell ⟨b,2,none⟩ v2).setCell ⟨b,3,none⟩ v3).setCell ⟨b,4,none⟩ v4).setCell ⟨b,5,none⟩ v5).setCell ⟨b,6,none⟩ c).setCell ⟨b,7,none⟩ d).setCell ⟨b,8,none⟩ f).heap[b]?=some (.cells #[v0,v1,v2,v3,v4,v5,c,d,f,a9,A,z,a12,u,k,j] t (0,0)):=by rw[heap_setCell_same _ b 8 _ _ _ h7];rfl
 have V:((((((((((w.setCell ⟨b,0,none⟩ v0).setCell ⟨b,1,none⟩ v1).setCell ⟨b,2,none⟩ v2).setCell ⟨b,3,none⟩ v3).setCell ⟨b,4,none⟩ v4).setCell ⟨b,5,none⟩ v5).setCell ⟨b,6,none⟩ c).setCell ⟨b,7,none⟩ d).setCell ⟨b,8,none⟩ f).setCell ⟨b,9,none⟩ v9).heap[b]?=some (.cells #[v0,v1,v2,v3,v4,v5,c,d,f,v9,A,z,a12,u,k,j] t (0,0)):=by rw[heap_setCell_same _ b 9 _ _ _ h8];rfl
 have N:(((((((((((w.setCell ⟨b,0,none⟩ v0).setCell ⟨b,1,none⟩ v1).setCell ⟨b,2,none⟩ v2).setCell ⟨b,3,none⟩ v3).setCell ⟨b,4,none⟩ v4).setCell ⟨b,5,none⟩ v5).setCell ⟨b,6,none⟩ c).setCell ⟨b,7,none⟩ d).setCell ⟨b,8,none⟩ f).setCell ⟨b,9,none⟩ v9).setCell ⟨b,10,none⟩ m).heap[b]?=some (.cells #[v0,v1,v2,v3,v4,v5,c,d,f,v9,m,z,a12,u,k,j] t (0,0)):=by rw[heap_setCell_same _ b 10 _ _ _ V];rfl
 have T:((((((((((((w.setCell ⟨b,0,none⟩ v0).setCell ⟨b,1,none⟩ v1).setCell ⟨b,2,none⟩ v2).setCell ⟨b,3,none⟩ v3).setCell ⟨b,4,none⟩ v4).setCell ⟨b,5,none⟩ v5).setCell ⟨b,6,none⟩ c).setCell ⟨b,7,none⟩ d).setCell ⟨b,8,none⟩ f).setCell ⟨b,9,none⟩ v9).setCell ⟨b,10,none⟩ m).setCell ⟨b,11,none⟩ x).heap[b]?=some (.cells #[v0,v1,v2,v3,v4,v5,c,d,f,v9,m,x,a12,u,k,j] t (0,0)):=by rw[heap_setCell_same _ b 11 _ _ _ N];rfl
 have U:(((((((((((((w.setCell ⟨b,0,none⟩ v0).setCell ⟨b,1,none⟩ v1).setCell ⟨b,2,none⟩ v2).setCell ⟨b,3,none⟩ v3).setCell ⟨b,4,none⟩ v4).setCell ⟨b,5,none⟩ v5).setCell ⟨b,6,none⟩ c).setCell ⟨b,7,none⟩ d).setCell ⟨b,8,none⟩ f).setCell ⟨b,9,none⟩ v9).setCell ⟨b,10,none⟩ m).setCell ⟨b,11,none⟩ x).setCell ⟨b,12,none⟩ v12).heap[b]?=some (.cells #[v0,v1,v2,v3,v4,v5,c,d,f,v9,m,x,v12,u,k,j] t (0,0)):=by rw[heap_setCell_same _ b 12 _ _ _ T];rfl
 have Y:((((((((((((((w.setCell ⟨b,0,none⟩ v0).setCell ⟨b,1,none⟩ v1).setCell ⟨b,2,none⟩ v2).setCell ⟨b,3,none⟩ v3).setCell ⟨b,4,none⟩ v4).setCell ⟨b,5,none⟩ v5).setCell ⟨b,6,none⟩ c).setCell ⟨b,7,none⟩ d).setCell ⟨b,8,none⟩ f).setCell ⟨b,9,none⟩ v9).setCell ⟨b,10,none⟩ m).setCell ⟨b,11,none⟩ x).setCell ⟨b,12,none⟩ v12).setCell ⟨b,13,none⟩ H).heap[b]?=some (.cells #[v0,v1,v2,v3,v4,v5,c,d,f,v9,m,x,v12,H,k,j] t (0,0)):=by rw[heap_setCell_same _ b 13 _ _ _ U];rfl
 have X:(((((((((((((((w.setCell ⟨b,0,none⟩ v0).setCell ⟨b,1,none⟩ v1).setCell ⟨b,2,none⟩ v2).setCell ⟨b,3,none⟩ v3).setCell ⟨b,4,none⟩ v4).setCell ⟨b,5,none⟩ v5).setCell ⟨b,6,none⟩ c).setCell ⟨b,7,none⟩ d).setCell ⟨b,8,none⟩ f).setCell ⟨b,9,none⟩ v9).setCell ⟨b,10,none⟩ m).setCell ⟨b,11,none⟩ x).setCell ⟨b,12,none⟩ v12).setCell ⟨b,13,none⟩ H).setCell ⟨b,14,none⟩ K).heap[b]?=some (.cells #[v0,v1,v2,v3,v4,v5,c,d,f,v9,m,x,v12,H,K,j] t (0,0)):=by rw[heap_setCell_same _ b 14 _ _ _ Y];rfl
 have S:((((((((((((((((w.setCell ⟨b,0,none⟩ v0).setCell ⟨b,1,none⟩ v1).setCell ⟨b,2,none⟩ v2).setCell ⟨b,3,none⟩ v3).setCell ⟨b,4,none⟩ v4).setCell ⟨b,5,none⟩ v5).setCell ⟨b,6,none⟩ c).setCell ⟨b,7,none⟩ d).setCell ⟨b,8,none⟩ f).setCell ⟨b,9,none⟩ v9).setCell ⟨b,10,none⟩ m).setCell ⟨b,11,none⟩ x).setCell ⟨b,12,none⟩ v12).setCell ⟨b,13,none⟩ H).setCell ⟨b,14,none⟩ K).setCell ⟨b,15,none⟩ E).heap[b]?=some (.cells #[v0,v1,v2,v3,v4,v5,c,d,f,v9,m,x,v12,H,K,E] t (0,0)):=by rw[heap_setCell_same _ b 15 _ _ _ X];rfl
 exact S
theorem jY(w:World)(b:Nat)(v0 v1 v2 v3 v4 v5 d u f v9 h j v12 m k c:Value):ag (One b) w (mq w b v0 v1 v2 v3 v4 v5 d u f v9 h j v12 m k c):=by
 have K:∀(W:World) (o:Nat) (v:Value),ag (One b) W (W.setCell ⟨b,o,none⟩ v):=fun W o v=>ag.setCell (ag.refl _ _) (fun _=>(rfl:b=b)) _;exact((((((((((((((((K _ _ _)).then (K _ _ _)).then (K _ _ _)).then (K _ _ _)).then (K _ _ _)).then (K _ _ _)).then (K _ _ _)).then (K _ _ _)).then (K _ _ _)).then (K _ _ _)).then (K _ _ _)).then (K _ _ _)).then (K _ _ _)).then (K _ _ _)).then (K _ _ _)).then (K _ _ _)
theorem az{w:World}{b:Nat}{t:TypeId}{a0 a1 a2 a3 a4 a5 u c d a9 k z a12 x f m:Value}(h:w.heap[b]?=some (.cells #[a0,a1,a2,a3,a4,a5,u,c,d,a9,k,z,a12,x,f,m] t (0,0)))(j:Nat)(v:Value)(A: [a0,a1,a2,a3,a4,a5,u,c,d,a9,k,z,a12,x,f,m][j]?=some v):w.cell? ⟨b,j,none⟩=some v:=aQ (cur:= [a0,a1,a2,a3,a4,a5,u,c,d,a9,k,z,a12,x,f,m]) h j v A
theorem aW{w:World}{b:Nat}{t:TypeId}{a0 a1 a2 a3 a4 a5 u c d a9 k z a12 x f m:Value}(h:w.heap[b]?=some (.cells #[a0,a1,a2,a3,a4,a5,u,c,d,a9,k,z,a12,x,f,m] t (0,0)))(j:Nat):w.frozen? ⟨b,j,none⟩=false:=frozen_of_row w b j _ _ h
theorem pI{w:World}{b:Nat}{t:TypeId}{a0 a1 a2 a3 a4 a5 u c d a9 k z a12 x f m:Value}(h:w.heap[b]?=some (.cells #[a0,a1,a2,a3,a4,a5,u,c,d,a9,k,z,a12,x,f,m] t (0,0)))(j:Nat):w.cell? ⟨b,j,none⟩=#[a0,a1,a2,a3,a4,a5,u,c,d,a9,k,z,a12,x,f,m][j]?:=cell_of_row w b j _ _ _ h
theorem qV{w:World}{b:Nat}{t:TypeId}{a0 a1 a2 a3 a4 a5 u c d a9 j k a12 x f m:Value}(h:w.heap[b]?=some (.cells #[a0,a1,a2,a3,a4,a5,u,c,d,a9,j,k,a12,x,f,m] t (0,0))):(loadVar 29 ⟨b,0,none⟩).run Tryz.prog w=.ok (.agg #[a0,a1,a2,a3,a4,a5,u,c,d,a9,j,k,a12,x,f,m]) w:=by
 have K:=az h 0 _ rfl;have X:=az h 1 _ rfl;have S:=az h 2 _ rfl;have N:=az h 3 _ rfl;have Z:=az h 4 _ rfl;have H:=az h 5 _ rfl;have T:=az h 6 _ rfl;have z:=az h 7 _ rfl;have A:=az h 8 _ rfl;have U:=az h 9 _ rfl;have V:=az h 10 _ rfl;have F:=az h 11 _ rfl;have I:=az h 12 _ rfl;have Y:=az h 13 _ rfl;have G:=az h 14 _ rfl;have E:=az h 15 _ rfl;simp[loadVar,go_sem,K,X,S,N,Z,H,T,z,A,U,V,F,I,Y,G,E]
theorem results_cell_tmp{fn:Func}{a u:Tmp}{t:TypeId}(h:fn.results=#[.cell a t,.tmp u])(tmps:Array Value)(P:Program)(w:World){c:Addr}{v:Value}(d:tmps.getD a undef=.pointer (some c))(f:(loadVar t c).run P w=.ok v w):
    (results fn tmps).run P w=.ok (.tuple #[v,tmps.getD u undef]) w:=by
 rw[Array.getD_eq_getD_getElem?]at d;simp[results,h,d,f,asAddr,Result.andThen]
theorem zm(e:Ev)(p:Pt):∃a0 a1 a2 b3 a4 N n6 c I m E x S k z T K G H F h d j A f u,fA e p=.agg #[.string a0,.string a1,.string a2,.bool b3,.string a4,.int .i64 N,.int .i64 n6,.string c,.slice I m E,.slice x S k,.slice z T K,.slice G H F,.int .i64 h,.int .i64 d,.string j,.slice A f u]:=⟨_,_,_,_,_,_,_,_,_,_,_,_,_,_,_,_,_,_,_,_,_,_,_,_,_,_,rfl⟩
end Go.Proofs.YtldkblgclochjaaGreatDoor

/- A part. -/
import Derived.Test.YtldegjjaknelgaaGreatDoorAJ16
import Derived.Laws.BitsAllLaws
set_option maxRecDepth 100000
set_option maxHeartbeats 64000000
namespace Go.Proofs.YtldegjjaknelgaaGreatDoor
open Go.RowKit
theorem o6{d:Nat}{s:ByteArray}(h:s.size<=1000000000):szJ (d+1) (eX s)=true:=by
 unfold eX szJ;rw[decide_eq_true (show s.size<=1000000000 by omega)]
 rfl
theorem Gg{d:Nat}{l:List ByteArray}(hl:l.length<=100000)(h:∀x∈l,x.size<=1000000000):szJ (d+2) (sF l)=true:=by
 unfold sF szJ;rw[show(l.map eX).all (szJ (d+1))=true by
  rw[List.all_eq_true];intro x hx;obtain⟨y,hy,rfl⟩:=List.mem_map.1 hx;exact o6 (h y hy),decide_eq_true (show(l.map eX).length<=100000 by rw[List.length_map];exact hl)]
 rfl
theorem Pk{d:Nat}{l:List (ByteArray×ByteArray)}(hl:l.length<=100000)(h:∀x∈l,x.1.size<=1000000000/\x.2.size<=1000000000):szJ (d+2) (qM l)=true:=by
 unfold qM szJ;rw[show(l.map fun s=>eX s.2).all (szJ (d+1))=true by
  rw[List.all_eq_true];intro x hx;obtain⟨y,hy,rfl⟩:=List.mem_map.1 hx;exact o6 (h y hy).2,show(l.map (·.1)).all (fun k=>decide (k.size<=1000000000))=true by
  rw[List.all_eq_true];intro x hx;obtain⟨y,hy,rfl⟩:=List.mem_map.1 hx;exact decide_eq_true (by have:=(h y hy).1;omega),decide_eq_true (show(l.map fun s=>eX s.2).length<=100000 by rw[List.length_map];exact hl),decide_eq_true (show(l.map (·.1)).length<=100000 by rw[List.length_map];exact hl)]
 rfl
theorem R7{d:Nat}{n:Int}:szJ (d+1) (EK n)=true:=by
 unfold EK szJ
 rfl
theorem R8(b:Bool):((if b=true then [ui,eY,oI,uj,Qz,um,uo,lq,uq,UL,uu]else [ui,eY,oI,uj,um,uo,lq,uq,UL,uu]).all (fun k=>decide (k.size<=1000000000)))=true:=by
 cases b<;>kernel_rfl
theorem Pm(e:Ev):(kR e).length<=11:=by
 unfold kR
 cases e.st<;>simp
theorem M4{e:Ev}(h:yC e):szJ 12 (nE e)=true:=by
 have hv:((kR e).map (·.2)).all (szJ 11)=true:=by
  rw[List.all_eq_true];intro x hx;obtain⟨y,hy,rfl⟩:=List.mem_map.1 hx;unfold kR at hy;simp only[List.mem_append,List.mem_cons,List.not_mem_nil,or_false]at hy
  rcases hy with((rfl| rfl| rfl| rfl)| hy)| (rfl| rfl| rfl| rfl| rfl| rfl)
  ·exact Gg h.aD h.MW
  ·exact ky 11 12 _ (by omega) h.cont
  ·exact R7
  ·exact o6 h.hash
  ·split at hy
   ·rw[List.mem_singleton]at hy;subst hy;exact o6 h.key
   ·cases hy
  ·exact Gg h.prev h.MV
  ·exact o6 h.room
  ·exact o6 h.ah
  ·exact Pk h.sigs h.FD
  ·exact R7
  ·exact o6 h.aR
 have hl:=Pm e;unfold nE szJ;have hn:=R8 e.st;rw[<-Ct]at hn;rw[hn,hv,decide_eq_true (show((kR e).map (·.1)).length<=100000 by rw[List.length_map];omega),decide_eq_true (show((kR e).map (·.2)).length<=100000 by rw[List.length_map];omega)]
 rfl
def DI(e:Ev):List Int:=lK (ord (nE e))
structure zg0(w w':World)(e:Ev)(x:Ending):Prop where
 no:aS e=false->x=.returned (.tuple #[.slice none 0 0,.int .i64 50])
 long:aS e=true->16384<(DI e).length->x=.returned (.tuple #[.slice none 0 0,.int .i64 13])
 ok:aS e=true->(DI e).length<=16384->∃v,x=.returned (.tuple #[v,.int .i64 0])/\w'.ownsRow w.heap.size 5 1 v (DI e).length ((DI e).map (Value.int .u8))
 below:Below w.heap.size w w'
theorem Gh{O:Nat->Prop}(e:Ev)(p:Pt)(w:World)(hE:ji O w e p)(hO:∀k,O k->k<w.heap.size)(hz:yC e)(hT:wJ w):
    Calls Tryz.prog 49 #[eF e p] w fun x w'=>zg0 w w' e x:=by
 obtain⟨room,aR,ah,st,key,⟨k,i,t,ks,l⟩,prev,aD,depth,ts,hash,sigs⟩:=e;obtain⟨pk,ck,pl,cl,pp,cp,pa,ca,ps,cs⟩:=p;have bM:Below w.heap.size w (w.alloc (.cells #[.string room,.string aR,.string ah,.bool st,.string key,.int .i64 k,.int .i64 i,.string t,.slice pk ks.length ck,.slice pl l.length cl,.slice pp prev.length cp,.slice pa aD.length ca,.int .i64 depth,.int .i64 ts,.string hash,.slice ps sigs.length cs] 28)):=(Below.refl _ _).alloc (Nat.le_refl _) _;have Aj:=J_ ⟨room,aR,ah,st,key,⟨k,i,t,ks,l⟩,prev,aD,depth,ts,hash,sigs⟩ ⟨pk,ck,pl,cl,pp,cp,pa,ca,ps,cs⟩ (w.alloc (.cells #[.string room,.string aR,.string ah,.bool st,.string key,.int .i64 k,.int .i64 i,.string t,.slice pk ks.length ck,.slice pl l.length cl,.slice pp prev.length cp,.slice pa aD.length ca,.int .i64 depth,.int .i64 ts,.string hash,.slice ps sigs.length cs] 28)) (hE.below hO bM) (fun k hk=>Nat.lt_of_lt_of_le (hO k hk) bM.size) hz (hT.below bM);have HC:Hid (∀W,Below (w.alloc (.cells #[.string room,.string aR,.string ah,.bool st,.string key,.int .i64 k,.int .i64 i,.string t,.slice pk ks.length ck,.slice pl l.length cl,.slice pp prev.length cp,.slice pa aD.length ca,.int .i64 depth,.int .i64 ts,.string hash,.slice ps sigs.length cs] 28)).heap.size (w.alloc (.cells #[.string room,.string aR,.string ah,.bool st,.string key,.int .i64 k,.int .i64 i,.string t,.slice pk ks.length ck,.slice pl l.length cl,.slice pp prev.length cp,.slice pa aD.length ca,.int .i64 depth,.int .i64 ts,.string hash,.slice ps sigs.length cs] 28)) W->∀j v, [.string room,.string aR,.string ah,.bool st,.string key,.int .i64 k,.int .i64 i,.string t,.slice pk ks.length ck,.slice pl l.length cl,.slice pp prev.length cp,.slice pa aD.length ca,.int .i64 depth,.int .i64 ts,.string hash,.slice ps sigs.length cs][j]?=some v->W.cell? ⟨w.heap.size,j,none⟩=some v):=fun W hW j v hj=>bB ((hW.block _ (by simp)).trans (heap_alloc_new _ _)) j v hj;have HTo:Hid (∀W,Below (w.alloc (.cells #[.string room,.string aR,.string ah,.bool st,.string key,.int .i64 k,.int .i64 i,.string t,.slice pk ks.length ck,.slice pl l.length cl,.slice pp prev.length cp,.slice pa aD.length ca,.int .i64 depth,.int .i64 ts,.string hash,.slice ps sigs.length cs] 28)).heap.size (w.alloc (.cells #[.string room,.string aR,.string ah,.bool st,.string key,.int .i64 k,.int .i64 i,.string t,.slice pk ks.length ck,.slice pl l.length cl,.slice pp prev.length cp,.slice pa aD.length ca,.int .i64 depth,.int .i64 ts,.string hash,.slice ps sigs.length cs] 28)) W->Calls Tryz.prog 79 #[.agg #[.string room,.string aR,.string ah,.bool st,.string key,.int .i64 k,.int .i64 i,.string t,.slice pk ks.length ck,.slice pl l.length cl,.slice pp prev.length cp,.slice pa aD.length ca,.int .i64 depth,.int .i64 ts,.string hash,.slice ps sigs.length cs]] W fun x w'=>(∃pk nk ck pl nl cl,x=.returned (.agg #[.int .i64 5,.int .i64 0,.string aT,.slice pk nk ck,.slice pl nl cl])/\isJ (fun k=>O k\/ tN W w' k) w' (nE ⟨room,aR,ah,st,key,⟨k,i,t,ks,l⟩,prev,aD,depth,ts,hash,sigs⟩) [.int .i64 5,.int .i64 0,.string aT,.slice pk nk ck,.slice pl nl cl])/\Below W.heap.size W w'):=fun W hW=>
  RZ ⟨room,aR,ah,st,key,⟨k,i,t,ks,l⟩,prev,aD,depth,ts,hash,sigs⟩ ⟨pk,ck,pl,cl,pp,cp,pa,ca,ps,cs⟩ W (hE.below hO (av bM hW)) (fun k hk=>Nat.lt_of_lt_of_le (hO k hk) (av bM hW).size) hz
 have HEn:Hid (∀W W2 pk nk ck pl nl cl,Below w.heap.size w W->Below W.heap.size W W2->isJ (fun k=>O k\/ tN W W2 k) W2 (nE ⟨room,aR,ah,st,key,⟨k,i,t,ks,l⟩,prev,aD,depth,ts,hash,sigs⟩) [.int .i64 5,.int .i64 0,.string aT,.slice pk nk ck,.slice pl nl cl]->Calls Tryz.prog 78 #[.agg #[.int .i64 5,.int .i64 0,.string aT,.slice pk nk ck,.slice pl nl cl]] W2 fun x w'=>MJ W2 w' (nE ⟨room,aR,ah,st,key,⟨k,i,t,ks,l⟩,prev,aD,depth,ts,hash,sigs⟩) x):=fun W W2 pk nk ck pl nl cl h1 h2 hj=>
  Js (fun x hx=>by
   rcases hx with hx| hx
   ·exact Nat.lt_of_lt_of_le (hO x hx) (Nat.le_trans h1.size h2.size)
   ·exact hx.2) (M4 hz) (hT.below (av h1 h2)).pow (fun hg=>U4 hg (M4 hz)) hj
 have nu:Hid (Below w.heap.size w (w.alloc (.cells #[.string room,.string aR,.string ah,.bool st,.string key,.int .i64 k,.int .i64 i,.string t,.slice pk ks.length ck,.slice pl l.length cl,.slice pp prev.length cp,.slice pa aD.length ca,.int .i64 depth,.int .i64 ts,.string hash,.slice ps sigs.length cs] 28))):=bM;have HG:Hid (aS ⟨room,aR,ah,st,key,⟨k,i,t,ks,l⟩,prev,aD,depth,ts,hash,sigs⟩=true->goodJ 12 (nE ⟨room,aR,ah,st,key,⟨k,i,t,ks,l⟩,prev,aD,depth,ts,hash,sigs⟩)=true):=fun h=>Gf h;have HL:Hid ((DI ⟨room,aR,ah,st,key,⟨k,i,t,ks,l⟩,prev,aD,depth,ts,hash,sigs⟩)=lK (ord (nE ⟨room,aR,ah,st,key,⟨k,i,t,ks,l⟩,prev,aD,depth,ts,hash,sigs⟩))):=rfl;simp only[eF,aA,J.kind,J.int,J.text,J.keys,J.list]at Aj ⊢;clear hE hO hz hT bM
 cases hs:aS ⟨room,aR,ah,st,key,⟨k,i,t,ks,l⟩,prev,aD,depth,ts,hash,sigs⟩with
 | false=>
  rw[hs]at Aj;have HS:Hid (aS ⟨room,aR,ah,st,key,⟨k,i,t,ks,l⟩,prev,aD,depth,ts,hash,sigs⟩=false):=hs;clear hs;go_enter Tryz.func49,Tryz.ntmps49;go_wp2_with(go_at_call 77;refine Aj.mono ?_;rintro x w1 ⟨rfl,aL⟩);go_ret2;exact⟨fun _=>rfl,fun h=>(by rw[HS.out]at h;cases h),fun h=>(by rw[HS.out]at h;cases h),av nu.out aL⟩
 | true=>
  rw[hs]at Aj;have HS:Hid (aS ⟨room,aR,ah,st,key,⟨k,i,t,ks,l⟩,prev,aD,depth,ts,hash,sigs⟩=true):=hs;clear hs;obtain⟨n,hn⟩:∃n,(DI ⟨room,aR,ah,st,key,⟨k,i,t,ks,l⟩,prev,aD,depth,ts,hash,sigs⟩).length=n:=⟨_,rfl⟩;have HN:Hid ((DI ⟨room,aR,ah,st,key,⟨k,i,t,ks,l⟩,prev,aD,depth,ts,hash,sigs⟩).length=n):=hn;clear hn
  by_cases nJ:16384<n
  ·have Jt:Hid (16384<n):=nJ;clear nJ;go_enter Tryz.func49,Tryz.ntmps49;go_wp2_with(first
    | (go_at_call 78;refine hEn.mono ?_;rintro x w3 ⟨_,h3,_,df⟩
       obtain rfl:=h3 (HG.out HS.out) (by rw[<-HL.out,HN.out];exact Jt.out))
    | (go_at_call 79;refine hTo.mono ?_;rintro x w2 ⟨⟨pk2,nk2,ck2,pl2,nl2,cl2,rfl,Ue⟩,aY⟩
       have hEn:=HEn.out w1 w2 pk2 nk2 ck2 pl2 nl2 cl2 (av nu.out aL) aY Ue)
    | (go_at_call 77;refine Aj.mono ?_;rintro x w1 ⟨rfl,aL⟩
       have cc:=HC.out w1 aL;have c0:=cc 0 _ rfl;have c1:=cc 1 _ rfl;have c2:=cc 2 _ rfl;have c3:=cc 3 _ rfl;have c4:=cc 4 _ rfl;have c5:=cc 5 _ rfl;have c6:=cc 6 _ rfl;have c7:=cc 7 _ rfl;have c8:=cc 8 _ rfl;have c9:=cc 9 _ rfl;have l_:=cc 10 _ rfl;have Kc:=cc 11 _ rfl;have Hz:=cc 12 _ rfl;have kW:=cc 13 _ rfl;have H_:=cc 14 _ rfl;have Ke:=cc 15 _ rfl;clear cc;have hTo:=HTo.out w1 aL))
   go_ret2;exact⟨fun h=>(by rw[HS.out]at h;cases h),fun _ _=>rfl,fun _ h=>absurd h (by rw[HN.out];have:=Jt.out;omega),av nu.out (av aL (av aY df))⟩
  ·have Jt:Hid (n<=16384):=by show _<=_;omega
   clear nJ;go_enter Tryz.func49,Tryz.ntmps49;go_wp2_with(first
    | (go_at_call 78;refine hEn.mono ?_;rintro x w3 ⟨_,_,h3,df⟩
       obtain⟨v3,rfl,how⟩:=h3 (HG.out HS.out) (by rw[<-HL.out,HN.out];exact Jt.out))
    | (go_at_call 79;refine hTo.mono ?_;rintro x w2 ⟨⟨pk2,nk2,ck2,pl2,nl2,cl2,rfl,Ue⟩,aY⟩
       have hEn:=HEn.out w1 w2 pk2 nk2 ck2 pl2 nl2 cl2 (av nu.out aL) aY Ue)
    | (go_at_call 77;refine Aj.mono ?_;rintro x w1 ⟨rfl,aL⟩
       have cc:=HC.out w1 aL;have c0:=cc 0 _ rfl;have c1:=cc 1 _ rfl;have c2:=cc 2 _ rfl;have c3:=cc 3 _ rfl;have c4:=cc 4 _ rfl;have c5:=cc 5 _ rfl;have c6:=cc 6 _ rfl;have c7:=cc 7 _ rfl;have c8:=cc 8 _ rfl;have c9:=cc 9 _ rfl;have l_:=cc 10 _ rfl;have Kc:=cc 11 _ rfl;have Hz:=cc 12 _ rfl;have kW:=cc 13 _ rfl;have H_:=cc 14 _ rfl;have Ke:=cc 15 _ rfl;clear cc;have hTo:=HTo.out w1 aL))
   go_ret2;exact⟨fun h=>(by rw[HS.out]at h;cases h),fun _ h=>absurd h (by rw[HN.out];have:=Jt.out;omega),fun _ _=>⟨_,rfl,BR how (av nu.out (av aL aY)).size⟩,av nu.out (av aL (av aY df))⟩
def ni(e:Ev):Int:=if aS e=true then(if 16384<(DI e).length then 13 else 0)else 50
theorem Kg{O:Nat->Prop}(e:Ev)(p:Pt)(w:World)(hE:ji O w e p)(hO:∀k,O k->k<w.heap.size)(hz:yC e)(hT:wJ w):
    Calls Tryz.prog 24 #[eF e p] w fun x w'=>x=.returned (.int .i64 (ni e))/\Below w.heap.size w w':=by
 obtain⟨room,aR,ah,st,key,⟨k,i,t,ks,l⟩,prev,aD,depth,ts,hash,sigs⟩:=e;obtain⟨pk,ck,pl,cl,pp,cp,pa,ca,ps,cs⟩:=p;have bM:Below w.heap.size w (w.alloc (.cells #[.string room,.string aR,.string ah,.bool st,.string key,.int .i64 k,.int .i64 i,.string t,.slice pk ks.length ck,.slice pl l.length cl,.slice pp prev.length cp,.slice pa aD.length ca,.int .i64 depth,.int .i64 ts,.string hash,.slice ps sigs.length cs] 28)):=(Below.refl _ _).alloc (Nat.le_refl _) _;have Aj:=Gh ⟨room,aR,ah,st,key,⟨k,i,t,ks,l⟩,prev,aD,depth,ts,hash,sigs⟩ ⟨pk,ck,pl,cl,pp,cp,pa,ca,ps,cs⟩ (w.alloc (.cells #[.string room,.string aR,.string ah,.bool st,.string key,.int .i64 k,.int .i64 i,.string t,.slice pk ks.length ck,.slice pl l.length cl,.slice pp prev.length cp,.slice pa aD.length ca,.int .i64 depth,.int .i64 ts,.string hash,.slice ps sigs.length cs] 28)) (hE.below hO bM) (fun k hk=>Nat.lt_of_lt_of_le (hO k hk) bM.size) hz (hT.below bM);have hX:Calls Tryz.prog 49 #[.agg #[.string room,.string aR,.string ah,.bool st,.string key,.int .i64 k,.int .i64 i,.string t,.slice pk ks.length ck,.slice pl l.length cl,.slice pp prev.length cp,.slice pa aD.length ca,.int .i64 depth,.int .i64 ts,.string hash,.slice ps sigs.length cs]] (w.alloc (.cells #[.string room,.string aR,.string ah,.bool st,.string key,.int .i64 k,.int .i64 i,.string t,.slice pk ks.length ck,.slice pl l.length cl,.slice pp prev.length cp,.slice pa aD.length ca,.int .i64 depth,.int .i64 ts,.string hash,.slice ps sigs.length cs] 28)) fun x w'=>(∃v,x=.returned (.tuple #[v,.int .i64 (ni ⟨room,aR,ah,st,key,⟨k,i,t,ks,l⟩,prev,aD,depth,ts,hash,sigs⟩)]))/\Below (w.alloc (.cells #[.string room,.string aR,.string ah,.bool st,.string key,.int .i64 k,.int .i64 i,.string t,.slice pk ks.length ck,.slice pl l.length cl,.slice pp prev.length cp,.slice pa aD.length ca,.int .i64 depth,.int .i64 ts,.string hash,.slice ps sigs.length cs] 28)).heap.size (w.alloc (.cells #[.string room,.string aR,.string ah,.bool st,.string key,.int .i64 k,.int .i64 i,.string t,.slice pk ks.length ck,.slice pl l.length cl,.slice pp prev.length cp,.slice pa aD.length ca,.int .i64 depth,.int .i64 ts,.string hash,.slice ps sigs.length cs] 28)) w':=by
  refine Aj.mono ?_;rintro x w' ⟨h1,h2,h3,h4⟩;refine⟨?_,h4⟩;unfold ni
  cases hs:aS ⟨room,aR,ah,st,key,⟨k,i,t,ks,l⟩,prev,aD,depth,ts,hash,sigs⟩with
  | false=>exact⟨_,h1 hs⟩
  | true=>
   by_cases hl:16384<(DI ⟨room,aR,ah,st,key,⟨k,i,t,ks,l⟩,prev,aD,depth,ts,hash,sigs⟩).length
   ·exact⟨_,by rw[if_pos rfl,if_pos hl];exact h2 hs hl⟩
   ·obtain⟨v,hv,_⟩:=h3 hs (by omega);exact⟨v,by rw[if_pos rfl,if_neg hl];exact hv⟩
 clear Aj hE hO hz hT;generalize ni ⟨room,aR,ah,st,key,⟨k,i,t,ks,l⟩,prev,aD,depth,ts,hash,sigs⟩=n at hX ⊢;simp only[eF,aA,J.kind,J.int,J.text,J.keys,J.list];go_enter Tryz.func24,Tryz.ntmps24;go_wp2_with(go_at_call 49;refine hX.mono ?_;rintro x w1 ⟨⟨v,rfl⟩,aL⟩);go_ret;exact⟨rfl,av bM aL⟩
open Go.RowKit Go.Maps
theorem R9{O:Nat->Prop}{w:World}{j:J}{k i:Int}{t:ByteArray}{pk pl:Option Addr}{nk ck nl cl:Nat}(h:isJ O w j [.int .i64 k,.int .i64 i,.string t,.slice pk nk ck,.slice pl nl cl]):
    j.kind=k/\j.int=i/\j.text=t/\nk=j.keys.length/\nl=j.list.length/\jP O w pk ck j.keys/\j.list.length<=cl/\isJs O w pl 0 j.list:=by
 cases j with
 | mk k' i' t' ks l=>
  unfold isJ at h;obtain⟨YH,U0,YI,A_,e,h1,h2,h3⟩:=h
  cases e
  exact⟨rfl,rfl,rfl,rfl,rfl,h1,h2,h3⟩
open Go.RowKit
theorem nW{w:World}{b:Nat}{t:TypeId}{a0 a1 a2 a3 a4 a5 a6 a7 a8 a9 a10 Zx a12 a13 a14 a15:Value}(h:w.heap[b]?=some (.cells #[a0,a1,a2,a3,a4,a5,a6,a7,a8,a9,a10,Zx,a12,a13,a14,a15] t (0,0)))(j:Nat)(v:Value)(hj: [a0,a1,a2,a3,a4,a5,a6,a7,a8,a9,a10,Zx,a12,a13,a14,a15][j]?=some v):w.cell? ⟨b,j,none⟩=some v:=bB (cur:= [a0,a1,a2,a3,a4,a5,a6,a7,a8,a9,a10,Zx,a12,a13,a14,a15]) h j v hj
open Go.RowKit Go.Maps
theorem Cu:∀{d:Nat} {j:J},goodJ d j=true->goodJ (d+1) j=true
 | 0,j,h=>by unfold goodJ at h;cases h
 | d+1,.mk k i t ks l,h=>by
  unfold goodJ at h ⊢;rw[Bool.and_eq_true]at h ⊢;refine⟨h.1, ?_⟩;have h2:=h.2;have up:l.all (goodJ d)=true->l.all (goodJ (d+1))=true:=fun hl=>List.all_eq_true.2 fun x hx=>Cu (List.all_eq_true.1 hl x hx)
  split at h2
  ·rw[if_pos ‹_›]
  ·rw[if_neg ‹_›]
   split at h2
   ·rw[if_pos ‹_›];exact h2
   ·rw[if_neg ‹_›]
    split at h2
    ·rw[if_pos ‹_›];exact h2
    ·rw[if_neg ‹_›]
     split at h2
     ·rw[if_pos ‹_›];exact h2
     ·rw[if_neg ‹_›]
      split at h2
      ·rw[if_pos ‹_›];exact up h2
      ·rw[if_neg ‹_›]
       split at h2
       ·rw[if_pos ‹_›];rw[Bool.and_eq_true]at h2 ⊢;exact⟨h2.1,up h2.2⟩
       ·cases h2
theorem o7{fn:Func}{a:Tmp}{t:TypeId}(h:fn.results=#[.cell a t])(tmps:Array Value)(P:Program)(w:World){ad:Addr}{v:Value}(hp:tmps.getD a undef=.pointer (some ad))(hl:(loadVar t ad).run P w=.ok v w):
    (results fn tmps).run P w=.ok v w:=by
 rw[Array.getD_eq_getD_getElem?]at hp;simp[results,h,hp,hl,asAddr]
open Go.RowKit
theorem uX(a:Nat)(ha:a<18446744073709551616):(BitVec.ofInt 64 (a:Int)).toNat=a:=by
 rw[BitVec.ofInt_natCast,BitVec.toNat_ofNat];exact Nat.mod_eq_of_lt (by omega)
theorem jM(n:Int)(h0:0<=n)(h1:n<9223372036854775808):IntKind.i64.wrap n=n:=by
 simp[IntKind.wrap,IntKind.bits,IntKind.signed];omega
theorem qA(a b:Nat)(ha:a<9223372036854775808)(hb:b<9223372036854775808):bits .and .i64 (a:Int) (b:Int)=((a&&&b:Nat):Int):=by
 have h1:a&&&b<=a:=Nat.and_le_left
 show IntKind.i64.wrap ((BitVec.ofInt 64 (a:Int)&&&BitVec.ofInt 64 (b:Int)).toNat:Int)=_
 rw[BitVec.toNat_and,uX a (by omega),uX b (by omega)];exact jM _ (by omega) (by omega)
theorem Kh(a b:Nat)(ha:a<4611686018427387904)(hb:b<4611686018427387904):bits .or .i64 (a:Int) (b:Int)=((a ||| b:Nat):Int):=by
 have h1:a ||| b<2 ^ 62:=Nat.or_lt_two_pow (by omega) (by omega)
 show IntKind.i64.wrap ((BitVec.ofInt 64 (a:Int) ||| BitVec.ofInt 64 (b:Int)).toNat:Int)=_
 rw[BitVec.toNat_or,uX a (by omega),uX b (by omega)];exact jM _ (by omega) (by omega)
theorem ZA(c:Int)(h0:0<=c)(h1:c<=255):bits .and .i64 c 31=c % 32:=by
 obtain⟨n,rfl⟩:=Int.eq_ofNat_of_zero_le h0;have:=qA n 31 (by omega) (by omega);rw[show((31:Nat):Int)=31 from rfl]at this;rw[this,show(31:Nat)=2 ^ 5 - 1 from rfl,Nat.and_two_pow_sub_one_eq_mod];omega
theorem ZB(c:Int)(h0:0<=c)(h1:c<=255):bits .and .i64 c 15=c % 16:=by
 obtain⟨n,rfl⟩:=Int.eq_ofNat_of_zero_le h0;have:=qA n 15 (by omega) (by omega);rw[show((15:Nat):Int)=15 from rfl]at this;rw[this,show(15:Nat)=2 ^ 4 - 1 from rfl,Nat.and_two_pow_sub_one_eq_mod];omega
theorem zeE(c:Int)(h0:0<=c)(h1:c<=255):bits .and .i64 c 7=c % 8:=by
 obtain⟨n,rfl⟩:=Int.eq_ofNat_of_zero_le h0;have:=qA n 7 (by omega) (by omega);rw[show((7:Nat):Int)=7 from rfl]at this;rw[this,show(7:Nat)=2 ^ 3 - 1 from rfl,Nat.and_two_pow_sub_one_eq_mod];omega
theorem Ki(c:Int)(h0:0<=c)(h1:c<=255):bits .and .u8 c 63=c % 64:=by
 obtain⟨n,rfl⟩:=Int.eq_ofNat_of_zero_le h0;have:=u8_and_nat n 63 (by omega) (by omega);rw[show((63:Nat):Int)=63 from rfl]at this;rw[this,show(63:Nat)=2 ^ 6 - 1 from rfl,Nat.and_two_pow_sub_one_eq_mod];omega
theorem Gi:∀n:Fin 256,(n:Nat)&&&192=(n:Nat) / 64*64:=by decide+kernel
theorem DJ(c:Int)(h0:0<=c)(h1:c<=255):bits .and .u8 c 192=c / 64*64:=by
 obtain⟨n,rfl⟩:=Int.eq_ofNat_of_zero_le h0;have:=u8_and_nat n 192 (by omega) (by omega);rw[show((192:Nat):Int)=192 from rfl]at this;rw[this];have h:=Gi ⟨n,by omega⟩;simp only at h;rw[h];omega
theorem R_(c x:Int)(h0:0<=c)(h1:c<=1000000)(h2:0<=x)(h3:x<64):bits .or .i64 (c*64) x=c*64+x:=by
 obtain⟨n,rfl⟩:=Int.eq_ofNat_of_zero_le h0;obtain⟨m,rfl⟩:=Int.eq_ofNat_of_zero_le h2;have:=Kh (n*64) m (by omega) (by omega);rw[show((n*64:Nat):Int)=(n:Int)*64 by omega]at this;rw[this];have h:=Nat.two_pow_add_eq_or_of_lt (i:=6) (b:=m) (by omega) n;rw[show n*64=2 ^ 6*n by omega,<-h];omega
theorem Gj(s:ByteArray)(p:Nat)(hp:p<s.size):((s[p]'hp).toNat:Int)=aB (ints s) p:=by
 unfold aB;rw[dt s p hp]
theorem nX{b:Int}(h:0<=b/\b<=255):wrap64 b=b:=by
 unfold wrap64;omega
def accU(t:List Int)(p:Nat)(c:Int):Nat->Int
 | 0=>c
 | k+1=>accU t p c k*64+aB t (p+(k+1)) % 64
theorem wL(t:List Int)(p:Nat)(c:Int)(h:0<=c/\c<=31):∀n,n<=3->0<=accU t p c n/\accU t p c n<=32*64 ^ n - 1:=by
 have e1:accU t p c 1=c*64+aB t (p+1) % 64:=rfl;have e2:accU t p c 2=(c*64+aB t (p+1) % 64)*64+aB t (p+2) % 64:=rfl;have e3:accU t p c 3=((c*64+aB t (p+1) % 64)*64+aB t (p+2) % 64)*64+aB t (p+3) % 64:=rfl;intro n hn
 match n,hn with
 | 0,_=>exact⟨h.1,by show c<=_;omega⟩
 | 1,_=>rw[e1];omega
 | 2,_=>rw[e2];omega
 | 3,_=>rw[e3];omega
def dH(t:List Int)(p:Nat)(many:Nat)(least c:Int):Int×Nat:=
 if(∀k,k<many->bW t (p+(k+1))=true)/\least<=accU t p c many/\dz (accU t p c many)=true then(accU t p c many,many+1)else(0,0)
theorem Pn(s:ByteArray)(p:Nat)(w:World)(hp:p<s.size)(b:Int)(hb:aB (ints s) p=b)(h0:0<=b/\b<=255)(JR:b<128):
    Calls Tryz.prog 70 #[.string s,.int .i64 p] w fun x w'=>x=.returned (.tuple #[.int .i64 b,.int .i64 1])/\w=w':=by
 have e0:=Gj s p hp;rw[hb]at e0;have e1:=nX h0;have hpi:(p:Int)<s.size:=by omega
 go_enter Tryz.func70,Tryz.ntmps70;go_wp2;go_ret2;exact⟨rfl,rfl⟩
theorem Po(s:ByteArray)(p:Nat)(w:World)(hp:p<s.size)(b:Int)(hb:aB (ints s) p=b)(h0:0<=b/\b<=255)(JR:128<=b)(ZC:b<192\/ 248<=b):
    Calls Tryz.prog 70 #[.string s,.int .i64 p] w fun x w'=>x=.returned (.tuple #[.int .i64 0,.int .i64 0])/\w=w':=by
 have e0:=Gj s p hp;rw[hb]at e0;have e1:=nX h0;have hpi:(p:Int)<s.size:=by omega
 rcases ZC with ZC| ZC
 ·go_enter Tryz.func70,Tryz.ntmps70;go_wp2;go_ret2;exact⟨rfl,rfl⟩
 ·go_enter Tryz.func70,Tryz.ntmps70;go_wp2;go_ret2;exact⟨rfl,rfl⟩
theorem Kj(s:ByteArray)(p:Nat)(w:World)(hp:p<s.size)(hs:s.size<=1000000000)(b:Int)(hb:aB (ints s) p=b)(h0:0<=b/\b<=255)(U3:192<=b)(hhi:b<224):
    Calls Tryz.prog 70 #[.string s,.int .i64 p] w fun x w'=>x=.returned (.tuple #[.int .i64 (dH (ints s) p 1 128 (b % 32)).1,.int .i64 ((dH (ints s) p 1 128 (b % 32)).2:Nat)])/\w=w':=by
 have e0:=Gj s p hp;rw[hb]at e0;have e1:=nX h0;have hpi:(p:Int)<s.size:=by omega
 have em:bits .and .i64 b 31=b % 32:=ZA b h0.1 h0.2;have pX:∀i,0<=aB (ints s) i/\aB (ints s) i<=255:=ou s;have HB:Hid (∀i,0<=aB (ints s) i/\aB (ints s) i<=255):=pX;clear pX;obtain⟨c0,PY⟩:∃c,b % 32=c:=⟨_,rfl⟩;have Eg:0<=c0/\c0<=31:=by omega
 rw[PY]at em ⊢;go_enter Tryz.func70,Tryz.ntmps70;go_wp2
 go_loopw [6,9] (fun c i wr=>∃n:Nat,i=.int .i64 ((n:Int)+1)/\n<=1/\c=.int .i64 (accU (ints s) p c0 n)/\Hid (∀k,k<n->bW (ints s) (p+(k+1))=true)/\wr=w) (fun c i _=>1+1 - (intOf i).toNat)
 case atStart=>exact⟨0,rfl,by omega,rfl,fun k hk=>absurd hk (by omega),rfl⟩
 case round=>
  obtain⟨n,rfl,hn,rfl,HC,rfl⟩:=hrel;have jQ:=wL (ints s) p c0 Eg n (by omega);have Ak:0<=accU (ints s) p c0 n/\accU (ints s) p c0 n<=10000000:=by
   refine⟨jQ.1, ?_⟩;have:(64:Int) ^ n<=64 ^ 3:=by
    have:=Nat.pow_le_pow_right (n:=64) (by decide) (show n<=3 by omega)
    exact_mod_cast this
   omega
  obtain⟨A,hA⟩:∃A,accU (ints s) p c0 n=A:=⟨_,rfl⟩;rw[hA]at Ak ⊢;have HA:Hid (accU (ints s) p c0 n=A):=hA;clear jQ hA
  by_cases Xz:n<1
  ·have Sa:A<=131071:=by
     have h1:=wL (ints s) p c0 Eg n (by omega);rw[HA.out]at h1;have:(64:Int) ^ n<=64 ^ 2:=by
      have:=Nat.pow_le_pow_right (n:=64) (by decide) (show n<=2 by omega)
      exact_mod_cast this
     omega
   have hM1:(n:Int)+1<=1:=by omega
   have XA:Hid (n<1):=Xz;clear Xz
   by_cases Ha:p+(n+1)<s.size
   ·have Sb:(p:Int)+((n:Int)+1)<s.size:=by omega
    have e2:=Gj s (p+(n+1)) Ha;obtain⟨b1,aL⟩:∃b1,aB (ints s) (p+(n+1))=b1:=⟨_,rfl⟩;have xh:=HB.out (p+(n+1));rw[aL]at e2 xh;have a1:=DJ b1 xh.1 xh.2;have a2:=Ki b1 xh.1 xh.2;have a3:=R_ A (b1 % 64) Ak.1 (by omega) (by omega) (by omega)
    by_cases Gl:b1 / 64*64=128
    ·have pq:Hid (bW (ints s) (p+(n+1))=true):=by show _=_;unfold bW;rw[aL];exact decide_eq_true (by omega)
     go_wp2;go_roundw
     case rel=>
      refine⟨n+1,by go_num,by omega, ?_,fun k hk=> ?_,trivial⟩
      ·rw[accU,HA.out,aL]
      ·rcases Nat.lt_or_ge k n with h| h
       ·exact HC.out k h
       ·obtain rfl:k=n:=by omega
        exact pq.out
     case measure=>simp[intOf];omega
    ·have HR:Hid (dH (ints s) p 1 128 c0=(0,0)):=by
       show _=_
       unfold dH;refine if_neg fun h=> ?_;have:=h.1 n XA.out;unfold bW at this;rw[aL]at this;have:=of_decide_eq_true this;omega
     have xk:(b1 / 64*64 !=128)=true:=by simp[Gl]
     go_wp2;go_ret2;rw[HR.out];exact⟨rfl,rfl⟩
   ·have Sb:¬((p:Int)+((n:Int)+1)<s.size):=by omega
    have HR:Hid (dH (ints s) p 1 128 c0=(0,0)):=by
     show _=_
     unfold dH;refine if_neg fun h=> ?_;have h1:=h.1 n XA.out;have h2:aB (ints s) (p+(n+1))=0:=lF s (p+(n+1)) (by omega);unfold bW at h1;rw[h2]at h1;exact absurd (of_decide_eq_true h1) (by decide)
    go_wp2;go_ret2;rw[HR.out];exact⟨rfl,rfl⟩
  ·obtain rfl:n=1:=by omega
   have Hq:=jW A Ak.1
   by_cases hl:128<=A
   ·cases oN:dz A with
    | true=>
     have HR:Hid (dH (ints s) p 1 128 c0=(A,1+1)):=by
      show _=_
      unfold dH;rw[HA.out,if_pos ⟨HC.out,hl,oN⟩]
     rw[oN]at Hq;go_wp2_with(go_at_call 99;refine(Hq _).mono ?_;rintro x w' ⟨rfl,rfl⟩);go_ret2;rw[HR.out];exact⟨rfl,rfl⟩
    | false=>
     have HR:Hid (dH (ints s) p 1 128 c0=(0,0)):=by
      show _=_
      unfold dH;rw[HA.out,if_neg (fun h=>by rw[oN]at h;cases h.2.2)]
     rw[oN]at Hq;go_wp2_with(go_at_call 99;refine(Hq _).mono ?_;rintro x w' ⟨rfl,rfl⟩);go_ret2;rw[HR.out];exact⟨rfl,rfl⟩
   ·have HR:Hid (dH (ints s) p 1 128 c0=(0,0)):=by
      show _=_
      unfold dH;rw[HA.out,if_neg (fun h=>hl h.2.1)]
    go_wp2;go_ret2;rw[HR.out];exact⟨rfl,rfl⟩
theorem Kk(s:ByteArray)(p:Nat)(w:World)(hp:p<s.size)(hs:s.size<=1000000000)(b:Int)(hb:aB (ints s) p=b)(h0:0<=b/\b<=255)(U3:224<=b)(hhi:b<240):
    Calls Tryz.prog 70 #[.string s,.int .i64 p] w fun x w'=>x=.returned (.tuple #[.int .i64 (dH (ints s) p 2 2048 (b % 16)).1,.int .i64 ((dH (ints s) p 2 2048 (b % 16)).2:Nat)])/\w=w':=by
 have e0:=Gj s p hp;rw[hb]at e0;have e1:=nX h0;have hpi:(p:Int)<s.size:=by omega
 have em:bits .and .i64 b 15=b % 16:=ZB b h0.1 h0.2;have pX:∀i,0<=aB (ints s) i/\aB (ints s) i<=255:=ou s;have HB:Hid (∀i,0<=aB (ints s) i/\aB (ints s) i<=255):=pX;clear pX;obtain⟨c0,PY⟩:∃c,b % 16=c:=⟨_,rfl⟩;have Eg:0<=c0/\c0<=31:=by omega
 rw[PY]at em ⊢;go_enter Tryz.func70,Tryz.ntmps70;go_wp2
 go_loopw [6,9] (fun c i wr=>∃n:Nat,i=.int .i64 ((n:Int)+1)/\n<=2/\c=.int .i64 (accU (ints s) p c0 n)/\Hid (∀k,k<n->bW (ints s) (p+(k+1))=true)/\wr=w) (fun c i _=>2+1 - (intOf i).toNat)
 case atStart=>exact⟨0,rfl,by omega,rfl,fun k hk=>absurd hk (by omega),rfl⟩
 case round=>
  obtain⟨n,rfl,hn,rfl,HC,rfl⟩:=hrel;have jQ:=wL (ints s) p c0 Eg n (by omega);have Ak:0<=accU (ints s) p c0 n/\accU (ints s) p c0 n<=10000000:=by
   refine⟨jQ.1, ?_⟩;have:(64:Int) ^ n<=64 ^ 3:=by
    have:=Nat.pow_le_pow_right (n:=64) (by decide) (show n<=3 by omega)
    exact_mod_cast this
   omega
  obtain⟨A,hA⟩:∃A,accU (ints s) p c0 n=A:=⟨_,rfl⟩;rw[hA]at Ak ⊢;have HA:Hid (accU (ints s) p c0 n=A):=hA;clear jQ hA
  by_cases Xz:n<2
  ·have Sa:A<=131071:=by
     have h1:=wL (ints s) p c0 Eg n (by omega);rw[HA.out]at h1;have:(64:Int) ^ n<=64 ^ 2:=by
      have:=Nat.pow_le_pow_right (n:=64) (by decide) (show n<=2 by omega)
      exact_mod_cast this
     omega
   have hM1:(n:Int)+1<=2:=by omega
   have XA:Hid (n<2):=Xz;clear Xz
   by_cases Ha:p+(n+1)<s.size
   ·have Sb:(p:Int)+((n:Int)+1)<s.size:=by omega
    have e2:=Gj s (p+(n+1)) Ha;obtain⟨b1,aL⟩:∃b1,aB (ints s) (p+(n+1))=b1:=⟨_,rfl⟩;have xh:=HB.out (p+(n+1));rw[aL]at e2 xh;have a1:=DJ b1 xh.1 xh.2;have a2:=Ki b1 xh.1 xh.2;have a3:=R_ A (b1 % 64) Ak.1 (by omega) (by omega) (by omega)
    by_cases Gl:b1 / 64*64=128
    ·have pq:Hid (bW (ints s) (p+(n+1))=true):=by show _=_;unfold bW;rw[aL];exact decide_eq_true (by omega)
     go_wp2;go_roundw
     case rel=>
      refine⟨n+1,by go_num,by omega, ?_,fun k hk=> ?_,trivial⟩
      ·rw[accU,HA.out,aL]
      ·rcases Nat.lt_or_ge k n with h| h
       ·exact HC.out k h
       ·obtain rfl:k=n:=by omega
        exact pq.out
     case measure=>simp[intOf];omega
    ·have HR:Hid (dH (ints s) p 2 2048 c0=(0,0)):=by
       show _=_
       unfold dH;refine if_neg fun h=> ?_;have:=h.1 n XA.out;unfold bW at this;rw[aL]at this;have:=of_decide_eq_true this;omega
     have xk:(b1 / 64*64 !=128)=true:=by simp[Gl]
     go_wp2;go_ret2;rw[HR.out];exact⟨rfl,rfl⟩
   ·have Sb:¬((p:Int)+((n:Int)+1)<s.size):=by omega
    have HR:Hid (dH (ints s) p 2 2048 c0=(0,0)):=by
     show _=_
     unfold dH;refine if_neg fun h=> ?_;have h1:=h.1 n XA.out;have h2:aB (ints s) (p+(n+1))=0:=lF s (p+(n+1)) (by omega);unfold bW at h1;rw[h2]at h1;exact absurd (of_decide_eq_true h1) (by decide)
    go_wp2;go_ret2;rw[HR.out];exact⟨rfl,rfl⟩
  ·obtain rfl:n=2:=by omega
   have Hq:=jW A Ak.1
   by_cases hl:2048<=A
   ·cases oN:dz A with
    | true=>
     have HR:Hid (dH (ints s) p 2 2048 c0=(A,2+1)):=by
      show _=_
      unfold dH;rw[HA.out,if_pos ⟨HC.out,hl,oN⟩]
     rw[oN]at Hq;go_wp2_with(go_at_call 99;refine(Hq _).mono ?_;rintro x w' ⟨rfl,rfl⟩);go_ret2;rw[HR.out];exact⟨rfl,rfl⟩
    | false=>
     have HR:Hid (dH (ints s) p 2 2048 c0=(0,0)):=by
      show _=_
      unfold dH;rw[HA.out,if_neg (fun h=>by rw[oN]at h;cases h.2.2)]
     rw[oN]at Hq;go_wp2_with(go_at_call 99;refine(Hq _).mono ?_;rintro x w' ⟨rfl,rfl⟩);go_ret2;rw[HR.out];exact⟨rfl,rfl⟩
   ·have HR:Hid (dH (ints s) p 2 2048 c0=(0,0)):=by
      show _=_
      unfold dH;rw[HA.out,if_neg (fun h=>hl h.2.1)]
    go_wp2;go_ret2;rw[HR.out];exact⟨rfl,rfl⟩
theorem Kl(s:ByteArray)(p:Nat)(w:World)(hp:p<s.size)(hs:s.size<=1000000000)(b:Int)(hb:aB (ints s) p=b)(h0:0<=b/\b<=255)(U3:240<=b)(hhi:b<248):
    Calls Tryz.prog 70 #[.string s,.int .i64 p] w fun x w'=>x=.returned (.tuple #[.int .i64 (dH (ints s) p 3 65536 (b % 8)).1,.int .i64 ((dH (ints s) p 3 65536 (b % 8)).2:Nat)])/\w=w':=by
 have e0:=Gj s p hp;rw[hb]at e0;have e1:=nX h0;have hpi:(p:Int)<s.size:=by omega
 have em:bits .and .i64 b 7=b % 8:=zeE b h0.1 h0.2;have pX:∀i,0<=aB (ints s) i/\aB (ints s) i<=255:=ou s;have HB:Hid (∀i,0<=aB (ints s) i/\aB (ints s) i<=255):=pX;clear pX;obtain⟨c0,PY⟩:∃c,b % 8=c:=⟨_,rfl⟩;have Eg:0<=c0/\c0<=31:=by omega
 rw[PY]at em ⊢;go_enter Tryz.func70,Tryz.ntmps70;go_wp2
 go_loopw [6,9] (fun c i wr=>∃n:Nat,i=.int .i64 ((n:Int)+1)/\n<=3/\c=.int .i64 (accU (ints s) p c0 n)/\Hid (∀k,k<n->bW (ints s) (p+(k+1))=true)/\wr=w) (fun c i _=>3+1 - (intOf i).toNat)
 case atStart=>exact⟨0,rfl,by omega,rfl,fun k hk=>absurd hk (by omega),rfl⟩
 case round=>
  obtain⟨n,rfl,hn,rfl,HC,rfl⟩:=hrel;have jQ:=wL (ints s) p c0 Eg n (by omega);have Ak:0<=accU (ints s) p c0 n/\accU (ints s) p c0 n<=10000000:=by
   refine⟨jQ.1, ?_⟩;have:(64:Int) ^ n<=64 ^ 3:=by
    have:=Nat.pow_le_pow_right (n:=64) (by decide) (show n<=3 by omega)
    exact_mod_cast this
   omega
  obtain⟨A,hA⟩:∃A,accU (ints s) p c0 n=A:=⟨_,rfl⟩;rw[hA]at Ak ⊢;have HA:Hid (accU (ints s) p c0 n=A):=hA;clear jQ hA
  by_cases Xz:n<3
  ·have Sa:A<=131071:=by
     have h1:=wL (ints s) p c0 Eg n (by omega);rw[HA.out]at h1;have:(64:Int) ^ n<=64 ^ 2:=by
      have:=Nat.pow_le_pow_right (n:=64) (by decide) (show n<=2 by omega)
      exact_mod_cast this
     omega
   have hM1:(n:Int)+1<=3:=by omega
   have XA:Hid (n<3):=Xz;clear Xz
   by_cases Ha:p+(n+1)<s.size
   ·have Sb:(p:Int)+((n:Int)+1)<s.size:=by omega
    have e2:=Gj s (p+(n+1)) Ha;obtain⟨b1,aL⟩:∃b1,aB (ints s) (p+(n+1))=b1:=⟨_,rfl⟩;have xh:=HB.out (p+(n+1));rw[aL]at e2 xh;have a1:=DJ b1 xh.1 xh.2;have a2:=Ki b1 xh.1 xh.2;have a3:=R_ A (b1 % 64) Ak.1 (by omega) (by omega) (by omega)
    by_cases Gl:b1 / 64*64=128
    ·have pq:Hid (bW (ints s) (p+(n+1))=true):=by show _=_;unfold bW;rw[aL];exact decide_eq_true (by omega)
     go_wp2;go_roundw
     case rel=>
      refine⟨n+1,by go_num,by omega, ?_,fun k hk=> ?_,trivial⟩
      ·rw[accU,HA.out,aL]
      ·rcases Nat.lt_or_ge k n with h| h
       ·exact HC.out k h
       ·obtain rfl:k=n:=by omega
        exact pq.out
     case measure=>simp[intOf];omega
    ·have HR:Hid (dH (ints s) p 3 65536 c0=(0,0)):=by
       show _=_
       unfold dH;refine if_neg fun h=> ?_;have:=h.1 n XA.out;unfold bW at this;rw[aL]at this;have:=of_decide_eq_true this;omega
     have xk:(b1 / 64*64 !=128)=true:=by simp[Gl]
     go_wp2;go_ret2;rw[HR.out];exact⟨rfl,rfl⟩
   ·have Sb:¬((p:Int)+((n:Int)+1)<s.size):=by omega
    have HR:Hid (dH (ints s) p 3 65536 c0=(0,0)):=by
     show _=_
     unfold dH;refine if_neg fun h=> ?_;have h1:=h.1 n XA.out;have h2:aB (ints s) (p+(n+1))=0:=lF s (p+(n+1)) (by omega);unfold bW at h1;rw[h2]at h1;exact absurd (of_decide_eq_true h1) (by decide)
    go_wp2;go_ret2;rw[HR.out];exact⟨rfl,rfl⟩
  ·obtain rfl:n=3:=by omega
   have Hq:=jW A Ak.1
   by_cases hl:65536<=A
   ·cases oN:dz A with
    | true=>
     have HR:Hid (dH (ints s) p 3 65536 c0=(A,3+1)):=by
      show _=_
      unfold dH;rw[HA.out,if_pos ⟨HC.out,hl,oN⟩]
     rw[oN]at Hq;go_wp2_with(go_at_call 99;refine(Hq _).mono ?_;rintro x w' ⟨rfl,rfl⟩);go_ret2;rw[HR.out];exact⟨rfl,rfl⟩
    | false=>
     have HR:Hid (dH (ints s) p 3 65536 c0=(0,0)):=by
      show _=_
      unfold dH;rw[HA.out,if_neg (fun h=>by rw[oN]at h;cases h.2.2)]
     rw[oN]at Hq;go_wp2_with(go_at_call 99;refine(Hq _).mono ?_;rintro x w' ⟨rfl,rfl⟩);go_ret2;rw[HR.out];exact⟨rfl,rfl⟩
   ·have HR:Hid (dH (ints s) p 3 65536 c0=(0,0)):=by
      show _=_
      unfold dH;rw[HA.out,if_neg (fun h=>hl h.2.1)]
    go_wp2;go_ret2;rw[HR.out];exact⟨rfl,rfl⟩
theorem VH{t:List Int}{p:Nat}(hb:∀i,0<=aB t i/\aB t i<=255)(h1:192<=aB t p)(h2:aB t p<224):bN t p=dH t p 1 128 (aB t p % 32):=by
 have e1:accU t p (aB t p % 32) 1=aB t p % 32*64+aB t (p+1) % 64:=rfl;have q1:=hb (p+1);unfold bN dH;rw[e1,if_neg (by omega)]
 by_cases c1:bW t (p+1)=true
 ·rw[if_pos (by rw[c1,decide_eq_true (show aB t p / 32=6 by omega)];rfl)]
  split
  ·rename_i hl;have oN:dz (aB t p % 32*64+aB t (p+1) % 64)=true:=by
    unfold dz;simp only[Bool.and_eq_true,Bool.or_eq_true,decide_eq_true_eq];omega
   rw[if_pos ⟨fun k hk=>(by obtain rfl:k=0:=(by omega);exact c1),hl,oN⟩]
  ·rename_i hl;rw[if_neg fun h=>hl h.2.1]
 ·rw[if_neg (fun h=>c1 (Bool.and_eq_true _ _ ▸ h:_/\_).2),decide_eq_false (show¬aB t p / 16=14 by omega),decide_eq_false (show¬aB t p / 8=30 by omega)];rw[if_neg (by simp),if_neg (by simp),if_neg fun h=>c1 (h.1 0 (by omega))]
theorem VI{t:List Int}{p:Nat}(h1:224<=aB t p)(h2:aB t p<240):bN t p=dH t p 2 2048 (aB t p % 16):=by
 have e1:accU t p (aB t p % 16) 2=aB t p % 16*4096+aB t (p+1) % 64*64+aB t (p+2) % 64:=by
  show(aB t p % 16*64+aB t (p+1) % 64)*64+aB t (p+2) % 64=_
  omega
 unfold bN dH;rw[e1,if_neg (by omega),decide_eq_false (show¬aB t p / 32=6 by omega),decide_eq_true (show aB t p / 16=14 by omega),decide_eq_false (show¬aB t p / 8=30 by omega),if_neg (by simp)];generalize aB t p % 16*4096+aB t (p+1) % 64*64+aB t (p+2) % 64=A
 by_cases c1:bW t (p+1)=true/\bW t (p+2)=true
 ·rw[if_pos (by rw[c1.1,c1.2];rfl)]
  by_cases hl:2048<=A/\dz A=true
  ·rw[if_pos (by rw[hl.2,decide_eq_true hl.1];rfl),if_pos ⟨fun k hk=>by
     match k,hk with
     | 0,_=>exact c1.1
     | 1,_=>exact c1.2,hl.1,hl.2⟩]
  ·rw[if_neg (fun h=>hl (by simpa using h)),if_neg fun h=>hl h.2]
 ·rw[if_neg (fun h=>c1 (by simpa using h)),if_neg (by simp),if_neg fun h=>c1 ⟨h.1 0 (by omega),h.1 1 (by omega)⟩]
theorem VJ{t:List Int}{p:Nat}(h1:240<=aB t p)(h2:aB t p<248):bN t p=dH t p 3 65536 (aB t p % 8):=by
 have e1:accU t p (aB t p % 8) 3=aB t p % 8*262144+aB t (p+1) % 64*4096+aB t (p+2) % 64*64+aB t (p+3) % 64:=by
  show((aB t p % 8*64+aB t (p+1) % 64)*64+aB t (p+2) % 64)*64+aB t (p+3) % 64=_
  omega
 unfold bN dH;rw[e1,if_neg (by omega),decide_eq_false (show¬aB t p / 32=6 by omega),decide_eq_false (show¬aB t p / 16=14 by omega),decide_eq_true (show aB t p / 8=30 by omega),if_neg (by simp),if_neg (by simp)];generalize aB t p % 8*262144+aB t (p+1) % 64*4096+aB t (p+2) % 64*64+aB t (p+3) % 64=A
 by_cases c1:bW t (p+1)=true/\bW t (p+2)=true/\bW t (p+3)=true
 ·rw[if_pos (by rw[c1.1,c1.2.1,c1.2.2];rfl)]
  by_cases hl:65536<=A/\dz A=true
  ·rw[if_pos (by rw[hl.2,decide_eq_true hl.1];rfl),if_pos ⟨fun k hk=>by
     match k,hk with
     | 0,_=>exact c1.1
     | 1,_=>exact c1.2.1
     | 2,_=>exact c1.2.2,hl.1,hl.2⟩]
  ·rw[if_neg (fun h=>hl (by simpa using h)),if_neg fun h=>hl h.2]
 ·rw[if_neg (fun h=>c1 (by simp at h;exact⟨h.1.1,h.1.2,h.2⟩)),if_neg fun h=>c1 ⟨h.1 0 (by omega),h.1 1 (by omega),h.1 2 (by omega)⟩]
theorem Pp{t:List Int}{p:Nat}(h1:128<=aB t p)(h2:aB t p<192\/ 248<=aB t p):bN t p=(0,0):=by
 unfold bN;rw[if_neg (by omega),decide_eq_false (show¬aB t p / 32=6 by omega),decide_eq_false (show¬aB t p / 16=14 by omega),decide_eq_false (show¬aB t p / 8=30 by omega),if_neg (by simp),if_neg (by simp),if_neg (by simp)]
theorem Sc:Runes:=fun s p w hp hs=>by
 have pX:=ou s;have h0:=pX p
 by_cases c1:aB (ints s) p<128
 ·have e:bN (ints s) p=(aB (ints s) p,1):=by unfold bN;rw[if_pos c1]
  rw[e];exact Pn s p w hp _ rfl h0 c1
 by_cases c2:aB (ints s) p<192\/ 248<=aB (ints s) p
 ·rw[Pp (by omega) c2];exact Po s p w hp _ rfl h0 (by omega) c2
 by_cases c3:aB (ints s) p<224
 ·rw[VH pX (by omega) c3];exact Kj s p w hp hs _ rfl h0 (by omega) c3
 by_cases c4:aB (ints s) p<240
 ·rw[VI (by omega) c4];exact Kk s p w hp hs _ rfl h0 (by omega) c4
 ·rw[VJ (by omega) (by omega)];exact Kl s p w hp hs _ rfl h0 (by omega) (by omega)
end Go.Proofs.YtldegjjaknelgaaGreatDoor

/- A part. -/
import Derived.Test.YtldkblgclochjaaGreatDoorE05
set_option maxRecDepth 100000
set_option maxHeartbeats 16000000
namespace Go.Proofs.YtldkblgclochjaaGreatDoor
open Go.RowKit
def yV(B:Nat)(vk vl:Value)(w:World):Nat->Prop:=fun k=>B<=k/\k<w.heap.size/\vk.ownBlock≠some k/\vl.ownBlock≠some k
structure PI(B R M b:Nat)(WA:World)(ks:List ByteArray)(dF:List J)(vk vl:Value)(wr:World):Prop where
 res:wr.heap[b]?=some (.cells #[.int .i64 0,.int .i64 0,.string ⟨#[]⟩,.slice none 0 0,.slice none 0 0] 25 (0,0))
 keys:wr.ownsRow B 9 1 vk ks.length (ks.map Value.string)
 eD:∃xs,wr.ownsRow B 25 5 vl dF.length xs/\isRow (yV B vk vl wr) wr dF xs
 ne:∀i,vk.ownBlock=some i->vl.ownBlock≠some i
 bf:ag (dU R M) WA wr
 MN:WA.heap.size=B
 rb:R<b
 bm:b<M
 mB:M<B
structure GM(B:Nat)(vk vl:Value)(W:World)(kG iM:Value)(W':World):Prop where
 free:∀k,yV B vk vl W k->yV B kG iM W' k/\W'.heap[k]?=W.heap[k]?
 low:∀k,k<B->W'.heap[k]?=W.heap[k]?
theorem Stood.at{w w':World}{M:Nat}{ks:List ByteArray}(h:Stood w M ks)(e:w'.heap[M]?=w.heap[M]?):Stood w' M ks:=by
 obtain⟨D,⟨es,clock,f,F,j,k⟩,d,c⟩:=h;exact⟨D,⟨es,clock,e.trans f,F,j,k⟩,d,c⟩
section
variable {B R M b : Nat} {WA W W2 : World} {ks : List ByteArray} {dF : List J} {vk vl kG iM : Value}
theorem PI.size(h:PI B R M b WA ks dF vk vl W):B<=W.heap.size:=by have:=h.bf.size;have:=h.MN;omega
theorem PI.two(h:PI B R M b WA ks dF vk vl W)(c:ag (dU R M) W W2):PI B R M b WA ks dF vk vl W2:=by
 have h1:=h.size;have h2:=h.rb;have h3:=h.bm;have h4:=h.mB;have m:=c.size;obtain⟨xs,f,j⟩:=h.eD;refine⟨(c.block _ (by omega) (by unfold dU;omega)).trans h.res,aX h.keys c fun k e=> ?_,⟨xs,aX f c fun k e=> ?_,j.carry fun k d=>⟨⟨d.1,by have:=d.2.1;omega,d.2.2⟩,c.block k d.2.1 ?_⟩⟩,h.ne,h.bf.then c,h.MN,h2,h3,h4⟩
 ·have:=(aJ h.keys k e).1;unfold dU;omega
 ·have:=(aJ f k e).1;unfold dU;omega
 ·have:=d.1;unfold dU;omega
theorem PI.one(h:PI B R M b WA ks dF vk vl W)(c:ag (One R) W W2):PI B R M b WA ks dF vk vl W2:=h.two c.kP
theorem PI.alloc(h:PI B R M b WA ks dF vk vl W)(o:Obj):PI B R M b WA ks dF vk vl (W.alloc o):=h.two ((ag.refl _ _).alloc o)
theorem PI.drew(h:PI B R M b WA ks dF vk vl W):PI B R M b WA ks dF vk vl W.drew:=h.two (ag.refl _ _).drew
theorem GM.bf(f:B<=W.heap.size)(d:ag (fun _=>False) W W2):GM B vk vl W vk vl W2:=
 ⟨fun k c=>⟨⟨c.1,Nat.lt_of_lt_of_le c.2.1 d.size,c.2.2⟩,d.block k c.2.1 fun h=>h⟩,fun k c=>d.block k (by omega) fun h=>h⟩
theorem PI.key(h:PI B R M b WA ks dF vk vl W){x:ByteArray}(E:W2.ownsRow B 9 1 kG (ks.length+1) (ks.map Value.string++ [.string x]))(f:W.grownBy W2 vk.ownBlock)(m:kG.ownBlock=vk.ownBlock\/ kG.ownBlock=some W.heap.size):
    PI B R M b WA (ks++ [x]) dF kG vl W2/\GM B vk vl W kG vl W2:=by
 have h1:=h.size;have h2:=h.rb;have h3:=h.bm;have h4:=h.mB;have G:=f.size;have z:=aJ h.keys;obtain⟨xs,u,F⟩:=h.eD;have A:=aJ u;have low:∀k,k<B->W2.heap[k]?=W.heap[k]?:=fun k c=>f.block k (by omega) fun e=>by have:=(z k e.symm).1;omega
 have free:∀k,yV B vk vl W k->yV B kG vl W2 k/\W2.heap[k]?=W.heap[k]?:=by
  intro k c;refine⟨⟨c.1,by have:=c.2.1;omega,fun e=> ?_,c.2.2.2⟩,f.block k c.2.1 fun e=>c.2.2.1 e.symm⟩
  rcases m with d| d
  ·exact c.2.2.1 (d ▸ e)
  ·rw[d]at e;have:=Option.some.inj e;have:=c.2.1;omega
 refine⟨⟨(low b (by omega)).trans h.res,by rw[List.length_append,List.map_append];exact E,⟨xs,aX u (S:=fun k=>vk.ownBlock=some k) (ag.dt f fun _ _ e=>e) fun k e j=>h.ne k j e,F.carry free⟩, ?_,h.bf.grown f fun k e=>by have:=(z k e).1;have:=h.MN;omega,h.MN,h2,h3,h4⟩,⟨free,low⟩⟩;intro i e j
 rcases m with d| d
 ·exact h.ne i (d ▸ e) j
 ·rw[d]at e;have:=Option.some.inj e;have:=(A i j).2;omega
theorem PI.val(h:PI B R M b WA ks dF vk vl W){y:J}{cs xs:List Value}(z:W.ownsRow B 25 5 vl dF.length xs)(E:isRow (yV B vk vl W) W dF xs)(u:isJ (yV B vk vl W) W y cs)
    (A:W2.ownsRow B 25 5 iM (dF.length+1) (xs++cs)) (f:W.grownBy W2 vl.ownBlock) (m:iM.ownBlock=vl.ownBlock\/ iM.ownBlock=some W.heap.size):
    PI B R M b WA ks (dF++ [y]) vk iM W2/\GM B vk vl W vk iM W2:=by
 have h1:=h.size;have h2:=h.rb;have h3:=h.bm;have h4:=h.mB;have G:=f.size;have F:=aJ h.keys;have x:=aJ z;have low:∀k,k<B->W2.heap[k]?=W.heap[k]?:=fun k c=>f.block k (by omega) fun e=>by have:=(x k e.symm).1;omega
 have free:∀k,yV B vk vl W k->yV B vk iM W2 k/\W2.heap[k]?=W.heap[k]?:=by
  intro k c;refine⟨⟨c.1,by have:=c.2.1;omega,c.2.2.1,fun e=> ?_⟩,f.block k c.2.1 fun e=>c.2.2.2 e.symm⟩
  rcases m with d| d
  ·exact c.2.2.2 (d ▸ e)
  ·rw[d]at e;have:=Option.some.inj e;have:=c.2.1;omega
 refine⟨⟨(low b (by omega)).trans h.res,aX h.keys (S:=fun k=>vl.ownBlock=some k) (ag.dt f fun _ _ e=>e) fun k e j=>h.ne k e j,⟨xs++cs,by rw[List.length_append];exact A,isRow.snoc u.qC (u.carry free) dF xs (E.carry free)⟩, ?_,h.bf.grown f fun k e=>by have:=(x k e).1;have:=h.MN;omega,h.MN,h2,h3,h4⟩,⟨free,low⟩⟩;intro i e j
 rcases m with d| d
 ·exact h.ne i e (d ▸ j)
 ·rw[d]at j;have:=Option.some.inj j;have:=(F i e).2;omega
theorem PI.new{d:World}{y:J}{cs:List Value}(h:PI B R M b WA ks dF vk vl W)(f:isJ (gH W d) d y cs)(o:Obj):isJ (yV B vk vl (d.alloc o)) (d.alloc o) y cs:=by
 have j:=h.size;obtain⟨xs,h1,h2⟩:=h.eD;refine f.carry fun k c=>⟨⟨by have:=c.1;omega,by have:=c.2;simp;omega,fun e=> ?_,fun e=> ?_⟩,Below.heap_alloc _ _ _ c.2⟩
 ·have:=(aJ h.keys k e).2;have:=c.1;omega
 ·have:=(aJ h1 k e).2;have:=c.1;omega
theorem PI.Jl{c:World}(h:PI B R M b WA ks dF vk vl c)(o:Obj):yV B vk vl (c.alloc o) c.heap.size:=by
 have d:=h.size;obtain⟨xs,h1,h2⟩:=h.eD;refine⟨by omega,by simp,fun e=> ?_,fun e=> ?_⟩
 ·have:=(aJ h.keys _ e).2;omega
 ·have:=(aJ h1 _ e).2;omega
end
theorem RX{t:List Int}{ks:List ByteArray}{p q:Nat}{c:ByteArray}(h:ku t ks p=.ok c q):∀k∈ks,k≠c:=by
 intro k d e;subst e;unfold ku at h
 split at h
 ·cases hq:quoted t p with
  | bad e a=>rw[hq]at h;cases h
  | ok s r=>
   rw[hq]at h;simp only[Res.bind]at h
   split at h
   ·cases h
   ·rename_i hn
    cases hm:qz t 58 (aF t r)with
    | bad e a=>rw[hm]at h;cases h
    | ok u v=>
     rw[hm]at h;simp only[Res.ok.injEq]at h
     apply hn
     rw[List.any_eq_true];exact⟨k,d,by rw[h.1];simp⟩
 ·cases h
def MR(B:Nat)(vk vl:Value)(W:World)(n:Nat)(o:Obj):Prop:=yV B vk vl W n/\W.heap[n]?=some o
theorem Vj{B:Nat}{vk vl:Value}{W:World}{n:Nat}{t:TypeId}{y0 y1 y2 y3 y4:Value}(h:MR B vk vl W n (.cells #[y0,y1,y2,y3,y4] t (0,0))):∀j u, [y0,y1,y2,y3,y4][j]?=some u->W.cell? ((⟨n,0,none⟩:Addr).add j)=some u:=by
 intro j u c;have e:(⟨n,0,none⟩:Addr).add j=⟨n,j,none⟩:=by unfold Addr.add;split<;>simp_all
 rw[e];exact aQ (cur:= [y0,y1,y2,y3,y4]) h.2 j u c
theorem Vk{B:Nat}{vk vl:Value}{W:World}{n:Nat}{t:TypeId}{x:Value}(h:MR B vk vl W n (.cells #[x] t (0,0))):∀j u, [x][j]?=some u->W.cell? ((⟨n,0,none⟩:Addr).add j)=some u:=by
 intro j u c;have e:(⟨n,0,none⟩:Addr).add j=⟨n,j,none⟩:=by unfold Addr.add;split<;>simp_all
 rw[e];exact aQ (cur:= [x]) h.2 j u c
structure RS(B R M b:Nat)(WA:World)(ks:List ByteArray)(dF:List J)(vk vl:Value)(s:ByteArray)(q:Nat)(e l:Int)(st:List ByteArray)(y:J)(y0 y1 y2 y3 y4:Value)(nv:Nat)(W:World):Prop where
 pi:PI B R M b WA ks dF vk vl W
 y:isJ (yV B vk vl W) W y [y0,y1,y2,y3,y4]
 Be:MR B vk vl W nv (.cells #[y0,y1,y2,y3,y4] 25 (0,0))
 rdr:fw W R s q e l
 st:Stood W M st
section
variable {B R M b : Nat} {WA W W' : World} {ks ks' : List ByteArray} {dF zdH : List J} {vk vl kG iM : Value} {s : ByteArray} {q : Nat} {e l : Int} {st : List ByteArray} {y : J} {y0 y1 y2 y3 y4 : Value} {nv n : Nat} {o : Obj}
theorem MR.go(h:MR B vk vl W n o)(g:GM B vk vl W kG iM W'):MR B kG iM W' n o:=⟨(g.free n h.1).1,(g.free n h.1).2.trans h.2⟩
theorem RS.go(h:RS B R M b WA ks dF vk vl s q e l st y y0 y1 y2 y3 y4 nv W)(p:PI B R M b WA ks' zdH kG iM W')(g:GM B vk vl W kG iM W'):RS B R M b WA ks' zdH kG iM s q e l st y y0 y1 y2 y3 y4 nv W':=by
 have h1:=p.rb;have h2:=p.bm;have h3:=p.mB;exact⟨p,h.y.carry g.free,h.Be.go g,(g.low R (by omega)).trans h.rdr,h.st.at (g.low M h3)⟩
theorem PI.goes(h:PI B R M b WA ks dF vk vl W)(o:Obj):GM B vk vl W vk vl (W.alloc o):=GM.bf h.size ((ag.refl _ _).alloc o)
theorem RS.alloc(h:RS B R M b WA ks dF vk vl s q e l st y y0 y1 y2 y3 y4 nv W)(o:Obj):RS B R M b WA ks dF vk vl s q e l st y y0 y1 y2 y3 y4 nv (W.alloc o):=h.go (h.pi.alloc o) (h.pi.goes o)
theorem PI.Vl(h:PI B R M b WA ks dF vk vl W)(cs:Array Value)(t:TypeId)(c:W.heap.size=n):MR B vk vl (W.alloc (.cells cs t)) n (.cells cs t (0,0)):=by
 subst c;exact⟨h.Jl _,heap_alloc_new _ _⟩
theorem PI.mapOf{m d:Option Addr}{nk ck nl cl:Nat}(h:PI B R M b WA ks dF (.slice m nk ck) (.slice d nl cl) W)(A:ks.length=dF.length)(G:ks.length<=100000)(z:ks.Pairwise (· ≠ ·)):
    Calls Tryz.prog 81 #[.slice m nk ck,.slice d nl cl] W fun x w'=>∃k i t pk nk ck pl nl cl,x=.returned (.agg #[.int .i64 k,.int .i64 i,.string t,.slice pk nk ck,.slice pl nl cl])/\isJ (fun k=>B<=k/\k<w'.heap.size) w' (Go.Proofs.YtldkblgclochjaaGreatDoor.mapOf ks dF) [.int .i64 k,.int .i64 i,.string t,.slice pk nk ck,.slice pl nl cl]/\Below W.heap.size W w':=by
 have X:=h.size;obtain⟨xs,H,U⟩:=h.eD;obtain⟨V,c1,N,u⟩:=nT h.keys;obtain⟨Y,c2,T,Z,E⟩:=rZ H U
 cases N
 cases T
 have I:isJs (fun k=>B<=k/\k<W.heap.size) W d 0 dF:=E.carry fun k c=>⟨by rcases c with c| c;exact⟨c.1,c.2.1⟩;exact c,rfl⟩;refine(Fg u I A (fun k c=>c.2) G z).mono ?_;rintro x w' ⟨cs,rfl,F,j⟩;have hs:=j.size;have f:isJ (fun k=>B<=k/\k<w'.heap.size) w' (Go.Proofs.YtldkblgclochjaaGreatDoor.mapOf ks dF) cs.toList:=F.carry fun k c=>⟨by
  rcases c with c| c
  ·exact⟨c.1,by have:=c.2;omega⟩
  ·exact⟨by have:=c.1;omega,c.2⟩,rfl⟩
 have S:∃k i t pk nk ck pl nl cl,cs.toList= [.int .i64 k,.int .i64 i,.string t,.slice pk nk ck,.slice pl nl cl]:=by
  have h2:=f;unfold Go.Proofs.YtldkblgclochjaaGreatDoor.mapOf isJ at h2;obtain⟨pk,ck,pl,cl,e,_⟩:=h2;exact⟨_,_,_,_,_,_,_,_,_,e⟩
 obtain⟨k,i,t,pk,nk,ck,pl,nl,cl,e⟩:=S;have K:cs=#[.int .i64 k,.int .i64 i,.string t,.slice pk nk ck,.slice pl nl cl]:=by rw[<-Array.toList_inj];exact e
 rw[e]at f;exact⟨k,i,t,pk,nk,ck,pl,nl,cl,by rw[K],f,j⟩
end
theorem Eo{ks:List ByteArray}{c:ByteArray}(h:ks.Pairwise (· ≠ ·))(j:∀k∈ks,k≠c):(ks++ [c]).Pairwise (· ≠ ·):=by
 rw[List.pairwise_append];exact⟨h,List.pairwise_singleton _ _,fun a d b f=>by rw[List.mem_singleton.1 f];exact j a d⟩
abbrev atP(w:World)(R p:Nat):World:=(w.setCell ⟨R,1,none⟩ (.int .i64 ((p:Int)+1))).alloc zJ
theorem Jm(w:World)(R p:Nat):ag (One R) w (atP w R p):=(fw.setAt w R (p+1)).alloc _
theorem Qa{w c:World}{R p:Nat}(d:R<w.heap.size)(f:ag (One R) (atP w R p) c):c.heap[w.heap.size]?=some (.cells #[.int .i64 0,.int .i64 0,.string ⟨#[]⟩,.slice none 0 0,.slice none 0 0] 25 (0,0)):=by
 have:=bW f (by simpa using d);rw[show(w.setCell ⟨R,1,none⟩ (.int .i64 ((p:Int)+1))).heap.size=w.heap.size by simp]at this;exact this
theorem PI.start{w c:World}{R p:Nat}(d:R<w.heap.size)(f:ag (One R) (atP w R p) c):PI (c.heap.size+1) R c.heap.size w.heap.size (c.alloc (.map #[] 0)) [] [] (.slice none 0 0) (.slice none 0 0) (c.alloc (.map #[] 0)):=by
 have h:(w.heap.size+1)<=c.heap.size:=by have:=f.size;simp at this;exact this
 refine⟨?_,World.ownsRow_nil _ _ _ _,⟨[],World.ownsRow_nil _ _ _ _,rfl⟩,fun i e=>(by cases e),ag.refl _ _,by simp,d,by omega,by omega⟩;rw[Below.heap_alloc _ _ _ (by omega)];exact Qa d f
theorem PI.end{w c W5 wr:World}{R p:Nat}{ks:List ByteArray}{dF:List J}{vk vl:Value}(h:PI (c.heap.size+1) R c.heap.size w.heap.size (c.alloc (.map #[] 0)) ks dF vk vl wr)(f:ag (One R) (atP w R p) c)(u:ag (One w.heap.size) wr W5):ag (One R) w W5:=by
 have x:(w.heap.size+1)<=c.heap.size:=by have:=f.size;simp at this;exact this
 have m:ag (One R) w (c.alloc (.map #[] 0)):=((Jm w R p).then f).alloc _;have j:ag (One R) w wr:=m.trans h.bf fun i k d=>by
  rcases d with d| d
  ·exact d
  ·omega
 exact j.trans u fun i k d=>by unfold One at d;omega
theorem GN{w d W5:World}{M:Nat}{j:J}{cs:List Value}(m:w.heap.size<M)(f:ag (One w.heap.size) d W5)(h:isJ (fun k=>M+1<=k/\k<d.heap.size) d j cs):isJ (gH w W5) W5 j cs:=by
 have u:=f.size;exact h.carry fun k c=>⟨⟨by have:=c.1;omega,by have:=c.2;omega⟩,f.block k c.2 (by unfold One;have:=c.1;omega)⟩
theorem RY{d:Nat}(V:Reads d){w:World}{R p:Nat}{s:ByteArray}{e l deep:Int}(hr:fw w R s p e l)(hs:short s)(hp:p<s.size)(lq:deep=12 - (d:Int))(hd:d<=12):
    Calls Tryz.prog 124 #[.pointer (some ⟨R,0,none⟩),.int .i64 deep] w fun x w'=>xL w w' R s (iT (ints s) (value (ints s) d) p) x:=by
 have fI:=hs;unfold short at fI;have hR:=hr.lt;have En:0<=deep:=by omega
 have rQ:deep<=12:=by omega
 have HD:Hid (deep=12 - (d:Int)):=lq;clear lq;have c1:=hr.c1;have f1:=hr.fz 1;have Uu:fw (atP w R p) R s (p+1) e l:=(hr.at (p+1)).bf (S:=fun _=>False) ((ag.refl _ _).alloc _) (fun h=>h);have zZ:=fP (t:=ints s) (p:=p+1) (by rw[ax];exact hp);rw[ax]at zZ;unfold atP zJ at Uu
 by_cases YJ:ah (ints s) (aF (ints s) (p+1))=125
 ·have HL:Hid (iT (ints s) (value (ints s) d) p=.ok (.mk 5 0 aH [] []) (aF (ints s) (p+1)+1)):=by unfold iT;rw[if_pos YJ];rfl
  go_enter Tryz.func124,Tryz.ntmps124;go_wp2_with(first
   | (go_at_call 90;refine(bD Uu hs hp).mono ?_;rintro x Y ⟨rfl,⟨⟨e2,l2,rY⟩,jk⟩⟩)
   | (go_at_call 146;refine(jO rY (by omega) 125 YJ).mono ?_;rintro x w3 ⟨rfl,⟨⟨e3,l3,iL⟩,fB⟩⟩
      have bq:=Qa hR (jk.then fB);obtain⟨i0,i1,i2,i3,i4⟩:=aj bq;obtain⟨z0,z1,z2,z3,z4⟩:=aN bq))
  have h5:=aK bq (.int .i64 5) (.int .i64 0) (.string ⟨#[]⟩) (.slice none 0 0) (.slice none 0 0);have f:ag (One w.heap.size) w3 _:=aI w3 w.heap.size (.int .i64 5) (.int .i64 0) (.string ⟨#[]⟩) (.slice none 0 0) (.slice none 0 0);unfold di at h5 f;obtain⟨k0,k1,k2,k3,k4⟩:=aj h5;refine bodyPost_ret (v:=.tuple #[.agg #[.int .i64 5,.int .i64 0,.string ⟨#[]⟩,.slice none 0 0,.slice none 0 0],.bool true]) (by simp[results,Tryz.results124,go_sem,k0,k1,k2,k3,k4]) rfl ?_;rw[HL.out];exact⟨⟨_,_,_,_,_,_,_,_,_,rfl,ni _ _ 5 0 aH⟩,⟨_,_,iL.bf f (fun h=>by unfold One at h;omega)⟩,(((Jm w R p).then jk).then fB).trans f fun i hi h'=>by unfold One at h';omega⟩
 ·have HL:Hid (iT (ints s) (value (ints s) d) p=pairsL (ints s) (value (ints s) d) (s.size+1) (aF (ints s) (p+1)) [] []):=by unfold iT;rw[if_neg YJ,ax];rfl
  have hmm:= @run_makeMap Tryz.prog;go_enter Tryz.func124,Tryz.ntmps124;go_wp2_with(first
   | (go_at_call 90;refine(bD Uu hs hp).mono ?_;rintro x Y ⟨rfl,⟨⟨e2,l2,rY⟩,jk⟩⟩)
   | (go_at_call 146;refine(jl rY 125 YJ).mono ?_;rintro x w' ⟨rfl,rfl⟩))
  have zbA:=PI.start (p:=p) hR jk;have Vm:ag (One R) (atP w R p) Y:=jk;have zdI:=Stood.made Y;have zV:fw (Y.alloc (.map #[] 0)) R s (aF (ints s) (p+1)) e2 l2:=rY.bf (S:=fun _=>False) ((ag.refl _ _).alloc _) (fun h=>h);have hMw:=zbA.bm
  go_loopw [6,7] (fun vk vl wr=>∃(q m:Nat) (ks:List ByteArray) (dF:List J),q<=s.size/\s.size<q+m/\ks.length<=q/\ks.length=dF.length/\ks.Pairwise (· ≠ ·)/\pairsL (ints s) (value (ints s) d) m q ks dF=iT (ints s) (value (ints s) d) p/\PI (Y.heap.size+1) R Y.heap.size w.heap.size (Y.alloc (.map #[] 0)) ks dF vk vl wr/\Stood wr Y.heap.size ks/\∃e l,fw wr R s q e l) (fun _ _ wr=>s.size - posOf R wr)
  case atStart=>exact⟨_,s.size+1, [], [],zZ,by omega,by simp,rfl,List.Pairwise.nil,HL.out.symm,zbA,zdI,_,_,zV⟩
  case round=>
   clear hmm zbA jk rY HL Uu c1 f1 zdI zV;obtain⟨q,m,ks,dF,hq,hm,Zl,cB,Ad,hx,YK,lM,e1,l1,lY⟩:=hrel;have Uv:=gp YK.keys;obtain⟨xs0,Ae,_⟩:=YK.eD;have Ae:=gp Ae;obtain⟨sk1,sk2,sk3,rfl⟩:=Uv;obtain⟨sl1,sl2,sl3,rfl⟩:=Ae;have Jn:Hid (ks.length=dF.length):=cB;have zdJ:Hid (ks.Pairwise (· ≠ ·)):=Ad;clear cB Ad;have bK:=fP (t:=ints s) (p:=q) (by rw[ax];exact hq);have o7:=iq (ints s) q;rw[ax]at bK;have Qb:=E5 (ks:=ks) (t:=ints s) (p:=aF (ints s) q) (by rw[ax];exact bK);have u:=fun(wv:World) (e l:Int) (h:fw wv R s (aF (ints s) q) e l) (lM:Stood wv Y.heap.size ks)=>Zp h hs lM (by omega) (by omega);obtain⟨m,rfl⟩:∃m',m=m'+1:=⟨m - 1,by omega⟩;have A:Hid (pairsL (ints s) (value (ints s) d) (m+1) q ks dF=iT (ints s) (value (ints s) d) p):=hx;clear hx;unfold pairsL at A;have Rw:=h_ lY
   cases hkv:ku (ints s) ks (aF (ints s) q)with
   | bad er la=>
    rw[hkv]at A u;go_wp2_with(first
     | (go_at_call 90;refine(bD lY hs hq).mono ?_;rintro x w3 ⟨rfl,⟨⟨e3,l3,iL⟩,fB⟩⟩)
     | (go_at_call 147;refine(u _ _ _ iL (lM.bf fB (by unfold One;omega))).mono ?_;rintro x w3b ⟨rfl,⟨q3b,Vn⟩,Vo⟩
        have GQ:=(YK.one fB).two Vo;obtain⟨i0,i1,i2,i3,i4⟩:=aj GQ.res;obtain⟨z0,z1,z2,z3,z4⟩:=aN GQ.res))
    have h5:=aK GQ.res (.int .i64 0) (.int .i64 0) (.string ⟨#[]⟩) (.slice none 0 0) (.slice none 0 0);have f:ag (One w.heap.size) w3b _:=aI w3b w.heap.size (.int .i64 0) (.int .i64 0) (.string ⟨#[]⟩) (.slice none 0 0) (.slice none 0 0);unfold di at h5 f;obtain⟨k0,k1,k2,k3,k4⟩:=aj h5;refine bodyPost_ret (v:=.tuple #[.agg #[.int .i64 0,.int .i64 0,.string ⟨#[]⟩,.slice none 0 0,.slice none 0 0],.bool false]) (by simp[results,Tryz.results124,go_sem,k0,k1,k2,k3,k4]) rfl ?_;rw[<-A.out];exact⟨⟨0,0,aH,rfl⟩,⟨_,Vn.bf f (fun h=>by unfold One at h;omega)⟩,GQ.end Vm f⟩
   | ok c qk=>
    have Zu:Hid (∀k∈ks,k≠c):=RX hkv;rw[hkv]at A u Qb;have hqk:=Qb.2;have zhl:=Qb.1;rw[ax]at hqk;clear Qb;have nL:=qG (ints s) d qk (by rw[ax];exact hqk);have hV:=fun(wv:World) (e l:Int) (h:fw wv R s qk e l)=>V wv R qk s e l (deep+1) h hs hqk (by have:=HD.out;omega)
    cases hv:value (ints s) d qk with
    | bad er la=>
     have A:Hid ((value (ints s) d qk).bind _=iT (ints s) (value (ints s) d) p):=A;rw[hv]at A hV;go_wp2_with(first
      | (go_at_call 90;refine(bD lY hs hq).mono ?_;rintro x w3 ⟨rfl,⟨⟨e3,l3,iL⟩,fB⟩⟩)
      | (go_at_call 147;refine(u _ _ _ iL (lM.bf fB (by unfold One;omega))).mono ?_;rintro x w3b ⟨rfl,⟨e3b,l3b,Vn⟩,Vp,Vo⟩)
      | (go_at_call 91;refine(hV _ _ _ Vn).mono ?_;rintro x w4 ⟨⟨E,H,G,rfl⟩,⟨q4,Jf⟩,uF⟩
         unfold flat;have MS:=(((YK.one fB).two Vo).one uF).alloc (.cells #[.int .i64 E,.int .i64 H,.string G,.slice none 0 0,.slice none 0 0] 25);have AO:fw (w4.alloc (.cells #[.int .i64 E,.int .i64 H,.string G,.slice none 0 0,.slice none 0 0] 25)) R s q4 er la:=Jf.bf (S:=fun _=>False) ((ag.refl _ _).alloc _) (fun h=>h);obtain⟨i0,i1,i2,i3,i4⟩:=aj MS.res;obtain⟨z0,z1,z2,z3,z4⟩:=aN MS.res))
     have h5:=aK MS.res (.int .i64 0) (.int .i64 0) (.string ⟨#[]⟩) (.slice none 0 0) (.slice none 0 0);have f:ag (One w.heap.size) (w4.alloc (.cells #[.int .i64 E,.int .i64 H,.string G,.slice none 0 0,.slice none 0 0] 25)) _:=aI (w4.alloc (.cells #[.int .i64 E,.int .i64 H,.string G,.slice none 0 0,.slice none 0 0] 25)) w.heap.size (.int .i64 0) (.int .i64 0) (.string ⟨#[]⟩) (.slice none 0 0) (.slice none 0 0);unfold di at h5 f;obtain⟨k0,k1,k2,k3,k4⟩:=aj h5;refine bodyPost_ret (v:=.tuple #[.agg #[.int .i64 0,.int .i64 0,.string ⟨#[]⟩,.slice none 0 0,.slice none 0 0],.bool false]) (by simp[results,Tryz.results124,go_sem,k0,k1,k2,k3,k4]) rfl ?_;rw[<-A.out];exact⟨⟨0,0,aH,rfl⟩,⟨_,AO.bf f (fun h=>by unfold One at h;omega)⟩,MS.end Vm f⟩
    | ok y qy=>
     have A:Hid ((value (ints s) d qk).bind _=iT (ints s) (value (ints s) d) p):=A;rw[hv]at A hV nL;have A:Hid ((if ah (ints s) (aF (ints s) qy)=125 then .ok (mapOf (ks++ [c]) (dF++ [y])) (aF (ints s) qy+1)else if ah (ints s) (aF (ints s) qy)=44 then pairsL (ints s) (value (ints s) d) m (aF (ints s) qy+1) (ks++ [c]) (dF++ [y])else .bad 11 (aF (ints s) qy))=iT (ints s) (value (ints s) d) p):=A;have Jk:=nL.2;have zfV:=nL.1;rw[ax]at Jk;have bO:=fP (t:=ints s) (p:=qy) (by rw[ax];exact Jk);rw[ax]at bO;have dh:=iq (ints s) qy;clear nL;go_wp2_with(first
      | (go_at_call 90;refine(bD lY hs hq).mono ?_;rintro x w3 ⟨rfl,⟨⟨e3,l3,iL⟩,fB⟩⟩)
      | (go_at_call 147;refine(u _ _ _ iL (lM.bf fB (by unfold One;omega))).mono ?_;rintro x w3b ⟨rfl,⟨e3b,l3b,Vn⟩,Vp,Vo⟩)
      | (go_at_call 91;refine(hV _ _ _ Vn).mono ?_;rintro x w4 ⟨⟨E,H,G,pk,nk,ck,pl,nl,cl,rfl,hj⟩,⟨e4,l4,Jf⟩,uF⟩
         have GQ:=(YK.one fB).two Vo;have RL:=GQ.new hj (.cells #[.int .i64 E,.int .i64 H,.string G,.slice pk nk ck,.slice pl nl cl] 25);have hfr:=(GQ.one uF).Jl (.cells #[.int .i64 E,.int .i64 H,.string G,.slice pk nk ck,.slice pl nl cl] 25);have gT:(w4.alloc (.cells #[.int .i64 E,.int .i64 H,.string G,.slice pk nk ck,.slice pl nl cl] 25)).heap[w4.heap.size]?=some (.cells #[.int .i64 E,.int .i64 H,.string G,.slice pk nk ck,.slice pl nl cl] 25 (0,0)):=heap_alloc_new _ _;have MS:=(GQ.one uF).alloc (.cells #[.int .i64 E,.int .i64 H,.string G,.slice pk nk ck,.slice pl nl cl] 25);have AO:fw (w4.alloc (.cells #[.int .i64 E,.int .i64 H,.string G,.slice pk nk ck,.slice pl nl cl] 25)) R s qy e4 l4:=Jf.bf (S:=fun _=>False) ((ag.refl _ _).alloc _) (fun h=>h);have zdK:Stood (w4.alloc (.cells #[.int .i64 E,.int .i64 H,.string G,.slice pk nk ck,.slice pl nl cl] 25)) Y.heap.size (ks++ [c]):=(Vp.bf uF (by unfold One;omega)).at (Below.heap_alloc _ _ _ (by have:=(Vp.bf uF (by unfold One;omega)).lt;omega))))
     have HL2:Hid ((ks++ [c]).length=(dF++ [y]).length):=by have:=Jn.out;simp;omega
     have Vq:Hid ((ks++ [c]).Pairwise (· ≠ ·)):=Eo zdJ.out Zu.out;have Vr:RS (Y.heap.size+1) R Y.heap.size w.heap.size (Y.alloc (.map #[] 0)) ks dF (.slice sk1 sk2 sk3) (.slice sl1 sl2 sl3) s qy e4 l4 (ks++ [c]) y (.int .i64 E) (.int .i64 H) (.string G) (.slice pk nk ck) (.slice pl nl cl) w4.heap.size (w4.alloc (.cells #[.int .i64 E,.int .i64 H,.string G,.slice pk nk ck,.slice pl nl cl] 25)):=⟨MS,RL,⟨hfr,gT⟩,AO,zdK⟩;have Vr:=Vr.go Vr.pi.drew (GM.bf Vr.pi.size (ag.refl _ _).drew);clear GQ RL hfr gT MS AO zdK;refine aD (by kernel_rfl) (fun w'=>w'.heap[w4.heap.size]?=some (.cells #[.int .i64 E,.int .i64 H,.string G,.slice pk nk ck,.slice pl nl cl] 25 (0,0))) ?_;change wpIn _ _ _ _ _ _ _ _ (World.drew _);generalize (w4.alloc (.cells #[.int .i64 E,.int .i64 H,.string G,.slice pk nk ck,.slice pl nl cl] 25)).drew=W0 at Vr ⊢;generalize w4.heap.size=nv at Vr ⊢;have fM:=Vr.Be.2;have Z:=Vr.alloc (.cells #[.string c] 9);have lsK:=Vr.pi.Vl #[.string c] 9 rfl;have hCK:=Z.Be.2;have rsJ:=Vr.alloc (.cells #[.int .i64 E,.int .i64 H,.string G,.slice pk nk ck,.slice pl nl cl] 25);have lsJ:=Vr.pi.Vl #[.int .i64 E,.int .i64 H,.string G,.slice pk nk ck,.slice pl nl cl] 25 rfl;have hCJ:=rsJ.Be.2;have Vs:=Z.alloc (.cells #[.int .i64 E,.int .i64 H,.string G,.slice pk nk ck,.slice pl nl cl] 25);have zfW:=Z.pi.Vl (n:=W0.heap.size+1) #[.int .i64 E,.int .i64 H,.string G,.slice pk nk ck,.slice pl nl cl] 25 (by simp);have zdL:=lsK.go (Z.pi.goes (.cells #[.int .i64 E,.int .i64 H,.string G,.slice pk nk ck,.slice pl nl cl] 25));have zfX:=Vs.Be.2;have Vt:=rsJ.alloc (.cells #[.string c] 9);have zfY:=rsJ.pi.Vl (n:=W0.heap.size+1) #[.string c] 9 (by simp);have zdM:=lsJ.go (rsJ.pi.goes (.cells #[.string c] 9));have zfZ:=Vt.Be.2;refine aa (i:=0) (d:=some 46) rfl ?_;refine aa (i:=1) (d:=some 47) rfl ?_;refine aa (i:=4) (d:=some 50) rfl ?_;refine aC (i:=5) (d:=some 51) rfl (by(intro wq hq;obtain⟨q0,q1,q2,q3,q4⟩:=aj hq;go_simp;first| done| with_reducible rfl)) ?_;refine bR (i:=2) (j:=6) fM (by kernel_rfl) rfl rfl (by rfl) (by rfl) ?_ ?_
     ·skip
      intro K u;go_simp;refine u _ _ ?_;clear u K;refine bR (i:=3) (j:=6) hCK (by kernel_rfl) rfl rfl (by rfl) (by rfl) ?_ ?_
      ·skip
       intro K u;refine aP (.tmp 46) (.tmp 48) 22 rfl (Y.heap.size+1) 9 (.string ⟨#[]⟩) 1 16 Tryz.underlying22 Tryz.jM rfl (by decide) (by decide) _ ks.length (ks.map Value.string) rfl Z.pi.keys _ [.string c] rfl rfl (Vk lsK) (lN c) (by omega) Z.pi.size ?_;intro P8 WK uH hgK Jo;refine u _ _ ?_;clear u K;obtain⟨qk5,MU,ck5,xc⟩:=gp uH;subst xc;have F:=Z.pi.key uH hgK Jo;have rs2:=Z.go F.1 F.2;have Md:=F.2;clear uH hgK Jo F;have mH:=rs2.Be.2;refine av (i:=6) mH rfl ?_;intro K u;go_simp;refine u _ _ ?_;clear u K;have X:=rs2.alloc (.cells #[.int .i64 E,.int .i64 H,.string G,.slice pk nk ck,.slice pl nl cl] 25);have ls3:=rs2.pi.Vl #[.int .i64 E,.int .i64 H,.string G,.slice pk nk ck,.slice pl nl cl] 25 rfl;have kE:=X.Be.2;refine av (i:=7) kE rfl ?_;intro K u;obtain⟨xs,cK,fC⟩:=X.pi.eD;refine aP (.tmp 50) (.tmp 52) 23 rfl (Y.heap.size+1) 25 (.agg #[.int .i64 0,.int .i64 0,.string ⟨#[]⟩,.slice none 0 0,.slice none 0 0]) 5 80 Tryz.underlying23 Tryz.eB rfl (by decide) (by decide) _ dF.length xs rfl cK _ [.int .i64 E,.int .i64 H,.string G,.slice pk nk ck,.slice pl nl cl] rfl rfl (Vj ls3) MQ (by have:=Jn.out;omega) X.pi.size ?_;intro oh WV uI hgV Jp;refine u _ _ ?_;clear u K;obtain⟨ql5,nl5,cl5,xc⟩:=gp uI;subst xc;have F:=X.pi.val cK fC X.y uI hgV Jp;have Jq:=X.go F.1 F.2;have hCF:=Jq.Be.2;clear uI hgV Jp F cK fC;refine aa (i:=8) (d:=some 6) rfl ?_;refine aa (i:=9) (d:=some 7) rfl ?_;refine aB hCF (by kernel_rfl) ?_ _;have Cn:=Jq.pi;have Vu:=Jq.rdr;have Vv:=Jq.st;clear hCF Jq
       by_cases h9:ah (ints s) (aF (ints s) qy)=125
       ·rw[if_pos h9]at A;go_wp2_with(first
         | (go_at_call 90;refine(bD Vu hs Jk).mono ?_;rintro x w6 ⟨rfl,⟨⟨e6,l6,I⟩,U⟩⟩)
         | (go_at_call 146;refine(jO I (by omega) 125 h9).mono ?_;rintro x w7 ⟨rfl,⟨⟨e7,l7,T⟩,N⟩⟩
            have z:=(Cn.one U).one N)
         | (go_at_call 81;refine(z.mapOf HL2.out (by simp;omega) Vq.out).mono ?_;rintro x w8 ⟨kf,jf,tf,Vw,Vx,Vy,Vz,VA,VB,rfl,hJf,qj⟩
            have oJ:=(qj.block _ (Array.getElem?_eq_some_iff.1 z.res).1).trans z.res;obtain⟨i0,i1,i2,i3,i4⟩:=aj oJ;obtain⟨z0,z1,z2,z3,z4⟩:=aN oJ))
        have h5:=aK oJ (.int .i64 kf) (.int .i64 jf) (.string tf) (.slice Vw Vx Vy) (.slice Vz VA VB);have f:ag (One w.heap.size) w8 _:=aI w8 w.heap.size (.int .i64 kf) (.int .i64 jf) (.string tf) (.slice Vw Vx Vy) (.slice Vz VA VB);unfold di at h5 f;obtain⟨k0,k1,k2,k3,k4⟩:=aj h5;refine bodyPost_ret (v:=.tuple #[.agg #[.int .i64 kf,.int .i64 jf,.string tf,.slice Vw Vx Vy,.slice Vz VA VB],.bool true]) (by simp[results,Tryz.results124,go_sem,k0,k1,k2,k3,k4]) rfl ?_;rw[<-A.out];have hK8:ag (One w.heap.size) w7 _:=(ag.fJ qj).then f;exact⟨⟨_,_,_,_,_,_,_,_,_,rfl,GN hMw f hJf⟩,⟨_,_,(T.bf (S:=fun _=>False) (ag.fJ qj) (fun h=>h)).bf f (fun h=>by unfold One at h;omega)⟩,z.end Vm hK8⟩
       ·rw[if_neg h9]at A
        by_cases Cm:ah (ints s) (aF (ints s) qy)=44
        ·rw[if_pos Cm]at A;have bQ:=bz (t:=ints s) (p:=aF (ints s) qy) (by rw[Cm];decide);rw[ax]at bQ;go_wp2_with(first
          | (go_at_call 90;refine(bD Vu hs Jk).mono ?_;rintro x w6 ⟨rfl,⟨⟨e6,l6,I⟩,U⟩⟩)
          | (go_at_call 146;refine(jl I 125 h9).mono ?_;rintro x w' ⟨rfl,rfl⟩)
          | (go_at_call 143;refine(qH I (by omega) 44 Cm).mono ?_;rintro x w7 ⟨rfl,⟨⟨e7,l7,T⟩,N⟩⟩
             have z:=(Cn.one U).one N;have VC:=(Vv.bf U (by unfold One;omega)).bf N (by unfold One;omega)))
         have HP:=h_ T;go_roundw
         case rel=>exact⟨_,m,ks++ [c],dF++ [y],bQ,by omega,by simp;omega,HL2.out,Vq.out,A.out,z,VC,_,_,T⟩
         case measure=>rw[HP,Rw];omega
        ·rw[if_neg Cm]at A;go_wp2_with(first
          | (go_at_call 90;refine(bD Vu hs Jk).mono ?_;rintro x w6 ⟨rfl,⟨⟨e6,l6,I⟩,U⟩⟩)
          | (go_at_call 146;refine(jl I 125 h9).mono ?_;rintro x w' ⟨rfl,rfl⟩)
          | (go_at_call 143;refine(vo I 44 Cm).mono ?_;rintro x w7 ⟨rfl,⟨⟨q7,T⟩,N⟩⟩
             have z:=(Cn.one U).one N;obtain⟨i0,i1,i2,i3,i4⟩:=aj z.res;obtain⟨z0,z1,z2,z3,z4⟩:=aN z.res))
         have h5:=aK z.res (.int .i64 0) (.int .i64 0) (.string ⟨#[]⟩) (.slice none 0 0) (.slice none 0 0);have f:ag (One w.heap.size) w7 _:=aI w7 w.heap.size (.int .i64 0) (.int .i64 0) (.string ⟨#[]⟩) (.slice none 0 0) (.slice none 0 0);unfold di at h5 f;obtain⟨k0,k1,k2,k3,k4⟩:=aj h5;refine bodyPost_ret (v:=.tuple #[.agg #[.int .i64 0,.int .i64 0,.string ⟨#[]⟩,.slice none 0 0,.slice none 0 0],.bool false]) (by simp[results,Tryz.results124,go_sem,k0,k1,k2,k3,k4]) rfl ?_;rw[<-A.out];exact⟨⟨0,0,aH,rfl⟩,⟨_,T.bf f (fun h=>by unfold One at h;omega)⟩,z.end Vm f⟩
      ·skip
       intro K u;go_simp;refine u _ _ ?_;clear u K;refine av (i:=3) zfX rfl ?_;intro K u;refine aP (.tmp 46) (.tmp 48) 22 rfl (Y.heap.size+1) 9 (.string ⟨#[]⟩) 1 16 Tryz.underlying22 Tryz.jM rfl (by decide) (by decide) _ ks.length (ks.map Value.string) rfl Vs.pi.keys _ [.string c] rfl rfl (Vk zdL) (lN c) (by omega) Vs.pi.size ?_;intro P8 WK uH hgK Jo;refine u _ _ ?_;clear u K;obtain⟨qk5,MU,ck5,xc⟩:=gp uH;subst xc;have F:=Vs.pi.key uH hgK Jo;have X:=Vs.go F.1 F.2;have Md:=F.2;clear uH hgK Jo F;have ls3:=zfW.go Md;have kE:=X.Be.2;refine av (i:=7) kE rfl ?_;intro K u;obtain⟨xs,cK,fC⟩:=X.pi.eD;refine aP (.tmp 50) (.tmp 52) 23 rfl (Y.heap.size+1) 25 (.agg #[.int .i64 0,.int .i64 0,.string ⟨#[]⟩,.slice none 0 0,.slice none 0 0]) 5 80 Tryz.underlying23 Tryz.eB rfl (by decide) (by decide) _ dF.length xs rfl cK _ [.int .i64 E,.int .i64 H,.string G,.slice pk nk ck,.slice pl nl cl] rfl rfl (Vj ls3) MQ (by have:=Jn.out;omega) X.pi.size ?_;intro oh WV uI hgV Jp;refine u _ _ ?_;clear u K;obtain⟨ql5,nl5,cl5,xc⟩:=gp uI;subst xc;have F:=X.pi.val cK fC X.y uI hgV Jp;have Jq:=X.go F.1 F.2;have hCF:=Jq.Be.2;clear uI hgV Jp F cK fC;refine aa (i:=8) (d:=some 6) rfl ?_;refine aa (i:=9) (d:=some 7) rfl ?_;refine aB hCF (by kernel_rfl) ?_ _;have Cn:=Jq.pi;have Vu:=Jq.rdr;have Vv:=Jq.st;clear hCF Jq
       by_cases h9:ah (ints s) (aF (ints s) qy)=125
       ·rw[if_pos h9]at A;go_wp2_with(first
         | (go_at_call 90;refine(bD Vu hs Jk).mono ?_;rintro x w6 ⟨rfl,⟨⟨e6,l6,I⟩,U⟩⟩)
         | (go_at_call 146;refine(jO I (by omega) 125 h9).mono ?_;rintro x w7 ⟨rfl,⟨⟨e7,l7,T⟩,N⟩⟩
            have z:=(Cn.one U).one N)
         | (go_at_call 81;refine(z.mapOf HL2.out (by simp;omega) Vq.out).mono ?_;rintro x w8 ⟨kf,jf,tf,Vw,Vx,Vy,Vz,VA,VB,rfl,hJf,qj⟩
            have oJ:=(qj.block _ (Array.getElem?_eq_some_iff.1 z.res).1).trans z.res;obtain⟨i0,i1,i2,i3,i4⟩:=aj oJ;obtain⟨z0,z1,z2,z3,z4⟩:=aN oJ))
        have h5:=aK oJ (.int .i64 kf) (.int .i64 jf) (.string tf) (.slice Vw Vx Vy) (.slice Vz VA VB);have f:ag (One w.heap.size) w8 _:=aI w8 w.heap.size (.int .i64 kf) (.int .i64 jf) (.string tf) (.slice Vw Vx Vy) (.slice Vz VA VB);unfold di at h5 f;obtain⟨k0,k1,k2,k3,k4⟩:=aj h5;refine bodyPost_ret (v:=.tuple #[.agg #[.int .i64 kf,.int .i64 jf,.string tf,.slice Vw Vx Vy,.slice Vz VA VB],.bool true]) (by simp[results,Tryz.results124,go_sem,k0,k1,k2,k3,k4]) rfl ?_;rw[<-A.out];have hK8:ag (One w.heap.size) w7 _:=(ag.fJ qj).then f;exact⟨⟨_,_,_,_,_,_,_,_,_,rfl,GN hMw f hJf⟩,⟨_,_,(T.bf (S:=fun _=>False) (ag.fJ qj) (fun h=>h)).bf f (fun h=>by unfold One at h;omega)⟩,z.end Vm hK8⟩
       ·rw[if_neg h9]at A
        by_cases Cm:ah (ints s) (aF (ints s) qy)=44
        ·rw[if_pos Cm]at A;have bQ:=bz (t:=ints s) (p:=aF (ints s) qy) (by rw[Cm];decide);rw[ax]at bQ;go_wp2_with(first
          | (go_at_call 90;refine(bD Vu hs Jk).mono ?_;rintro x w6 ⟨rfl,⟨⟨e6,l6,I⟩,U⟩⟩)
          | (go_at_call 146;refine(jl I 125 h9).mono ?_;rintro x w' ⟨rfl,rfl⟩)
          | (go_at_call 143;refine(qH I (by omega) 44 Cm).mono ?_;rintro x w7 ⟨rfl,⟨⟨e7,l7,T⟩,N⟩⟩
             have z:=(Cn.one U).one N;have VC:=(Vv.bf U (by unfold One;omega)).bf N (by unfold One;omega)))
         have HP:=h_ T;go_roundw
         case rel=>exact⟨_,m,ks++ [c],dF++ [y],bQ,by omega,by simp;omega,HL2.out,Vq.out,A.out,z,VC,_,_,T⟩
         case measure=>rw[HP,Rw];omega
        ·rw[if_neg Cm]at A;go_wp2_with(first
          | (go_at_call 90;refine(bD Vu hs Jk).mono ?_;rintro x w6 ⟨rfl,⟨⟨e6,l6,I⟩,U⟩⟩)
          | (go_at_call 146;refine(jl I 125 h9).mono ?_;rintro x w' ⟨rfl,rfl⟩)
          | (go_at_call 143;refine(vo I 44 Cm).mono ?_;rintro x w7 ⟨rfl,⟨⟨q7,T⟩,N⟩⟩
             have z:=(Cn.one U).one N;obtain⟨i0,i1,i2,i3,i4⟩:=aj z.res;obtain⟨z0,z1,z2,z3,z4⟩:=aN z.res))
         have h5:=aK z.res (.int .i64 0) (.int .i64 0) (.string ⟨#[]⟩) (.slice none 0 0) (.slice none 0 0);have f:ag (One w.heap.size) w7 _:=aI w7 w.heap.size (.int .i64 0) (.int .i64 0) (.string ⟨#[]⟩) (.slice none 0 0) (.slice none 0 0);unfold di at h5 f;obtain⟨k0,k1,k2,k3,k4⟩:=aj h5;refine bodyPost_ret (v:=.tuple #[.agg #[.int .i64 0,.int .i64 0,.string ⟨#[]⟩,.slice none 0 0,.slice none 0 0],.bool false]) (by simp[results,Tryz.results124,go_sem,k0,k1,k2,k3,k4]) rfl ?_;rw[<-A.out];exact⟨⟨0,0,aH,rfl⟩,⟨_,T.bf f (fun h=>by unfold One at h;omega)⟩,z.end Vm f⟩
     ·skip
      intro K u;go_simp;refine u _ _ ?_;clear u K;refine av (i:=2) hCJ rfl ?_;intro K u;go_simp;refine u _ _ ?_;clear u K;refine av (i:=3) zfZ rfl ?_;intro K u;refine aP (.tmp 46) (.tmp 48) 22 rfl (Y.heap.size+1) 9 (.string ⟨#[]⟩) 1 16 Tryz.underlying22 Tryz.jM rfl (by decide) (by decide) _ ks.length (ks.map Value.string) rfl Vt.pi.keys _ [.string c] rfl rfl (Vk zfY) (lN c) (by omega) Vt.pi.size ?_;intro P8 WK uH hgK Jo;refine u _ _ ?_;clear u K;obtain⟨qk5,MU,ck5,xc⟩:=gp uH;subst xc;have F:=Vt.pi.key uH hgK Jo;have X:=Vt.go F.1 F.2;have Md:=F.2;clear uH hgK Jo F;have ls3:=zdM.go Md;have kE:=X.Be.2;refine av (i:=7) kE rfl ?_;intro K u;obtain⟨xs,cK,fC⟩:=X.pi.eD;refine aP (.tmp 50) (.tmp 52) 23 rfl (Y.heap.size+1) 25 (.agg #[.int .i64 0,.int .i64 0,.string ⟨#[]⟩,.slice none 0 0,.slice none 0 0]) 5 80 Tryz.underlying23 Tryz.eB rfl (by decide) (by decide) _ dF.length xs rfl cK _ [.int .i64 E,.int .i64 H,.string G,.slice pk nk ck,.slice pl nl cl] rfl rfl (Vj ls3) MQ (by have:=Jn.out;omega) X.pi.size ?_;intro oh WV uI hgV Jp;refine u _ _ ?_;clear u K;obtain⟨ql5,nl5,cl5,xc⟩:=gp uI;subst xc;have F:=X.pi.val cK fC X.y uI hgV Jp;have Jq:=X.go F.1 F.2;have hCF:=Jq.Be.2;clear uI hgV Jp F cK fC;refine aa (i:=8) (d:=some 6) rfl ?_;refine aa (i:=9) (d:=some 7) rfl ?_;refine aB hCF (by kernel_rfl) ?_ _;have Cn:=Jq.pi;have Vu:=Jq.rdr;have Vv:=Jq.st;clear hCF Jq
      by_cases h9:ah (ints s) (aF (ints s) qy)=125
      ·rw[if_pos h9]at A;go_wp2_with(first
        | (go_at_call 90;refine(bD Vu hs Jk).mono ?_;rintro x w6 ⟨rfl,⟨⟨e6,l6,I⟩,U⟩⟩)
        | (go_at_call 146;refine(jO I (by omega) 125 h9).mono ?_;rintro x w7 ⟨rfl,⟨⟨e7,l7,T⟩,N⟩⟩
           have z:=(Cn.one U).one N)
        | (go_at_call 81;refine(z.mapOf HL2.out (by simp;omega) Vq.out).mono ?_;rintro x w8 ⟨kf,jf,tf,Vw,Vx,Vy,Vz,VA,VB,rfl,hJf,qj⟩
           have oJ:=(qj.block _ (Array.getElem?_eq_some_iff.1 z.res).1).trans z.res;obtain⟨i0,i1,i2,i3,i4⟩:=aj oJ;obtain⟨z0,z1,z2,z3,z4⟩:=aN oJ))
       have h5:=aK oJ (.int .i64 kf) (.int .i64 jf) (.string tf) (.slice Vw Vx Vy) (.slice Vz VA VB);have f:ag (One w.heap.size) w8 _:=aI w8 w.heap.size (.int .i64 kf) (.int .i64 jf) (.string tf) (.slice Vw Vx Vy) (.slice Vz VA VB);unfold di at h5 f;obtain⟨k0,k1,k2,k3,k4⟩:=aj h5;refine bodyPost_ret (v:=.tuple #[.agg #[.int .i64 kf,.int .i64 jf,.string tf,.slice Vw Vx Vy,.slice Vz VA VB],.bool true]) (by simp[results,Tryz.results124,go_sem,k0,k1,k2,k3,k4]) rfl ?_;rw[<-A.out];have hK8:ag (One w.heap.size) w7 _:=(ag.fJ qj).then f;exact⟨⟨_,_,_,_,_,_,_,_,_,rfl,GN hMw f hJf⟩,⟨_,_,(T.bf (S:=fun _=>False) (ag.fJ qj) (fun h=>h)).bf f (fun h=>by unfold One at h;omega)⟩,z.end Vm hK8⟩
      ·rw[if_neg h9]at A
       by_cases Cm:ah (ints s) (aF (ints s) qy)=44
       ·rw[if_pos Cm]at A;have bQ:=bz (t:=ints s) (p:=aF (ints s) qy) (by rw[Cm];decide);rw[ax]at bQ;go_wp2_with(first
         | (go_at_call 90;refine(bD Vu hs Jk).mono ?_;rintro x w6 ⟨rfl,⟨⟨e6,l6,I⟩,U⟩⟩)
         | (go_at_call 146;refine(jl I 125 h9).mono ?_;rintro x w' ⟨rfl,rfl⟩)
         | (go_at_call 143;refine(qH I (by omega) 44 Cm).mono ?_;rintro x w7 ⟨rfl,⟨⟨e7,l7,T⟩,N⟩⟩
            have z:=(Cn.one U).one N;have VC:=(Vv.bf U (by unfold One;omega)).bf N (by unfold One;omega)))
        have HP:=h_ T;go_roundw
        case rel=>exact⟨_,m,ks++ [c],dF++ [y],bQ,by omega,by simp;omega,HL2.out,Vq.out,A.out,z,VC,_,_,T⟩
        case measure=>rw[HP,Rw];omega
       ·rw[if_neg Cm]at A;go_wp2_with(first
         | (go_at_call 90;refine(bD Vu hs Jk).mono ?_;rintro x w6 ⟨rfl,⟨⟨e6,l6,I⟩,U⟩⟩)
         | (go_at_call 146;refine(jl I 125 h9).mono ?_;rintro x w' ⟨rfl,rfl⟩)
         | (go_at_call 143;refine(vo I 44 Cm).mono ?_;rintro x w7 ⟨rfl,⟨⟨q7,T⟩,N⟩⟩
            have z:=(Cn.one U).one N;obtain⟨i0,i1,i2,i3,i4⟩:=aj z.res;obtain⟨z0,z1,z2,z3,z4⟩:=aN z.res))
        have h5:=aK z.res (.int .i64 0) (.int .i64 0) (.string ⟨#[]⟩) (.slice none 0 0) (.slice none 0 0);have f:ag (One w.heap.size) w7 _:=aI w7 w.heap.size (.int .i64 0) (.int .i64 0) (.string ⟨#[]⟩) (.slice none 0 0) (.slice none 0 0);unfold di at h5 f;obtain⟨k0,k1,k2,k3,k4⟩:=aj h5;refine bodyPost_ret (v:=.tuple #[.agg #[.int .i64 0,.int .i64 0,.string ⟨#[]⟩,.slice none 0 0,.slice none 0 0],.bool false]) (by simp[results,Tryz.results124,go_sem,k0,k1,k2,k3,k4]) rfl ?_;rw[<-A.out];exact⟨⟨0,0,aH,rfl⟩,⟨_,T.bf f (fun h=>by unfold One at h;omega)⟩,z.end Vm f⟩
section
variable {w w3 W5 : World} {R q : Nat} {s : ByteArray} {e l : Int} {o : Obj}
theorem Jr(c:ag (One R) (w.alloc o) w3)(d:ag (One w.heap.size) w3 W5):ag (One R) w W5:=
 (((ag.refl (One R) w).alloc o).then c).trans d fun i f h=>by unfold One at h;omega
theorem uJ(d:ag (One R) (w.alloc o) w3)(f:fw w3 R s q e l)(c:ag (One w.heap.size) w3 W5)(j:R<w.heap.size):oU w W5 R s q:=
 ⟨⟨e,l,f.bf c (fun h=>by unfold One at h;omega)⟩,Jr d c⟩
theorem kQ{d:Nat}(f:ag (One R) (w.alloc o) w3)(j:fw w3 R s q e d)(c:ag (One w.heap.size) w3 W5)(k:R<w.heap.size):zY w W5 R s e d:=
 ⟨⟨q,j.bf c (fun h=>by unfold One at h;omega)⟩,Jr f c⟩
theorem Qc{j:J}{cs:List Value}(f:isJ (gH (w.alloc o) w3) w3 j cs)(c:ag (One w.heap.size) w3 W5):isJ (gH w W5) W5 j cs:=by
 have h:=c.size;refine f.carry fun k d=> ?_;have h1:=d.1;have h2:=d.2;simp at h1;exact⟨⟨by omega,by omega⟩,c.block k h2 (by unfold One;omega)⟩
end
theorem MV:Reads 0:=by
 intro w R p s e l deep I X Y T;have V:deep=13:=by omega
 clear T;subst V;have K:=X;unfold short at K;have k:=I.lt;have m:fw (w.alloc zJ) R s p e l:=I.bf (S:=fun _=>False) ((ag.refl _ _).alloc _) (fun h=>h);have c1:=m.c1;have pk:=dZ m;have d:=B_ (ah (ints s) p) (w.alloc zJ)
 cases hb:oC (ah (ints s) p)with
 | true=>
  have G:Hid (value (ints s) 0 p=.bad 12 p):=by unfold value;rw[if_pos hb];rfl
  rw[hb]at d;unfold zJ at c1 pk d;go_enter Tryz.func91,Tryz.ntmps91;go_wp2_with(first
   | (go_at_call 119;refine pk.mono ?_;rintro x w' ⟨rfl,rfl⟩)
   | (go_at_call 120;refine d.mono ?_;rintro x w' ⟨rfl,rfl⟩)
   | (go_at_call 92;refine(gN m 12 (p:Int)).mono ?_;rintro x w3 ⟨rfl,u,f⟩
      have c:=bW f k;obtain⟨i0,N,i2,i3,i4⟩:=aj c;obtain⟨z0,U,z2,z3,z4⟩:=aN c))
  have h5:=aK c (.int .i64 0) (.int .i64 0) (.string ⟨#[]⟩) (.slice none 0 0) (.slice none 0 0);have j:ag (One w.heap.size) w3 _:=aI w3 w.heap.size (.int .i64 0) (.int .i64 0) (.string ⟨#[]⟩) (.slice none 0 0) (.slice none 0 0);unfold di at h5 j;obtain⟨z,F,A,E,H⟩:=aj h5;refine bodyPost_ret (v:=.tuple #[.agg #[.int .i64 0,.int .i64 0,.string ⟨#[]⟩,.slice none 0 0,.slice none 0 0],.bool false]) (by simp[results,Tryz.results91,go_sem,z,F,A,E,H]) rfl ?_;rw[G.out];exact⟨⟨0,0,aH,rfl⟩,kQ f u j k⟩
 | false=>
  have G:Hid (value (ints s) 0 p=.bad 11 p):=by unfold value;rw[if_neg (by simp[hb])];rfl
  rw[hb]at d;unfold zJ at c1 pk d;go_enter Tryz.func91,Tryz.ntmps91;go_wp2_with(first
   | (go_at_call 119;refine pk.mono ?_;rintro x w' ⟨rfl,rfl⟩)
   | (go_at_call 120;refine d.mono ?_;rintro x w' ⟨rfl,rfl⟩)
   | (go_at_call 92;refine(gN m 11 (p:Int)).mono ?_;rintro x w3 ⟨rfl,u,f⟩
      have c:=bW f k;obtain⟨i0,N,i2,i3,i4⟩:=aj c;obtain⟨z0,U,z2,z3,z4⟩:=aN c))
  have h5:=aK c (.int .i64 0) (.int .i64 0) (.string ⟨#[]⟩) (.slice none 0 0) (.slice none 0 0);have j:ag (One w.heap.size) w3 _:=aI w3 w.heap.size (.int .i64 0) (.int .i64 0) (.string ⟨#[]⟩) (.slice none 0 0) (.slice none 0 0);unfold di at h5 j;obtain⟨z,F,A,E,H⟩:=aj h5;refine bodyPost_ret (v:=.tuple #[.agg #[.int .i64 0,.int .i64 0,.string ⟨#[]⟩,.slice none 0 0,.slice none 0 0],.bool false]) (by simp[results,Tryz.results91,go_sem,z,F,A,E,H]) rfl ?_;rw[G.out];exact⟨⟨0,0,aH,rfl⟩,kQ f u j k⟩
theorem MW{d:Nat}(V:Reads d)(hd:d+1<=12):Reads (d+1):=by
 intro w R p s e l deep hr hs hp lq;have En:0<=deep:=by omega
 have rQ:deep<=12:=by omega
 have HD:Hid (deep=12 - (d:Int)):=by show deep=_;omega
 clear lq;have fI:=hs;unfold short at fI;have z:=hr.lt;have tO:fw (w.alloc zJ) R s p e l:=hr.bf (S:=fun _=>False) ((ag.refl _ _).alloc _) (fun h=>h);have c1:=tO.c1;have pk:=dZ tO;have m:=B_ (ah (ints s) p) (w.alloc zJ)
 cases hb:oC (ah (ints s) p)with
 | false=>
  have I:Hid (value (ints s) (d+1) p=.bad 11 p):=by unfold value;rw[if_neg (by simp[hb])];rfl
  rw[hb]at m;unfold zJ at c1 pk m;go_enter Tryz.func91,Tryz.ntmps91;go_wp2_with(first
   | (go_at_call 119;refine pk.mono ?_;rintro x w' ⟨rfl,rfl⟩)
   | (go_at_call 120;refine m.mono ?_;rintro x w' ⟨rfl,rfl⟩)
   | (go_at_call 92;refine(gN tO 11 (p:Int)).mono ?_;rintro x w3 ⟨rfl,A,k⟩
      have c:=bW k z;obtain⟨i0,i1,i2,i3,i4⟩:=aj c;obtain⟨z0,z1,z2,z3,z4⟩:=aN c))
  have h5:=aK c (.int .i64 0) (.int .i64 0) (.string ⟨#[]⟩) (.slice none 0 0) (.slice none 0 0);have j:ag (One w.heap.size) w3 _:=aI w3 w.heap.size (.int .i64 0) (.int .i64 0) (.string ⟨#[]⟩) (.slice none 0 0) (.slice none 0 0);unfold di at h5 j;obtain⟨E,H,F,G,K⟩:=aj h5;refine bodyPost_ret (v:=.tuple #[.agg #[.int .i64 0,.int .i64 0,.string ⟨#[]⟩,.slice none 0 0,.slice none 0 0],.bool false]) (by simp[results,Tryz.results91,go_sem,E,H,F,G,K]) rfl ?_;rw[I.out];exact⟨⟨0,0,aH,rfl⟩,kQ k A j z⟩
 | true=>
  rw[hb]at m;have bQ:p<s.size:=by
   have:=bz (t:=ints s) (p:=p) (by intro h;rw[h]at hb;exact absurd hb (by decide));rw[ax]at this;exact this
  by_cases Y:ah (ints s) p=110
  ·skip
   rw[Y]at pk m;have f:Calls Tryz.prog 121 #[.pointer (some ⟨R,0,none⟩),.string ⟨#[110,117,108,108]⟩] (w.alloc zJ) fun x w'=>xK (w.alloc zJ) w' R s (word (ints s) [110,117,108,108] p) x:=Ca tO (by omega) ⟨#[110,117,108,108]⟩ (by decide)
   cases hv:word (ints s) [110,117,108,108] p with
   | bad er la=>
    have I:Hid (value (ints s) (d+1) p=.bad er la):=by unfold value;rw[if_pos hb,if_pos Y,hv];rfl
    rw[hv]at f;unfold zJ at c1 pk m f;go_enter Tryz.func91,Tryz.ntmps91;go_wp2_with(first
     | (go_at_call 119;refine pk.mono ?_;rintro x w' ⟨rfl,rfl⟩)
     | (go_at_call 120;refine m.mono ?_;rintro x w' ⟨rfl,rfl⟩)
     | (go_at_call 121;refine f.mono ?_;rintro x w3 ⟨rfl,⟨⟨q3,A⟩,k⟩⟩
        have c:=bW k z;obtain⟨i0,i1,i2,i3,i4⟩:=aj c;obtain⟨z0,z1,z2,z3,z4⟩:=aN c))
    have h5:=aK c (.int .i64 0) (.int .i64 0) (.string ⟨#[]⟩) (.slice none 0 0) (.slice none 0 0);have j:ag (One w.heap.size) w3 _:=aI w3 w.heap.size (.int .i64 0) (.int .i64 0) (.string ⟨#[]⟩) (.slice none 0 0) (.slice none 0 0);unfold di at h5 j;obtain⟨E,H,F,G,K⟩:=aj h5;refine bodyPost_ret (v:=.tuple #[.agg #[.int .i64 0,.int .i64 0,.string ⟨#[]⟩,.slice none 0 0,.slice none 0 0],.bool false]) (by simp[results,Tryz.results91,go_sem,E,H,F,G,K]) rfl ?_;rw[I.out];exact⟨⟨0,0,aH,rfl⟩,kQ k A j z⟩
   | ok u qv=>
    have I:Hid (value (ints s) (d+1) p=.ok (.mk 0 0 aH [] []) qv):=by unfold value;rw[if_pos hb,if_pos Y,hv];rfl
    rw[hv]at f;unfold zJ at c1 pk m f;go_enter Tryz.func91,Tryz.ntmps91;go_wp2_with(first
     | (go_at_call 119;refine pk.mono ?_;rintro x w' ⟨rfl,rfl⟩)
     | (go_at_call 120;refine m.mono ?_;rintro x w' ⟨rfl,rfl⟩)
     | (go_at_call 121;refine f.mono ?_;rintro x w3 ⟨rfl,⟨⟨e3,l3,A⟩,k⟩⟩
        have c:=bW k z;obtain⟨i0,i1,i2,i3,i4⟩:=aj c;obtain⟨z0,z1,z2,z3,z4⟩:=aN c))
    have h5:=aK c (.int .i64 0) (.int .i64 0) (.string ⟨#[]⟩) (.slice none 0 0) (.slice none 0 0);have j:ag (One w.heap.size) w3 _:=aI w3 w.heap.size (.int .i64 0) (.int .i64 0) (.string ⟨#[]⟩) (.slice none 0 0) (.slice none 0 0);unfold di at h5 j;obtain⟨E,H,F,G,K⟩:=aj h5;refine bodyPost_ret (v:=.tuple #[.agg #[.int .i64 0,.int .i64 0,.string ⟨#[]⟩,.slice none 0 0,.slice none 0 0],.bool true]) (by simp[results,Tryz.results91,go_sem,E,H,F,G,K]) rfl ?_;rw[I.out];exact⟨⟨_,_,_,_,_,_,_,_,_,rfl,ni _ _ 0 0 aH⟩,uJ k A j z⟩
  by_cases zQ:ah (ints s) p=116
  ·skip
   rw[zQ]at pk m;have f:Calls Tryz.prog 121 #[.pointer (some ⟨R,0,none⟩),.string ⟨#[116,114,117,101]⟩] (w.alloc zJ) fun x w'=>xK (w.alloc zJ) w' R s (word (ints s) [116,114,117,101] p) x:=Ca tO (by omega) ⟨#[116,114,117,101]⟩ (by decide)
   cases hv:word (ints s) [116,114,117,101] p with
   | bad er la=>
    have I:Hid (value (ints s) (d+1) p=.bad er la):=by unfold value;rw[if_pos hb,if_neg Y,if_pos zQ,hv];rfl
    rw[hv]at f;unfold zJ at c1 pk m f;go_enter Tryz.func91,Tryz.ntmps91;go_wp2_with(first
     | (go_at_call 119;refine pk.mono ?_;rintro x w' ⟨rfl,rfl⟩)
     | (go_at_call 120;refine m.mono ?_;rintro x w' ⟨rfl,rfl⟩)
     | (go_at_call 121;refine f.mono ?_;rintro x w3 ⟨rfl,⟨⟨q3,A⟩,k⟩⟩
        have c:=bW k z;obtain⟨i0,i1,i2,i3,i4⟩:=aj c;obtain⟨z0,z1,z2,z3,z4⟩:=aN c))
    have h5:=aK c (.int .i64 1) (.int .i64 1) (.string ⟨#[]⟩) (.slice none 0 0) (.slice none 0 0);have j:ag (One w.heap.size) w3 _:=aI w3 w.heap.size (.int .i64 1) (.int .i64 1) (.string ⟨#[]⟩) (.slice none 0 0) (.slice none 0 0);unfold di at h5 j;obtain⟨E,H,F,G,K⟩:=aj h5;refine bodyPost_ret (v:=.tuple #[.agg #[.int .i64 1,.int .i64 1,.string ⟨#[]⟩,.slice none 0 0,.slice none 0 0],.bool false]) (by simp[results,Tryz.results91,go_sem,E,H,F,G,K]) rfl ?_;rw[I.out];exact⟨⟨1,1,aH,rfl⟩,kQ k A j z⟩
   | ok u qv=>
    have I:Hid (value (ints s) (d+1) p=.ok (.mk 1 1 aH [] []) qv):=by unfold value;rw[if_pos hb,if_neg Y,if_pos zQ,hv];rfl
    rw[hv]at f;unfold zJ at c1 pk m f;go_enter Tryz.func91,Tryz.ntmps91;go_wp2_with(first
     | (go_at_call 119;refine pk.mono ?_;rintro x w' ⟨rfl,rfl⟩)
     | (go_at_call 120;refine m.mono ?_;rintro x w' ⟨rfl,rfl⟩)
     | (go_at_call 121;refine f.mono ?_;rintro x w3 ⟨rfl,⟨⟨e3,l3,A⟩,k⟩⟩
        have c:=bW k z;obtain⟨i0,i1,i2,i3,i4⟩:=aj c;obtain⟨z0,z1,z2,z3,z4⟩:=aN c))
    have h5:=aK c (.int .i64 1) (.int .i64 1) (.string ⟨#[]⟩) (.slice none 0 0) (.slice none 0 0);have j:ag (One w.heap.size) w3 _:=aI w3 w.heap.size (.int .i64 1) (.int .i64 1) (.string ⟨#[]⟩) (.slice none 0 0) (.slice none 0 0);unfold di at h5 j;obtain⟨E,H,F,G,K⟩:=aj h5;refine bodyPost_ret (v:=.tuple #[.agg #[.int .i64 1,.int .i64 1,.string ⟨#[]⟩,.slice none 0 0,.slice none 0 0],.bool true]) (by simp[results,Tryz.results91,go_sem,E,H,F,G,K]) rfl ?_;rw[I.out];exact⟨⟨_,_,_,_,_,_,_,_,_,rfl,ni _ _ 1 1 aH⟩,uJ k A j z⟩
  by_cases DV:ah (ints s) p=102
  ·skip
   rw[DV]at pk m;have f:Calls Tryz.prog 121 #[.pointer (some ⟨R,0,none⟩),.string ⟨#[102,97,108,115,101]⟩] (w.alloc zJ) fun x w'=>xK (w.alloc zJ) w' R s (word (ints s) [102,97,108,115,101] p) x:=Ca tO (by omega) ⟨#[102,97,108,115,101]⟩ (by decide)
   cases hv:word (ints s) [102,97,108,115,101] p with
   | bad er la=>
    have I:Hid (value (ints s) (d+1) p=.bad er la):=by unfold value;rw[if_pos hb,if_neg Y,if_neg zQ,if_pos DV,hv];rfl
    rw[hv]at f;unfold zJ at c1 pk m f;go_enter Tryz.func91,Tryz.ntmps91;go_wp2_with(first
     | (go_at_call 119;refine pk.mono ?_;rintro x w' ⟨rfl,rfl⟩)
     | (go_at_call 120;refine m.mono ?_;rintro x w' ⟨rfl,rfl⟩)
     | (go_at_call 121;refine f.mono ?_;rintro x w3 ⟨rfl,⟨⟨q3,A⟩,k⟩⟩
        have c:=bW k z;obtain⟨i0,i1,i2,i3,i4⟩:=aj c;obtain⟨z0,z1,z2,z3,z4⟩:=aN c))
    have h5:=aK c (.int .i64 1) (.int .i64 0) (.string ⟨#[]⟩) (.slice none 0 0) (.slice none 0 0);have j:ag (One w.heap.size) w3 _:=aI w3 w.heap.size (.int .i64 1) (.int .i64 0) (.string ⟨#[]⟩) (.slice none 0 0) (.slice none 0 0);unfold di at h5 j;obtain⟨E,H,F,G,K⟩:=aj h5;refine bodyPost_ret (v:=.tuple #[.agg #[.int .i64 1,.int .i64 0,.string ⟨#[]⟩,.slice none 0 0,.slice none 0 0],.bool false]) (by simp[results,Tryz.results91,go_sem,E,H,F,G,K]) rfl ?_;rw[I.out];exact⟨⟨1,0,aH,rfl⟩,kQ k A j z⟩
   | ok u qv=>
    have I:Hid (value (ints s) (d+1) p=.ok (.mk 1 0 aH [] []) qv):=by unfold value;rw[if_pos hb,if_neg Y,if_neg zQ,if_pos DV,hv];rfl
    rw[hv]at f;unfold zJ at c1 pk m f;go_enter Tryz.func91,Tryz.ntmps91;go_wp2_with(first
     | (go_at_call 119;refine pk.mono ?_;rintro x w' ⟨rfl,rfl⟩)
     | (go_at_call 120;refine m.mono ?_;rintro x w' ⟨rfl,rfl⟩)
     | (go_at_call 121;refine f.mono ?_;rintro x w3 ⟨rfl,⟨⟨e3,l3,A⟩,k⟩⟩
        have c:=bW k z;obtain⟨i0,i1,i2,i3,i4⟩:=aj c;obtain⟨z0,z1,z2,z3,z4⟩:=aN c))
    have h5:=aK c (.int .i64 1) (.int .i64 0) (.string ⟨#[]⟩) (.slice none 0 0) (.slice none 0 0);have j:ag (One w.heap.size) w3 _:=aI w3 w.heap.size (.int .i64 1) (.int .i64 0) (.string ⟨#[]⟩) (.slice none 0 0) (.slice none 0 0);unfold di at h5 j;obtain⟨E,H,F,G,K⟩:=aj h5;refine bodyPost_ret (v:=.tuple #[.agg #[.int .i64 1,.int .i64 0,.string ⟨#[]⟩,.slice none 0 0,.slice none 0 0],.bool true]) (by simp[results,Tryz.results91,go_sem,E,H,F,G,K]) rfl ?_;rw[I.out];exact⟨⟨_,_,_,_,_,_,_,_,_,rfl,ni _ _ 1 0 aH⟩,uJ k A j z⟩
  by_cases X:ah (ints s) p=34
  ·skip
   rw[X]at pk m;have f:=Cg tO hs bQ
   cases hv:quoted (ints s) p with
   | bad er la=>
    have I:Hid (value (ints s) (d+1) p=.bad er la):=by unfold value;rw[if_pos hb,if_neg Y,if_neg zQ,if_neg DV,if_pos X,hv];rfl
    rw[hv]at f;unfold zJ at c1 pk m f;go_enter Tryz.func91,Tryz.ntmps91;go_wp2_with(first
     | (go_at_call 119;refine pk.mono ?_;rintro x w' ⟨rfl,rfl⟩)
     | (go_at_call 120;refine m.mono ?_;rintro x w' ⟨rfl,rfl⟩)
     | (go_at_call 122;refine f.mono ?_;rintro x w3 ⟨rfl,⟨⟨q3,A⟩,k⟩⟩
        unfold aH;have c:=bW k z;obtain⟨i0,i1,i2,i3,i4⟩:=aj c;obtain⟨z0,z1,z2,z3,z4⟩:=aN c))
    have h5:=aK c (.int .i64 3) (.int .i64 0) (.string ⟨#[]⟩) (.slice none 0 0) (.slice none 0 0);have j:ag (One w.heap.size) w3 _:=aI w3 w.heap.size (.int .i64 3) (.int .i64 0) (.string ⟨#[]⟩) (.slice none 0 0) (.slice none 0 0);unfold di at h5 j;obtain⟨E,H,F,G,K⟩:=aj h5;refine bodyPost_ret (v:=.tuple #[.agg #[.int .i64 3,.int .i64 0,.string ⟨#[]⟩,.slice none 0 0,.slice none 0 0],.bool false]) (by simp[results,Tryz.results91,go_sem,E,H,F,G,K]) rfl ?_;rw[I.out];exact⟨⟨3,0,aH,rfl⟩,kQ k A j z⟩
   | ok cq qv=>
    have I:Hid (value (ints s) (d+1) p=.ok (.mk 3 0 (strOfNums cq) [] []) qv):=by unfold value;rw[if_pos hb,if_neg Y,if_neg zQ,if_neg DV,if_pos X,hv];rfl
    rw[hv]at f;unfold zJ at c1 pk m f;go_enter Tryz.func91,Tryz.ntmps91;go_wp2_with(first
     | (go_at_call 119;refine pk.mono ?_;rintro x w' ⟨rfl,rfl⟩)
     | (go_at_call 120;refine m.mono ?_;rintro x w' ⟨rfl,rfl⟩)
     | (go_at_call 122;refine f.mono ?_;rintro x w3 ⟨rfl,⟨⟨e3,l3,A⟩,k⟩⟩
        have c:=bW k z;obtain⟨i0,i1,i2,i3,i4⟩:=aj c;obtain⟨z0,z1,z2,z3,z4⟩:=aN c))
    have h5:=aK c (.int .i64 3) (.int .i64 0) (.string (strOfNums cq)) (.slice none 0 0) (.slice none 0 0);have j:ag (One w.heap.size) w3 _:=aI w3 w.heap.size (.int .i64 3) (.int .i64 0) (.string (strOfNums cq)) (.slice none 0 0) (.slice none 0 0);unfold di at h5 j;obtain⟨E,H,F,G,K⟩:=aj h5;refine bodyPost_ret (v:=.tuple #[.agg #[.int .i64 3,.int .i64 0,.string (strOfNums cq),.slice none 0 0,.slice none 0 0],.bool true]) (by simp[results,Tryz.results91,go_sem,E,H,F,G,K]) rfl ?_;rw[I.out];exact⟨⟨_,_,_,_,_,_,_,_,_,rfl,ni _ _ 3 0 (strOfNums cq)⟩,uJ k A j z⟩
  by_cases Z:ah (ints s) p=91
  ·skip
   rw[Z]at pk m;have f:=Vh V tO hs bQ HD.out (by omega)
   cases hv:lI (ints s) (value (ints s) d) p with
   | bad er la=>
    have I:Hid (value (ints s) (d+1) p=.bad er la):=by unfold value;rw[if_pos hb,if_neg Y,if_neg zQ,if_neg DV,if_neg X,if_pos Z,hv];rfl
    rw[hv]at f;unfold zJ at c1 pk m f;go_enter Tryz.func91,Tryz.ntmps91;go_wp2_with(first
     | (go_at_call 119;refine pk.mono ?_;rintro x w' ⟨rfl,rfl⟩)
     | (go_at_call 120;refine m.mono ?_;rintro x w' ⟨rfl,rfl⟩)
     | (go_at_call 123;refine f.mono ?_;rintro x w3 ⟨⟨N,T,U,rfl⟩,⟨q3,A⟩,k⟩
        unfold flat;have c:=bW k z;obtain⟨i0,i1,i2,i3,i4⟩:=aj c;obtain⟨z0,z1,z2,z3,z4⟩:=aN c))
    have h5:=aK c (.int .i64 N) (.int .i64 T) (.string U) (.slice none 0 0) (.slice none 0 0);have j:ag (One w.heap.size) w3 _:=aI w3 w.heap.size (.int .i64 N) (.int .i64 T) (.string U) (.slice none 0 0) (.slice none 0 0);unfold di at h5 j;obtain⟨E,H,F,G,K⟩:=aj h5;refine bodyPost_ret (v:=.tuple #[.agg #[.int .i64 N,.int .i64 T,.string U,.slice none 0 0,.slice none 0 0],.bool false]) (by simp[results,Tryz.results91,go_sem,E,H,F,G,K]) rfl ?_;rw[I.out];exact⟨⟨N,T,U,rfl⟩,kQ k A j z⟩
   | ok jv qv=>
    have I:Hid (value (ints s) (d+1) p=.ok jv qv):=by unfold value;rw[if_pos hb,if_neg Y,if_neg zQ,if_neg DV,if_neg X,if_pos Z,hv];rfl
    rw[hv]at f;unfold zJ at c1 pk m f;go_enter Tryz.func91,Tryz.ntmps91;go_wp2_with(first
     | (go_at_call 119;refine pk.mono ?_;rintro x w' ⟨rfl,rfl⟩)
     | (go_at_call 120;refine m.mono ?_;rintro x w' ⟨rfl,rfl⟩)
     | (go_at_call 123;refine f.mono ?_;rintro x w3 ⟨⟨N,T,U,xU,nk,ck,pl,nl,cl,rfl,hj⟩,⟨e3,l3,A⟩,k⟩
        have c:=bW k z;obtain⟨i0,i1,i2,i3,i4⟩:=aj c;obtain⟨z0,z1,z2,z3,z4⟩:=aN c))
    have h5:=aK c (.int .i64 N) (.int .i64 T) (.string U) (.slice xU nk ck) (.slice pl nl cl);have j:ag (One w.heap.size) w3 _:=aI w3 w.heap.size (.int .i64 N) (.int .i64 T) (.string U) (.slice xU nk ck) (.slice pl nl cl);unfold di at h5 j;obtain⟨E,H,F,G,K⟩:=aj h5;refine bodyPost_ret (v:=.tuple #[.agg #[.int .i64 N,.int .i64 T,.string U,.slice xU nk ck,.slice pl nl cl],.bool true]) (by simp[results,Tryz.results91,go_sem,E,H,F,G,K]) rfl ?_;rw[I.out];exact⟨⟨_,_,_,_,_,_,_,_,_,rfl,Qc hj j⟩,uJ k A j z⟩
  by_cases YF:ah (ints s) p=123
  ·skip
   rw[YF]at pk m;have f:=RY V tO hs bQ HD.out (by omega)
   cases hv:iT (ints s) (value (ints s) d) p with
   | bad er la=>
    have I:Hid (value (ints s) (d+1) p=.bad er la):=by unfold value;rw[if_pos hb,if_neg Y,if_neg zQ,if_neg DV,if_neg X,if_neg Z,if_pos YF,hv];rfl
    rw[hv]at f;unfold zJ at c1 pk m f;go_enter Tryz.func91,Tryz.ntmps91;go_wp2_with(first
     | (go_at_call 119;refine pk.mono ?_;rintro x w' ⟨rfl,rfl⟩)
     | (go_at_call 120;refine m.mono ?_;rintro x w' ⟨rfl,rfl⟩)
     | (go_at_call 124;refine f.mono ?_;rintro x w3 ⟨⟨N,T,U,rfl⟩,⟨q3,A⟩,k⟩
        unfold flat;have c:=bW k z;obtain⟨i0,i1,i2,i3,i4⟩:=aj c;obtain⟨z0,z1,z2,z3,z4⟩:=aN c))
    have h5:=aK c (.int .i64 N) (.int .i64 T) (.string U) (.slice none 0 0) (.slice none 0 0);have j:ag (One w.heap.size) w3 _:=aI w3 w.heap.size (.int .i64 N) (.int .i64 T) (.string U) (.slice none 0 0) (.slice none 0 0);unfold di at h5 j;obtain⟨E,H,F,G,K⟩:=aj h5;refine bodyPost_ret (v:=.tuple #[.agg #[.int .i64 N,.int .i64 T,.string U,.slice none 0 0,.slice none 0 0],.bool false]) (by simp[results,Tryz.results91,go_sem,E,H,F,G,K]) rfl ?_;rw[I.out];exact⟨⟨N,T,U,rfl⟩,kQ k A j z⟩
   | ok jv qv=>
    have I:Hid (value (ints s) (d+1) p=.ok jv qv):=by unfold value;rw[if_pos hb,if_neg Y,if_neg zQ,if_neg DV,if_neg X,if_neg Z,if_pos YF,hv];rfl
    rw[hv]at f;unfold zJ at c1 pk m f;go_enter Tryz.func91,Tryz.ntmps91;go_wp2_with(first
     | (go_at_call 119;refine pk.mono ?_;rintro x w' ⟨rfl,rfl⟩)
     | (go_at_call 120;refine m.mono ?_;rintro x w' ⟨rfl,rfl⟩)
     | (go_at_call 124;refine f.mono ?_;rintro x w3 ⟨⟨N,T,U,xU,nk,ck,pl,nl,cl,rfl,hj⟩,⟨e3,l3,A⟩,k⟩
        have c:=bW k z;obtain⟨i0,i1,i2,i3,i4⟩:=aj c;obtain⟨z0,z1,z2,z3,z4⟩:=aN c))
    have h5:=aK c (.int .i64 N) (.int .i64 T) (.string U) (.slice xU nk ck) (.slice pl nl cl);have j:ag (One w.heap.size) w3 _:=aI w3 w.heap.size (.int .i64 N) (.int .i64 T) (.string U) (.slice xU nk ck) (.slice pl nl cl);unfold di at h5 j;obtain⟨E,H,F,G,K⟩:=aj h5;refine bodyPost_ret (v:=.tuple #[.agg #[.int .i64 N,.int .i64 T,.string U,.slice xU nk ck,.slice pl nl cl],.bool true]) (by simp[results,Tryz.results91,go_sem,E,H,F,G,K]) rfl ?_;rw[I.out];exact⟨⟨_,_,_,_,_,_,_,_,_,rfl,Qc hj j⟩,uJ k A j z⟩
  have f:=kU tO hs hp
  cases hv:number (ints s) p with
  | bad er la=>
   have I:Hid (value (ints s) (d+1) p=.bad er la):=by unfold value;rw[if_pos hb,if_neg Y,if_neg zQ,if_neg DV,if_neg X,if_neg Z,if_neg YF,hv];rfl
   rw[hv]at f;unfold zJ at c1 pk m f;go_enter Tryz.func91,Tryz.ntmps91;go_wp2_with(first
    | (go_at_call 119;refine pk.mono ?_;rintro x w' ⟨rfl,rfl⟩)
    | (go_at_call 120;refine m.mono ?_;rintro x w' ⟨rfl,rfl⟩)
    | (go_at_call 125;refine f.mono ?_;rintro x w3 ⟨⟨N,T,U,rfl⟩,⟨q3,A⟩,k⟩
       unfold flat;have c:=bW k z;obtain⟨i0,i1,i2,i3,i4⟩:=aj c;obtain⟨z0,z1,z2,z3,z4⟩:=aN c))
   have h5:=aK c (.int .i64 N) (.int .i64 T) (.string U) (.slice none 0 0) (.slice none 0 0);have j:ag (One w.heap.size) w3 _:=aI w3 w.heap.size (.int .i64 N) (.int .i64 T) (.string U) (.slice none 0 0) (.slice none 0 0);unfold di at h5 j;obtain⟨E,H,F,G,K⟩:=aj h5;refine bodyPost_ret (v:=.tuple #[.agg #[.int .i64 N,.int .i64 T,.string U,.slice none 0 0,.slice none 0 0],.bool false]) (by simp[results,Tryz.results91,go_sem,E,H,F,G,K]) rfl ?_;rw[I.out];exact⟨⟨N,T,U,rfl⟩,kQ k A j z⟩
  | ok jv qv=>
   have I:Hid (value (ints s) (d+1) p=.ok jv qv):=by unfold value;rw[if_pos hb,if_neg Y,if_neg zQ,if_neg DV,if_neg X,if_neg Z,if_neg YF,hv];rfl
   rw[hv]at f;unfold zJ at c1 pk m f;go_enter Tryz.func91,Tryz.ntmps91;go_wp2_with(first
    | (go_at_call 119;refine pk.mono ?_;rintro x w' ⟨rfl,rfl⟩)
    | (go_at_call 120;refine m.mono ?_;rintro x w' ⟨rfl,rfl⟩)
    | (go_at_call 125;refine f.mono ?_;rintro x w3 ⟨⟨N,T,U,xU,nk,ck,pl,nl,cl,rfl,hj⟩,⟨e3,l3,A⟩,k⟩
       have c:=bW k z;obtain⟨i0,i1,i2,i3,i4⟩:=aj c;obtain⟨z0,z1,z2,z3,z4⟩:=aN c))
   have h5:=aK c (.int .i64 N) (.int .i64 T) (.string U) (.slice xU nk ck) (.slice pl nl cl);have j:ag (One w.heap.size) w3 _:=aI w3 w.heap.size (.int .i64 N) (.int .i64 T) (.string U) (.slice xU nk ck) (.slice pl nl cl);unfold di at h5 j;obtain⟨E,H,F,G,K⟩:=aj h5;refine bodyPost_ret (v:=.tuple #[.agg #[.int .i64 N,.int .i64 T,.string U,.slice xU nk ck,.slice pl nl cl],.bool true]) (by simp[results,Tryz.results91,go_sem,E,H,F,G,K]) rfl ?_;rw[I.out];exact⟨⟨_,_,_,_,_,_,_,_,_,rfl,Qc hj j⟩,uJ k A j z⟩
theorem reads:∀d,d<=12->Reads d
 | 0,_=>MV
 | d+1,h=>MW (reads d (by omega)) h
end Go.Proofs.YtldkblgclochjaaGreatDoor

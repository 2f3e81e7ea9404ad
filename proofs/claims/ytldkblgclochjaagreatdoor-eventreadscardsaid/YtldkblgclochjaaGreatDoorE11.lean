/- A part. -/
import Derived.Test.YtldkblgclochjaaGreatDoorE10
import Derived.Laws.OwnMore
set_option maxRecDepth 100000
set_option maxHeartbeats 16000000
namespace Go.Proofs.YtldkblgclochjaaGreatDoor
open Go.RowKit
structure Ee(e:Ev):Prop where
 room:e.room.size<=1000000000
 aU:e.aU.size<=1000000000
 ai:e.ai.size<=1000000000
 key:e.key.size<=1000000000
 hash:e.hash.size<=1000000000
 cont:szJ 12 e.content=true
 prev:e.prev.length<=100000
 Wi:∀x∈e.prev,x.size<=1000000000
 aA:e.aA.length<=100000
 Wj:∀x∈e.aA,x.size<=1000000000
 sigs:e.sigs.length<=100000
 Qw:∀x∈e.sigs,x.1.size<=1000000000/\x.2.size<=1000000000
open Go.RowKit Go.Maps
theorem jb{t k e:TypeId}(c:Tryz.prog.underlying t=some (.map k e))(n:Int)(w:World):(Instr.makeMap t (some (.int .i64 n))).run Tryz.prog w=.ok (.map (some w.heap.size)) (w.alloc (.map #[] 0)):=by
 simp[Instr.makeMap,run_underlying c,asInt,asIntOf,Result.andThen]
def CS(w:World)(M:Nat)(ks:List ByteArray):Prop:=
 ∃D:DataW Unit,w.ownsMap Tryz.prog 9 (unitElem (H:=Unit)) M ks.length D/\(∀s,vw s->Maps.has D (Bl s)=vY ks s)/\Maps.size D<=ks.length/\(Maps.size D=ks.length↔noKeyTwice ks=true)
theorem CS.made(w:World):CS (w.alloc (.map #[] 0)) w.heap.size []:=
 ⟨.map [],World.ownsMap_made _ _ _ _,fun _ _=>rfl,Nat.le_refl _,⟨fun _=>rfl,fun _=>rfl⟩⟩
theorem J6{ks:List ByteArray}{s:ByteArray}:vY ks s=true↔s∈ks:=by
 unfold vY;rw[List.any_eq_true]
 constructor
 ·rintro⟨x,c,h⟩;have:x=s:=by
   have h:=of_decide_eq_true h
   cases x;cases s
   simp only at h;rw[h]
  exact this ▸ c
 ·exact fun h=>⟨s,h,by simp⟩
theorem Hf(ks:List ByteArray)(s:ByteArray):noKeyTwice (ks++ [s])=true↔noKeyTwice ks=true/\vY ks s=false:=by
 constructor
 ·intro h;have h:=List.pairwise_append.1 (iD h);refine⟨gU h.1, ?_⟩
  cases e:vY ks s with
  | false=>rfl
  | true=>exact absurd rfl (h.2.2 s (J6.1 e) s (by simp))
 ·rintro⟨h1,h2⟩;refine gU (List.pairwise_append.2 ⟨iD h1,List.pairwise_singleton _ _,fun a c b d e=> ?_⟩);rw[List.mem_singleton.1 d]at e;rw[J6.2 (e ▸ c)]at h2
  cases h2
theorem CS.put{w h:World}{M:Nat}{ks:List ByteArray}{D:DataW Unit}{s:ByteArray}(h0:w.ownsMap Tryz.prog 9 (unitElem (H:=Unit)) M ks.length D)(j:h.ownsMap Tryz.prog 9 (unitElem (H:=Unit)) M (ks.length+1) (D.put (Bl s) (.agg [])))
    (f:∀s,vw s->Maps.has D (Bl s)=vY ks s) (h1:Maps.size D<=ks.length) (h2:Maps.size D=ks.length↔noKeyTwice ks=true) (u:vw s):CS h M (ks++ [s]):=by
 have z:=h0.isMap;have d:=size_put (k:=Bl s) (h0.tidy yS) (.agg []);rw[f s u]at d;refine⟨D.put (Bl s) (.agg []),by rw[List.length_append];exact j,fun x m=> ?_, ?_, ?_⟩
 ·rw[Fh]
  by_cases e:x=s
  ·subst e;rw[has_put_same z (show WideAt.IsKeyLit (Bl x)from trivial)];simp
  ·rw[has_put_other (fun c=>e (vz c)),f x m];have:decide (s.data=x.data)=false:=by
    apply decide_eq_false
    intro c
    apply e
    cases x;cases s
    simp only at c;rw[c]
   rw[this,Bool.or_false]
 ·rw[d,List.length_append]
  split<;>simp<;>omega
 ·rw[d,List.length_append,Hf,<-h2]
  cases e:vY ks s with
  | true=>simp;omega
  | false=>simp
theorem Wl{O:Nat->Prop}{ks:List ByteArray}{p:Option Addr}{c:Nat}{w:World}(mF:j5 O w p c ks)(hO:∀k,O k->k<w.heap.size)(hl:ks.length<=100000)(Et:∀k∈ks,k.size<=1000000000):
    Calls Tryz.prog 97 #[.slice p ks.length c] w fun x w'=>x=.returned (.bool (noKeyTwice ks))/\Below w.heap.size w w':=by
 obtain⟨n,I⟩:∃n,ks.length=n:=⟨_,rfl⟩;have f:Hid (ks.length=n):=I;have UC:=mF.1;rw[I]at hl UC ⊢;clear I;have E:=jb Tryz.underlying138;go_enter Tryz.func97,Tryz.ntmps97;go_wp2;clear E
 go_loopw [11] (fun i wr=>∃k:Nat,i=.int .i64 k/\k<=n/\Below w.heap.size w wr/\CS wr w.heap.size (ks.take k)) (fun i _=>n - (intOf i).toNat)
 case atStart=>exact⟨0,rfl,Nat.zero_le _,(Below.refl _ _).alloc (Nat.le_refl _) _,CS.made w⟩
 case round=>
  obtain⟨k,rfl,hk,m,D,K,Y,Qx,Z⟩:=hrel;have HH:Hid (∀s,vw s->Maps.has D (Bl s)=vY (ks.take k) s):=Y;have j:Hid (Maps.size D=(ks.take k).length↔noKeyTwice (ks.take k)=true):=Z;have F:Hid (Maps.size D<=(ks.take k).length):=Qx;have N:Hid ((ks.take k).length=k):=by show _=_;rw[List.length_take,f.out];omega
  clear Y Qx Z
  by_cases A:k<n
  ·have hki:(k:Int)<(n:Int):=by omega
   obtain⟨a,ZY,xf,U⟩:=mF.2 k (by rw[f.out];exact A);subst ZY;have je:wr.cell? (a.add k)=some (.string (ks.getD k aH)):=(World.cell?_of_block (by rw[bu];exact m.block _ (hO _ xf))).trans U;have d:ks.take (k+1)=ks.take k++ [ks.getD k aH]:=by
    have z:k<ks.length:=by rw[f.out];exact A
    rw[List.take_add_one,List.getElem?_eq_getElem z,List.getD_eq_getElem?_getD,List.getElem?_eq_getElem z];rfl
   have G:(ks.getD k aH).size<=1000000000:=Et _ (by
    have z:k<ks.length:=by rw[f.out];exact A
    rw[List.getD_eq_getElem?_getD,List.getElem?_eq_getElem z];exact List.getElem_mem _)
   obtain⟨u,hu⟩:∃u,ks.getD k aH=u:=⟨_,rfl⟩;rw[hu]at je d G;have IP:Hid (ks.take (k+1)=ks.take k++ [u]):=d;clear d hu U;have xO:vw u:=by unfold vw maxLen;omega
   have jr:=RO xO;have Je:Hid ((ks.take k).length<maxLen):=by show _<_;rw[N.out];unfold maxLen;omega
   have HV:Hid (unitElem (H:=Unit) (.agg #[])=some (.agg [], [])):=unitElem_mk;go_wp2_with(at_mapUpdate;refine wpList_mapUpdate_own _ rfl _ _ _ 138 rfl 9 139 yS Tryz.underlying138 _ w.heap.size (ks.take k).length D rfl K Je.out _ _ _ rfl rfl jr (.agg []) [] HV.out ?_;intro w2 gI nM);go_roundw
   case rel=>exact⟨k+1,by go_num,A,m.trans ((ag.dt (S:=fun k=>k=w.heap.size) nM fun _ _ e=>(Option.some.inj e).symm).below m.size fun k hk=>by omega),by rw[IP.out];exact CS.put K gI HH.out F.out j.out xO⟩
   case measure=>simp[intOf];omega
  ·obtain rfl:k=n:=by omega
   have V:ks.take k=ks:=List.take_of_length_le (by rw[f.out];omega);have T:decide ((Maps.size D:Int)=(k:Int))=noKeyTwice ks:=by
    have h:=j.out;rw[V,f.out]at h;rw[Bool.eq_iff_iff,<-h,decide_eq_true_eq];omega
   have X:Hid (decide ((Maps.size D:Int)=(k:Int))=noKeyTwice ks):=T;clear T V;go_wp2_with(at_len;refine wpList_len_own _ rfl _ 138 rfl 9 139 Tryz.underlying138 _ w.heap.size (ks.take k).length D rfl K ?_);go_ret;exact⟨ak (by first| exact X.out| simpa using X.out),m⟩
open Go.RowKit
def J7(O:Nat->Prop)(B:Nat)(vk vl:Value)(w:World):Nat->Prop:=fun k=>O k\/ (B<=k/\k<w.heap.size/\vk.ownBlock≠some k/\vl.ownBlock≠some k)
structure TI(O:Nat->Prop)(B g:Nat)(kd:Int)(WB:World)(ks:List ByteArray)(js:List J)(vk vl:Value)(w:World):Prop where
 obj:w.heap[g]?=some (.cells #[.int .i64 kd,.int .i64 0,.string ⟨#[]⟩,vk,vl] 25 (0,0))
 keys:w.ownsRow B 9 1 vk ks.length (ks.map Value.string)
 eD:∃xs,w.ownsRow B 25 5 vl js.length xs/\isRow (J7 O B vk vl w) w js xs
 ne:∀i,vk.ownBlock=some i->vl.ownBlock≠some i
 bf:ag (One g) WB w
 IQ:WB.heap.size=B
 lt:g<B
 low:∀k,O k->k<B/\k≠g
theorem fe{w:World}{B e size n:Nat}{v:Value}{xs:List Value}(h:w.ownsRow B e size v n xs):∃q c,v=.slice q n c:=by
 rcases h.2 with⟨d,h0⟩| ⟨f,j,cur,d,_⟩
 ·exact⟨none,0,by rw[d,h0]⟩
 ·exact⟨_,_,d⟩
section
variable {O : Nat -> Prop} {B g : Nat} {kd : Int} {WB W W2 W5 : World} {ks : List ByteArray} {js : List J} {vk vl kG iM : Value}
theorem TI.size(h:TI O B g kd WB ks js vk vl W):B<=W.heap.size:=by have:=h.bf.size;have:=h.IQ;omega
theorem TI.start(d:WB.heap.size=B)(f:g<B)(j:∀k,O k->k<B/\k≠g)(c:WB.heap[g]?=some (.cells #[.int .i64 kd,.int .i64 0,.string ⟨#[]⟩,.slice none 0 0,.slice none 0 0] 25 (0,0))):TI O B g kd WB [] [] (.slice none 0 0) (.slice none 0 0) WB:=
 ⟨c,World.ownsRow_nil _ _ _ _,⟨[],World.ownsRow_nil _ _ _ _,rfl⟩,(fun i h=>by cases h),ag.refl _ _,d,f,j⟩
theorem TI.more(h:TI O B g kd WB ks js vk vl W)(d:Below W.heap.size W W2):TI O B g kd WB ks js vk vl W2:=by
 have j:=h.size;have f:=h.lt;obtain⟨xs,h1,h2⟩:=h.eD;have kp:ag (fun _=>False) W W2:=ag.fJ d;refine⟨(d.block g (by omega)).trans h.obj,aX h.keys kp fun _ _ h=>h,⟨xs,aX h1 kp fun _ _ h=>h,h2.carry fun k c=> ?_⟩,h.ne,h.bf.trans kp fun _ _ h=>h.elim,h.IQ,f,h.low⟩
 rcases c with c| c
 ·have:=h.low k c;exact⟨.inl c,d.block k (by omega)⟩
 ·exact⟨.inr ⟨c.1,by have:=c.2.1;have:=d.size;omega,c.2.2⟩,d.block k c.2.1⟩
theorem TI.drew(h:TI O B g kd WB ks js vk vl W):TI O B g kd WB ks js vk vl W.drew:=h.more ⟨rfl,rfl,rfl,Nat.le_refl _,fun _ _=>rfl⟩
theorem TI.alloc(h:TI O B g kd WB ks js vk vl W)(o:Obj):TI O B g kd WB ks js vk vl (W.alloc o):=h.more ((Below.refl _ _).alloc (Nat.le_refl _) o)
theorem TI.fresh(h:TI O B g kd WB ks js vk vl W)(_hb:Below W.heap.size W W2){y:J}{cs:List Value}(f:isJ (fun k=>O k\/ gH W W2 k) W2 y cs):isJ (J7 O B vk vl W2) W2 y cs:=by
 have m:=h.size;obtain⟨xs,h1,_⟩:=h.eD;refine f.carry fun k c=>⟨?_,rfl⟩
 rcases c with c| c
 ·exact .inl c
 ·have j:=c.1;have d:=c.2;exact .inr ⟨by omega,d,fun e=>by have:=(aJ h.keys k e).2;omega,fun e=>by have:=(aJ h1 k e).2;omega⟩
theorem J8(d:Below W.heap.size W W2)(f:∀k,O k->k<W.heap.size){y:J}{cs:List Value}(h:isJ (J7 O B vk vl W) W y cs):isJ (J7 O B vk vl W2) W2 y cs:=by
 refine h.carry fun k c=> ?_
 rcases c with c| c
 ·exact⟨.inl c,d.block k (f k c)⟩
 ·exact⟨.inr ⟨c.1,by have:=c.2.1;have:=d.size;omega,c.2.2⟩,d.block k c.2.1⟩
theorem TI.key(h:TI O B g kd WB ks js vk vl W){x:ByteArray}(F:W2.ownsRow B 9 1 kG (ks.length+1) (ks.map Value.string++ [.string x]))(d:W.grownBy W2 vk.ownBlock)(u:kG.ownBlock=vk.ownBlock\/ kG.ownBlock=some W.heap.size):
    W2.cell? ⟨g,3,none⟩=some vk/\W2.frozen? ⟨g,3,none⟩=false/\TI O B g kd WB (ks++ [x]) js kG vl (W2.setCell ⟨g,3,none⟩ kG)/\∀k,J7 O B vk vl W k->J7 O B kG vl (W2.setCell ⟨g,3,none⟩ kG) k/\(W2.setCell ⟨g,3,none⟩ kG).heap[k]?=W.heap[k]?:=by
 have U:=h.size;have A:=h.lt;have T:=d.size;have G:=aJ h.keys;obtain⟨xs,E,N⟩:=h.eD;have z:=aJ E;have low:∀k,k<B->W2.heap[k]?=W.heap[k]?:=fun k c=>d.block k (by omega) fun e=>by have:=(G k e.symm).1;omega
 have m:W2.heap[g]?=some (.cells #[.int .i64 kd,.int .i64 0,.string ⟨#[]⟩,vk,vl] 25 (0,0)):=(low g A).trans h.obj;have K3:ag (One g) W2 (W2.setCell ⟨g,3,none⟩ kG):=ag.setCell (ag.refl _ _) (fun _=>(rfl:g=g)) _;have H:=aJ F;have carry:∀k,J7 O B vk vl W k->J7 O B kG vl (W2.setCell ⟨g,3,none⟩ kG) k/\(W2.setCell ⟨g,3,none⟩ kG).heap[k]?=W.heap[k]?:=fun k c=>by
  rcases c with c| c
  ·have:=h.low k c;exact⟨.inl c,by rw[K3.block k (by omega) (by unfold One;omega),low k this.1]⟩
  ·have I:=c.1;have K:=c.2.1;refine⟨.inr ⟨I,by have:=K3.size;omega,fun e=> ?_,c.2.2.2⟩,by rw[K3.block k (by omega) (by unfold One;omega),d.block k K fun e=>c.2.2.1 e.symm]⟩
   rcases u with j| j
   ·exact c.2.2.1 (j ▸ e)
   ·rw[j]at e;have:=Option.some.inj e;omega
 refine⟨fV m,iU m 3,⟨?_, ?_,⟨xs, ?_,N.carry carry⟩, ?_, ?_,h.IQ,A,h.low⟩,carry⟩
 ·rw[heap_setCell_same _ g 3 _ _ _ m];rfl
 ·rw[List.length_append,List.map_append];exact aX F K3 fun k e=>by have:=(H k e).1;unfold One;omega
 ·refine aX (aX E (S:=fun k=>vk.ownBlock=some k) (ag.dt d fun _ _ e=>e) fun k e f=>h.ne k f e) K3 fun k e=>by have:=(z k e).1;unfold One;omega
 ·intro i e f
  rcases u with h1| h1
  ·exact h.ne i (h1 ▸ e) f
  ·rw[h1]at e;have h2:=(z i f).2;have h3:=Option.some.inj e;omega
 ·exact(h.bf.trans (S':=fun k=>vk.ownBlock=some k) (ag.dt d fun _ _ e=>e) fun k c e=>by have:=(G k e).1;have:=h.IQ;omega).then K3
theorem TI.val(h:TI O B g kd WB ks js vk vl W){y:J}{cs xs:List Value}(K:W.ownsRow B 25 5 vl js.length xs)(U:isRow (J7 O B vk vl W) W js xs)(A:isJ (J7 O B vk vl W) W y cs)(j:W.grownBy W2 vl.ownBlock)(u:iM.ownBlock=vl.ownBlock\/ iM.ownBlock=some W.heap.size)
    (x:W5.heap[g]?=some (.cells #[.int .i64 kd,.int .i64 0,.string ⟨#[]⟩,vk,iM] 25 (0,0))) (F:W5.ownsRow B 25 5 iM (js.length+1) (xs++cs)) (m:ag (fun k=>k=g\/ iM.ownBlock=some k) W2 W5):TI O B g kd WB ks (js++ [y]) vk iM W5:=by
 have X:=h.size;have I:=h.lt;have V:=j.size;have z:=aJ h.keys;have E:=aJ K;have H:=aJ F;have carry:∀k,J7 O B vk vl W k->J7 O B vk iM W5 k/\W5.heap[k]?=W.heap[k]?:=by
  intro k d
  rcases d with d| d
  ·have:=h.low k d;exact⟨.inl d,by rw[m.block k (by omega) (fun e=>e.elim (fun e=>this.2 e) fun e=>by have:=(H k e).1;omega),j.block k (by omega) fun e=>by have:=(E k e.symm).1;omega]⟩
  ·have N:=d.1;have T:=d.2.1;have G:iM.ownBlock≠some k:=fun e=>by
    rcases u with f| f
    ·exact d.2.2.2 (f ▸ e)
    ·rw[f]at e;have:=Option.some.inj e;omega
   exact⟨.inr ⟨N,by have:=m.size;omega,d.2.2.1,G⟩,by rw[m.block k (by omega) (fun e=>e.elim (fun e=>by omega) G),j.block k T fun e=>d.2.2.2 e.symm]⟩
 refine⟨x, ?_,⟨xs++cs,by rw[List.length_append];exact F,isRow.snoc A.qC (A.carry carry) js xs (U.carry carry)⟩, ?_, ?_,h.IQ,I,h.low⟩
 ·refine aX (aX h.keys (S:=fun k=>vl.ownBlock=some k) (ag.dt j fun _ _ e=>e) fun k e c=>h.ne k e c) m fun k e c=> ?_
  rcases c with c| c
  ·have:=(z k e).1;omega
  ·rcases u with f| f
   ·exact h.ne k e (f ▸ c)
   ·rw[f]at c;have:=Option.some.inj c;have:=(z k e).2;omega
 ·intro i e c
  rcases u with f| f
  ·exact h.ne i e (f ▸ c)
  ·rw[f]at c;have:=Option.some.inj c;have:=(z i e).2;omega
 ·refine(h.bf.trans (S':=fun k=>vl.ownBlock=some k) (ag.dt j fun _ _ e=>e) fun k d e=>by have:=(E k e).1;have:=h.IQ;omega).trans m fun k d e=> ?_
  rcases e with e| e
  ·exact e
  ·have:=(H k e).1;have:=h.IQ;omega
end
def st5(w:World)(b o:Nat)(v0 v1 v2 v3 v4:Value):World:=((((w.setCell ⟨b,o,none⟩ v0).setCell ⟨b,o+1,none⟩ v1).setCell ⟨b,o+2,none⟩ v2).setCell ⟨b,o+3,none⟩ v3).setCell ⟨b,o+4,none⟩ v4
theorem yg(w:World)(b o:Nat)(v0 v1 v2 v3 v4:Value):ag (One b) w (st5 w b o v0 v1 v2 v3 v4):=by
 have K:∀(W:World) (o:Nat) (v:Value),ag (One b) W (W.setCell ⟨b,o,none⟩ v):=fun W o v=>ag.setCell (ag.refl _ _) (fun _=>(rfl:b=b)) _;exact((((K _ _ _).then (K _ _ _)).then (K _ _ _)).then (K _ _ _)).then (K _ _ _)
theorem Bu{w:World}{B e b m cap:Nat}{xs:List Value}{z0 c z2 z3 z4:Value}(h:w.ownsRow B e 5 (.slice (some ⟨b,0,none⟩) (m+1) cap) (m+1) (xs++ [z0,c,z2,z3,z4]))(d:xs.length=m*5)(v0 v1 v2 v3 v4:Value):
    (st5 w b (m*5) v0 v1 v2 v3 v4).ownsRow B e 5 (.slice (some ⟨b,0,none⟩) (m+1) cap) (m+1) (xs++ [v0,v1,v2,v3,v4]):=by
 have h1:=(((((h.stored (m*5) v0).1.stored (m*5+1) v1).1.stored (m*5+2) v2).1.stored (m*5+3) v3).1.stored (m*5+4) v4).1;have e:(((((xs++ [z0,c,z2,z3,z4]).set (m*5) v0).set (m*5+1) v1).set (m*5+2) v2).set (m*5+3) v3).set (m*5+4) v4=xs++ [v0,v1,v2,v3,v4]:=by
  rw[<-d];simp
 rw[e]at h1;exact h1
theorem Wm(w:World)(v:Value)(t:Nat):∀j u, [v][j]?=some u->(w.alloc (.cells #[v] t)).cell? ((⟨w.heap.size,0,none⟩:Addr).add j)=some u:=by
 intro j u c
 match j,c with
 | 0,c=>simp at c;subst c;exact aQ (cur:= [_]) (heap_alloc_new _ _) 0 _ rfl
theorem Bv{w:World}{b:Nat}{v:Value}{t:Nat}(h:w.heap.size=b):∀j u, [v][j]?=some u->(w.alloc (.cells #[v] t)).cell? ((⟨b,0,none⟩:Addr).add j)=some u:=by
 subst h;exact Wm w v t
theorem yh(x:ByteArray):∀u∈ [Value.string x],u.oneCell'=true:=by
 intro u c;simp at c;subst c;rfl
theorem SN(w:World)(t:Nat)(y0 y1 y2 y3 y4:Value):∀j u, [y0,y1,y2,y3,y4][j]?=some u->(w.alloc (.cells #[y0,y1,y2,y3,y4] t)).cell? ((⟨w.heap.size,0,none⟩:Addr).add j)=some u:=by
 intro j u c;have e:(⟨w.heap.size,0,none⟩:Addr).add j=⟨w.heap.size,j,none⟩:=by unfold Addr.add;split<;>simp_all
 rw[e];exact aQ (cur:= [_,_,_,_,_]) (heap_alloc_new _ _) j u c
theorem jS{w:World}{b t:Nat}{y0 y1 y2 y3 y4:Value}(h:w.heap.size=b):∀j u, [y0,y1,y2,y3,y4][j]?=some u->(w.alloc (.cells #[y0,y1,y2,y3,y4] t)).cell? ((⟨b,0,none⟩:Addr).add j)=some u:=by
 subst h;exact SN w t y0 y1 y2 y3 y4
theorem nA{w:World}{dQ:Array Oper}{rest:List Oper}{o:Oper}{a:Act}{Q:Exit->Act->World->Prop}(N:o.guard=none)(s x:Operand)(t:TypeId)
    (E:o.op=.call {callee:=.builtin .append,args:=#[s,x],argTypes:=#[t,t]})
    (base:Nat) (e:TypeId) (z:Value) (size bytes:Nat) (k:Tryz.prog.underlying t=some (.slice e)) (F:(Tryz.prog.info? e).map (fun i=>(i.zero,i.size,i.bytes))=some (some z,size,bytes))
    (d:z.cells.size=size) (A:0<size) (I:bytes<=100)
    (v:Value) (n:Nat) (xs:List Value) (V:a.eval s=v) (S:w.ownsRow base e size v n xs)
    (f:Addr) (news:List Value) (T:a.eval x=.slice (some f) 1 1) (U:news.length=size) (m:∀j u,news[j]?=some u->w.cell? (f.add j)=some u) (h1:∀u∈news,u.oneCell'=true)
    (G:n<=1000000) (K:base<=w.heap.size)
    (h:∀c w',w'.ownsRow base e size c (n+1) (xs++news)->w.grownBy w' v.ownBlock->(c.ownBlock=v.ownBlock\/ c.ownBlock=some w.heap.size)->wpList Tryz.prog dQ Q rest (a.put o.dst c) w'):wpList Tryz.prog dQ Q (o::rest) a w:=
 wpList_plain N fun _ H=>aP s x t E base e z size bytes k F d A I v n xs V S f news T U m h1 G K fun c w' h2 h3 h4=>H _ _ (h c w' h2 h3 h4)
theorem ik{w:World}{B e size n:Nat}{v:Value}{xs:List Value}(h:w.ownsRow B e size v (n+1) xs):∃b c,v=.slice (some ⟨b,0,none⟩) (n+1) c:=by
 rcases h.2 with⟨d,h0⟩| ⟨f,j,cur,d,_⟩
 ·omega
 ·exact⟨_,_,d⟩
abbrev zj5:List Value:= [.int .i64 0,.int .i64 0,.string ⟨#[]⟩,.slice none 0 0,.slice none 0 0]
theorem fo{O:Nat->Prop}{B g:Nat}{kd:Int}{WB w:World}{ks:List ByteArray}{js:List J}{vk vl:Value}{y:J}{k i:Int}{t:ByteArray}{pk pl:Option Addr}{nk ck nl cl:Nat}(h:TI O B g kd WB ks js vk vl w)
    (hy:isJ (J7 O B vk vl w) w y [.int .i64 k,.int .i64 i,.string t,.slice pk nk ck,.slice pl nl cl]) (hn:ks.length<=100000) (hm:js.length<=100000) (x:ByteArray):
    Calls Tryz.prog 66 #[.string x,.agg #[.int .i64 k,.int .i64 i,.string t,.slice pk nk ck,.slice pl nl cl],.pointer (some ⟨g,0,none⟩)] w fun e w'=>e=.returned (.tuple #[])/\∃kG iM,TI O B g kd WB (ks++ [x]) (js++ [y]) kG iM w':=by
 have rW:=h.low;have RH:=h.size;have h1:=(h.alloc (.cells #[.int .i64 k,.int .i64 i,.string t,.slice pk nk ck,.slice pl nl cl] 25)).alloc (.cells #[.string x] 9);have YQ:=J8 (W2:=(w.alloc (.cells #[.int .i64 k,.int .i64 i,.string t,.slice pk nk ck,.slice pl nl cl] 25)).alloc (.cells #[.string x] 9)) (((Below.refl _ _).alloc (Nat.le_refl _) _).alloc (by simp) _) (fun k hk=>by have:=(rW k hk).1;omega) hy;obtain⟨qk,Er,GI⟩:=fe h.keys;obtain⟨xs0,AQ,zgb⟩:=h.eD;obtain⟨ql,vD,xA⟩:=fe AQ;have hEb:J7 O B vk vl ((w.alloc (.cells #[.int .i64 k,.int .i64 i,.string t,.slice pk nk ck,.slice pl nl cl] 25)).alloc (.cells #[.string x] 9)) w.heap.size:=
  .inr ⟨RH,by simp;omega,fun e=>by have:=(aJ h.keys _ e).2;omega,fun e=>by have:=(aJ AQ _ e).2;omega⟩
 have vV:((w.alloc (.cells #[.int .i64 k,.int .i64 i,.string t,.slice pk nk ck,.slice pl nl cl] 25)).alloc (.cells #[.string x] 9)).heap[w.heap.size]?=some (.cells #[.int .i64 k,.int .i64 i,.string t,.slice pk nk ck,.slice pl nl cl] 25 (0,0)):=by
  rw[Below.heap_alloc _ _ _ (by simp)];exact heap_alloc_new _ _
 have c3:=fV (h.alloc (.cells #[.int .i64 k,.int .i64 i,.string t,.slice pk nk ck,.slice pl nl cl] 25)).obj;have HL:Hid (∀k,O k->k<B/\k≠g):=rW;have zd3:Hid (vl.ownBlock≠some w.heap.size):=fun e=>by have:=(aJ AQ _ e).2;omega
 clear AQ zgb xs0 rW hy;subst GI xA;have HNE:Hid ((Value.slice ql js.length vD).ownBlock≠some w.heap.size):=zd3.out;clear zd3;go_enter Tryz.func66,Tryz.ntmps66;go_wp2_with(at_builtin;refine nA rfl _ _ 22 rfl B 9 (.string ⟨#[]⟩) 1 16 Tryz.underlying22 Tryz.jM rfl (by decide) (by decide) _ ks.length (ks.map Value.string) rfl h1.keys _ [.string x] rfl rfl (Bv (by simp)) (yh x) (by omega) h1.size ?_;intro P8 W2 gI nM uD;obtain⟨d3,f3,h3,AR⟩:=h1.key gI nM uD;obtain⟨b2,c2,fC⟩:=ik gI;subst fC);have hy3:=YQ.carry fun k hk=>AR k hk;have Wn:=(AR _ hEb).2.trans vV;have HBX:Hid ((W2.setCell ⟨g,3,none⟩ (.slice (some ⟨b2,0,none⟩) (ks.length+1) c2)).heap[w.heap.size]?=some (.cells #[.int .i64 k,.int .i64 i,.string t,.slice pk nk ck,.slice pl nl cl] 25 (0,0))):=Wn;clear AR YQ h1 vV Wn hEb gI nM uD d3 f3;obtain⟨G,FL⟩:∃G,G=W2.setCell ⟨g,3,none⟩ (.slice (some ⟨b2,0,none⟩) (ks.length+1) c2):=⟨_,rfl⟩;rw[<-FL]at h3 hy3 HBX ⊢;clear FL c3;have hd:=h3.drew;have Y:=hd.alloc (.cells #[.int .i64 0,.int .i64 0,.string ⟨#[]⟩,.slice none 0 0,.slice none 0 0] 25);obtain⟨xs,cK,fC⟩:=Y.eD;have hyA:=J8 (W:=G) (W2:=G.drew.alloc (.cells #[.int .i64 0,.int .i64 0,.string ⟨#[]⟩,.slice none 0 0,.slice none 0 0] 25)) ((show Below G.heap.size G G.drew from⟨rfl,rfl,rfl,Nat.le_refl _,fun _ _=>rfl⟩).alloc (Nat.le_refl _) _) (fun k hk=>by have:=(HL.out k hk).1;have:=h3.size;omega) hy3;have d4:=aZ hd.obj;have a4:(G.alloc (.cells #[.int .i64 0,.int .i64 0,.string ⟨#[]⟩,.slice none 0 0,.slice none 0 0] 25)).drew.cell? ⟨g,4,none⟩=some (.slice ql js.length vD):=aZ Y.obj;have hbs:=(Array.getElem?_eq_some_iff.1 HBX.out).1;have HC:Hid (∀W:World,W.heap[w.heap.size]?=some (.cells #[.int .i64 k,.int .i64 i,.string t,.slice pk nk ck,.slice pl nl cl] 25 (0,0))->∀n v, [Value.int .i64 k,.int .i64 i,.string t,.slice pk nk ck,.slice pl nl cl][n]?=some v->W.cell? ⟨w.heap.size,n,none⟩=some v):=fun W hW n v hv=>aQ (cur:= [_,_,_,_,_]) hW n v hv;have fM:G.drew.heap[w.heap.size]?=some (.cells #[.int .i64 k,.int .i64 i,.string t,.slice pk nk ck,.slice pl nl cl] 25 (0,0)):=HBX.out;have iI:(G.drew.alloc (.cells #[.int .i64 0,.int .i64 0,.string ⟨#[]⟩,.slice none 0 0,.slice none 0 0] 25)).heap[w.heap.size]?=some (.cells #[.int .i64 k,.int .i64 i,.string t,.slice pk nk ck,.slice pl nl cl] 25 (0,0)):=(Below.heap_alloc _ _ _ hbs).trans fM;have F:Hid (xs.length=js.length*5):=cK.1;refine aD (by kernel_rfl) (fun W=>W.heap[w.heap.size]?=some (.cells #[.int .i64 k,.int .i64 i,.string t,.slice pk nk ck,.slice pl nl cl] 25 (0,0))) ?_;change wpIn _ _ _ _ _ _ _ _ (World.drew _);refine aa (i:=0) (d:=some 11) rfl ?_;refine aC (i:=2) (d:=some 13) rfl (by(intro wq hq;have q0:=HC.out wq hq 0 _ rfl;have q1:=HC.out wq hq 1 _ rfl;have q2:=HC.out wq hq 2 _ rfl;have q3:=HC.out wq hq 3 _ rfl;have q4:=HC.out wq hq 4 _ rfl;go_simp;first| done| with_reducible rfl)) ?_;refine bR (i:=1) (j:=4) fM (by kernel_rfl) rfl rfl (by rfl) (by rfl) ?_ ?_
 ·intro K c;go_simp;refine c _ _ ?_;clear c K;refine aa (i:=3) (d:=some 14) rfl ?_;refine av (i:=4) fM rfl ?_;intro K c;go_simp;refine c _ _ ?_;clear c K;refine av (i:=5) iI rfl ?_;intro K c;refine aP (.tmp 12) (.tmp 15) 23 rfl B 25 (.agg #[.int .i64 0,.int .i64 0,.string ⟨#[]⟩,.slice none 0 0,.slice none 0 0]) 5 80 Tryz.underlying23 Tryz.eB rfl (by decide) (by decide) _ js.length xs rfl cK _ zj5 rfl rfl (jS (by simp)) (by decide) (by omega) Y.size ?_;intro oh W4 E lZ ib;refine c _ _ ?_;clear c K;obtain⟨b4,c4,xM⟩:=ik E;subst xM;have nN:(G.drew.alloc (.cells #[.int .i64 0,.int .i64 0,.string ⟨#[]⟩,.slice none 0 0,.slice none 0 0] 25)).grownBy W4 (Value.slice ql js.length vD).ownBlock:=lZ;have lQ:(Value.slice (some ⟨b4,0,none⟩) (js.length+1) c4).ownBlock=(Value.slice ql js.length vD).ownBlock\/ (Value.slice (some ⟨b4,0,none⟩) (js.length+1) c4).ownBlock=some (G.drew.alloc (.cells #[.int .i64 0,.int .i64 0,.string ⟨#[]⟩,.slice none 0 0,.slice none 0 0] 25)).heap.size:=ib;have o9:=aJ cK;have Wo:=aJ E;have zgc:=(Wo b4 rfl).1;have zgd:=h3.lt;have FM:=Y.size;have dK:b4≠w.heap.size:=fun e=>by
   rcases lQ with h'| h'
   ·exact HNE.out (h'.symm.trans (by rw[<-e];rfl))
   ·have:=Option.some.inj h';simp at this;have:=hbs;omega
  have CU:W4.heap[g]?=some (.cells #[.int .i64 kd,.int .i64 0,.string ⟨#[]⟩,.slice (some ⟨b2,0,none⟩) (ks.length+1) c2,.slice ql js.length vD] 25 (0,0)):=(nN.block g (by omega) fun e=>by have:=(o9 g e.symm).1;omega).trans Y.obj;have mH:W4.heap[w.heap.size]?=some (.cells #[.int .i64 k,.int .i64 i,.string t,.slice pk nk ck,.slice pl nl cl] 25 (0,0)):=(nN.block w.heap.size (by simp;exact Nat.lt_succ_of_lt hbs) fun e=>HNE.out e.symm).trans iI;have Z:Hid ((Value.slice (some ⟨b4,0,none⟩) (js.length+1) c4).ownBlock=(Value.slice ql js.length vD).ownBlock\/ (Value.slice (some ⟨b4,0,none⟩) (js.length+1) c4).ownBlock=some (G.drew.alloc (.cells #[.int .i64 0,.int .i64 0,.string ⟨#[]⟩,.slice none 0 0,.slice none 0 0] 25)).heap.size):=lQ;clear lZ ib Wo lQ;have f:∀(W:World),W.ownsRow B 25 5 (.slice (some ⟨b4,0,none⟩) (js.length+1) c4) (js.length+1) (xs++zj5)->∀j u,zj5[j]?=some u->W.cell? ⟨b4,js.length*5+j,none⟩=some u/\W.frozen? ⟨b4,js.length*5+j,none⟩=false:=fun W hW j u hj=>by
   have ZZ:j<5:=(List.getElem?_eq_some_iff.1 hj).1;refine⟨(hW.cellAt (js.length*5+j) (by omega)).trans ?_,hW.frozenAt _⟩;rw[List.getElem?_append_right (by rw[F.out];omega),F.out,Nat.add_sub_cancel_left];exact hj
  have hli:(js.length:Int)<(js.length:Int)+1:=by omega
  refine aa (i:=6) (d:=some 17) rfl ?_;refine aa (i:=8) (d:=some 18) rfl ?_;refine bR (i:=7) (j:=9) mH (by kernel_rfl) rfl rfl (by rfl) (by rfl) ?_ ?_
  ·intro K c;have e0:=f W4 E 0 _ rfl;have e1:=f W4 E 1 _ rfl;have e2:=f W4 E 2 _ rfl;have e3:=f W4 E 3 _ rfl;have e4:=f W4 E 4 _ rfl;obtain⟨Wp,Wq⟩:=e0;obtain⟨Oa,Ob⟩:=e1;obtain⟨U,I⟩:=e2;obtain⟨N,H⟩:=e3;obtain⟨S,T⟩:=e4;rw[Nat.add_zero]at Wp Wq;go_simp;refine c _ _ ?_;clear c K;have kp:=yg W4 b4 (js.length*5) (.int .i64 k) (.int .i64 i) (.string t) (.slice pk nk ck) (.slice pl nl cl);have m:=Bu E F.out (.int .i64 k) (.int .i64 i) (.string t) (.slice pk nk ck) (.slice pl nl cl);have A:=(kp.block g (by have:=(Array.getElem?_eq_some_iff.1 CU).1;omega) (by unfold One;omega)).trans CU;have z:=(kp.block w.heap.size (Array.getElem?_eq_some_iff.1 mH).1 (by unfold One;omega)).trans mH;have g0:=aZ A;have g1:=iU A 4;obtain⟨W5,X⟩:∃W5,W5=st5 W4 b4 (js.length*5) (.int .i64 k) (.int .i64 i) (.string t) (.slice pk nk ck) (.slice pl nl cl):=⟨_,rfl⟩;rw[<-X]at kp m A z g0 g1;have Oc:=X;unfold st5 at Oc;rw[<-Oc];clear X Oc Wp Wq Oa Ob U I N H S T f;refine av (i:=9) z rfl ?_;intro K c;go_simp;refine c _ _ ?_;clear c K;have K3:ag (One g) W5 (W5.setCell ⟨g,4,none⟩ (.slice (some ⟨b4,0,none⟩) (js.length+1) c4)):=ag.setCell (ag.refl _ _) (fun _=>(rfl:g=g)) _;have V:=(K3.block w.heap.size (Array.getElem?_eq_some_iff.1 z).1 (by unfold One;omega)).trans z;have mZ:=Y.val cK fC hyA nN Z.out (W5:=W5.setCell ⟨g,4,none⟩ (.slice (some ⟨b4,0,none⟩) (js.length+1) c4)) (by rw[heap_setCell_same _ g 4 _ _ _ A];rfl) (aX m K3 fun q e=>by have:=Option.some.inj e;unfold One;simp at this;omega) ((kp.mono fun q _ e=>.inr (by unfold One at e;rw[e];rfl)).then (K3.mono fun q _ e=>.inl e));refine aB V (by kernel_rfl) ?_ _;clear z V g0 g1 A m kp;go_wp2
   go_end0
   exact⟨rfl,_,_,mZ⟩
  ·intro K c;have g0:=aZ CU;have g1:=iU CU 4;go_simp;refine c _ _ ?_;clear c K;have K3:ag (One g) W4 (W4.setCell ⟨g,4,none⟩ (.slice (some ⟨b4,0,none⟩) (js.length+1) c4)):=ag.setCell (ag.refl _ _) (fun _=>(rfl:g=g)) _;have A:(W4.setCell ⟨g,4,none⟩ (.slice (some ⟨b4,0,none⟩) (js.length+1) c4)).heap[g]?=some (.cells #[.int .i64 kd,.int .i64 0,.string ⟨#[]⟩,.slice (some ⟨b2,0,none⟩) (ks.length+1) c2,.slice (some ⟨b4,0,none⟩) (js.length+1) c4] 25 (0,0)):=by rw[heap_setCell_same _ g 4 _ _ _ CU];rfl
   have z:=(K3.block w.heap.size (Array.getElem?_eq_some_iff.1 mH).1 (by unfold One;omega)).trans mH;have m:=aX E K3 fun q e=>by have:=Option.some.inj e;unfold One;simp at this;omega
   obtain⟨W5,X⟩:∃W5,W5=W4.setCell ⟨g,4,none⟩ (.slice (some ⟨b4,0,none⟩) (js.length+1) c4):=⟨_,rfl⟩;rw[<-X]at K3 m A z ⊢;clear X g0 g1;have e0:=f W5 m 0 _ rfl;have e1:=f W5 m 1 _ rfl;have e2:=f W5 m 2 _ rfl;have e3:=f W5 m 3 _ rfl;have e4:=f W5 m 4 _ rfl;obtain⟨Wp,Wq⟩:=e0;obtain⟨Oa,Ob⟩:=e1;obtain⟨U,I⟩:=e2;obtain⟨N,H⟩:=e3;obtain⟨S,T⟩:=e4;rw[Nat.add_zero]at Wp Wq;refine av (i:=7) z rfl ?_;intro K c;go_simp;refine c _ _ ?_;clear c K;have kp:=yg W5 b4 (js.length*5) (.int .i64 k) (.int .i64 i) (.string t) (.slice pk nk ck) (.slice pl nl cl);have ow5:=Bu m F.out (.int .i64 k) (.int .i64 i) (.string t) (.slice pk nk ck) (.slice pl nl cl);have ob6:=(kp.block g (by have:=(Array.getElem?_eq_some_iff.1 A).1;omega) (by unfold One;omega)).trans A;have V:=(kp.block w.heap.size (Array.getElem?_eq_some_iff.1 z).1 (by unfold One;omega)).trans z;have mZ:=Y.val cK fC hyA nN Z.out ob6 ow5 ((K3.mono fun q _ e=>.inl e).then (kp.mono fun q _ e=>.inr (by unfold One at e;rw[e];rfl)));unfold st5 at V mZ;refine aB V (by kernel_rfl) ?_ _;clear z V Wp Wq Oa Ob U I N H S T f m ow5 A ob6 kp;go_wp2
   go_end0
   exact⟨rfl,_,_,mZ⟩
 ·intro K c;go_simp;refine c _ _ ?_;clear c K;refine av (i:=1) iI rfl ?_;intro K c;go_simp;refine c _ _ ?_;clear c K;refine aa (i:=3) (d:=some 14) rfl ?_;refine av (i:=5) iI rfl ?_;intro K c;refine aP (.tmp 12) (.tmp 15) 23 rfl B 25 (.agg #[.int .i64 0,.int .i64 0,.string ⟨#[]⟩,.slice none 0 0,.slice none 0 0]) 5 80 Tryz.underlying23 Tryz.eB rfl (by decide) (by decide) _ js.length xs rfl cK _ zj5 rfl rfl (jS (by simp)) (by decide) (by omega) Y.size ?_;intro oh W4 E lZ ib;refine c _ _ ?_;clear c K;obtain⟨b4,c4,xM⟩:=ik E;subst xM;have nN:(G.drew.alloc (.cells #[.int .i64 0,.int .i64 0,.string ⟨#[]⟩,.slice none 0 0,.slice none 0 0] 25)).grownBy W4 (Value.slice ql js.length vD).ownBlock:=lZ;have lQ:(Value.slice (some ⟨b4,0,none⟩) (js.length+1) c4).ownBlock=(Value.slice ql js.length vD).ownBlock\/ (Value.slice (some ⟨b4,0,none⟩) (js.length+1) c4).ownBlock=some (G.drew.alloc (.cells #[.int .i64 0,.int .i64 0,.string ⟨#[]⟩,.slice none 0 0,.slice none 0 0] 25)).heap.size:=ib;have o9:=aJ cK;have Wo:=aJ E;have zgc:=(Wo b4 rfl).1;have zgd:=h3.lt;have FM:=Y.size;have dK:b4≠w.heap.size:=fun e=>by
   rcases lQ with h'| h'
   ·exact HNE.out (h'.symm.trans (by rw[<-e];rfl))
   ·have:=Option.some.inj h';simp at this;have:=hbs;omega
  have CU:W4.heap[g]?=some (.cells #[.int .i64 kd,.int .i64 0,.string ⟨#[]⟩,.slice (some ⟨b2,0,none⟩) (ks.length+1) c2,.slice ql js.length vD] 25 (0,0)):=(nN.block g (by omega) fun e=>by have:=(o9 g e.symm).1;omega).trans Y.obj;have mH:W4.heap[w.heap.size]?=some (.cells #[.int .i64 k,.int .i64 i,.string t,.slice pk nk ck,.slice pl nl cl] 25 (0,0)):=(nN.block w.heap.size (by simp;exact Nat.lt_succ_of_lt hbs) fun e=>HNE.out e.symm).trans iI;have Z:Hid ((Value.slice (some ⟨b4,0,none⟩) (js.length+1) c4).ownBlock=(Value.slice ql js.length vD).ownBlock\/ (Value.slice (some ⟨b4,0,none⟩) (js.length+1) c4).ownBlock=some (G.drew.alloc (.cells #[.int .i64 0,.int .i64 0,.string ⟨#[]⟩,.slice none 0 0,.slice none 0 0] 25)).heap.size):=lQ;clear lZ ib Wo lQ;have f:∀(W:World),W.ownsRow B 25 5 (.slice (some ⟨b4,0,none⟩) (js.length+1) c4) (js.length+1) (xs++zj5)->∀j u,zj5[j]?=some u->W.cell? ⟨b4,js.length*5+j,none⟩=some u/\W.frozen? ⟨b4,js.length*5+j,none⟩=false:=fun W hW j u hj=>by
   have ZZ:j<5:=(List.getElem?_eq_some_iff.1 hj).1;refine⟨(hW.cellAt (js.length*5+j) (by omega)).trans ?_,hW.frozenAt _⟩;rw[List.getElem?_append_right (by rw[F.out];omega),F.out,Nat.add_sub_cancel_left];exact hj
  have hli:(js.length:Int)<(js.length:Int)+1:=by omega
  refine aa (i:=6) (d:=some 17) rfl ?_;refine aa (i:=8) (d:=some 18) rfl ?_;refine bR (i:=7) (j:=9) mH (by kernel_rfl) rfl rfl (by rfl) (by rfl) ?_ ?_
  ·intro K c;have e0:=f W4 E 0 _ rfl;have e1:=f W4 E 1 _ rfl;have e2:=f W4 E 2 _ rfl;have e3:=f W4 E 3 _ rfl;have e4:=f W4 E 4 _ rfl;obtain⟨Wp,Wq⟩:=e0;obtain⟨Oa,Ob⟩:=e1;obtain⟨U,I⟩:=e2;obtain⟨N,H⟩:=e3;obtain⟨S,T⟩:=e4;rw[Nat.add_zero]at Wp Wq;go_simp;refine c _ _ ?_;clear c K;have kp:=yg W4 b4 (js.length*5) (.int .i64 k) (.int .i64 i) (.string t) (.slice pk nk ck) (.slice pl nl cl);have m:=Bu E F.out (.int .i64 k) (.int .i64 i) (.string t) (.slice pk nk ck) (.slice pl nl cl);have A:=(kp.block g (by have:=(Array.getElem?_eq_some_iff.1 CU).1;omega) (by unfold One;omega)).trans CU;have z:=(kp.block w.heap.size (Array.getElem?_eq_some_iff.1 mH).1 (by unfold One;omega)).trans mH;have g0:=aZ A;have g1:=iU A 4;obtain⟨W5,X⟩:∃W5,W5=st5 W4 b4 (js.length*5) (.int .i64 k) (.int .i64 i) (.string t) (.slice pk nk ck) (.slice pl nl cl):=⟨_,rfl⟩;rw[<-X]at kp m A z g0 g1;have Oc:=X;unfold st5 at Oc;rw[<-Oc];clear X Oc Wp Wq Oa Ob U I N H S T f;refine av (i:=9) z rfl ?_;intro K c;go_simp;refine c _ _ ?_;clear c K;have K3:ag (One g) W5 (W5.setCell ⟨g,4,none⟩ (.slice (some ⟨b4,0,none⟩) (js.length+1) c4)):=ag.setCell (ag.refl _ _) (fun _=>(rfl:g=g)) _;have V:=(K3.block w.heap.size (Array.getElem?_eq_some_iff.1 z).1 (by unfold One;omega)).trans z;have mZ:=Y.val cK fC hyA nN Z.out (W5:=W5.setCell ⟨g,4,none⟩ (.slice (some ⟨b4,0,none⟩) (js.length+1) c4)) (by rw[heap_setCell_same _ g 4 _ _ _ A];rfl) (aX m K3 fun q e=>by have:=Option.some.inj e;unfold One;simp at this;omega) ((kp.mono fun q _ e=>.inr (by unfold One at e;rw[e];rfl)).then (K3.mono fun q _ e=>.inl e));refine aB V (by kernel_rfl) ?_ _;clear z V g0 g1 A m kp;go_wp2
   go_end0
   exact⟨rfl,_,_,mZ⟩
  ·intro K c;have g0:=aZ CU;have g1:=iU CU 4;go_simp;refine c _ _ ?_;clear c K;have K3:ag (One g) W4 (W4.setCell ⟨g,4,none⟩ (.slice (some ⟨b4,0,none⟩) (js.length+1) c4)):=ag.setCell (ag.refl _ _) (fun _=>(rfl:g=g)) _;have A:(W4.setCell ⟨g,4,none⟩ (.slice (some ⟨b4,0,none⟩) (js.length+1) c4)).heap[g]?=some (.cells #[.int .i64 kd,.int .i64 0,.string ⟨#[]⟩,.slice (some ⟨b2,0,none⟩) (ks.length+1) c2,.slice (some ⟨b4,0,none⟩) (js.length+1) c4] 25 (0,0)):=by rw[heap_setCell_same _ g 4 _ _ _ CU];rfl
   have z:=(K3.block w.heap.size (Array.getElem?_eq_some_iff.1 mH).1 (by unfold One;omega)).trans mH;have m:=aX E K3 fun q e=>by have:=Option.some.inj e;unfold One;simp at this;omega
   obtain⟨W5,X⟩:∃W5,W5=W4.setCell ⟨g,4,none⟩ (.slice (some ⟨b4,0,none⟩) (js.length+1) c4):=⟨_,rfl⟩;rw[<-X]at K3 m A z ⊢;clear X g0 g1;have e0:=f W5 m 0 _ rfl;have e1:=f W5 m 1 _ rfl;have e2:=f W5 m 2 _ rfl;have e3:=f W5 m 3 _ rfl;have e4:=f W5 m 4 _ rfl;obtain⟨Wp,Wq⟩:=e0;obtain⟨Oa,Ob⟩:=e1;obtain⟨U,I⟩:=e2;obtain⟨N,H⟩:=e3;obtain⟨S,T⟩:=e4;rw[Nat.add_zero]at Wp Wq;refine av (i:=7) z rfl ?_;intro K c;go_simp;refine c _ _ ?_;clear c K;have kp:=yg W5 b4 (js.length*5) (.int .i64 k) (.int .i64 i) (.string t) (.slice pk nk ck) (.slice pl nl cl);have ow5:=Bu m F.out (.int .i64 k) (.int .i64 i) (.string t) (.slice pk nk ck) (.slice pl nl cl);have ob6:=(kp.block g (by have:=(Array.getElem?_eq_some_iff.1 A).1;omega) (by unfold One;omega)).trans A;have V:=(kp.block w.heap.size (Array.getElem?_eq_some_iff.1 z).1 (by unfold One;omega)).trans z;have mZ:=Y.val cK fC hyA nN Z.out ob6 ow5 ((K3.mono fun q _ e=>.inl e).then (kp.mono fun q _ e=>.inr (by unfold One at e;rw[e];rfl)));unfold st5 at V mZ;refine aB V (by kernel_rfl) ?_ _;clear z V Wp Wq Oa Ob U I N H S T f m ow5 A ob6 kp;go_wp2
   go_end0
   exact⟨rfl,_,_,mZ⟩
theorem CV(n m:Int)(w:World):Calls Tryz.prog 61 #[.int .i64 n,.int .i64 m] w fun e w'=>e=.returned (.bool (eG n m))/\w=w':=by
 go_enter Tryz.func61,Tryz.ntmps61;go_wp2
 all_goals
  go_ret;refine⟨ak ?_,rfl⟩;unfold eG;rw[Bool.eq_iff_iff];simp;omega
theorem Ws(s:ByteArray):(SL s).size=s.size+1:=by
 unfold SL;rw[ByteArray.size_append,Nat.add_comm]
 rfl
theorem CW(s:ByteArray)(w:World)(h:s.size<=1000000000):
    Calls Tryz.prog 62 #[.string s] w fun e w'=>e=.returned (.bool (iX s))/\Below w.heap.size w w':=by
 have c:=Id.FJ (SL s) w (by rw[Ws];omega);have d:Hid (Id.vH (SL s)=iX s):=rfl;unfold SL at c d;go_enter Tryz.func62,Tryz.ntmps62;go_wp2_with(go_at_call 98;refine c.mono ?_;rintro e w' ⟨rfl,f⟩);go_ret;exact⟨ak d.out,f⟩
theorem jc(s:ByteArray)(w:World):
    Calls Tryz.prog 69 #[.string s] w fun e w'=>e=.returned (.agg #[.int .i64 3,.int .i64 0,.string s,.slice none 0 0,.slice none 0 0])/\Below w.heap.size w w':=by
 have h5:=heap_alloc_new w (.cells #[.int .i64 3,.int .i64 0,.string s,.slice none 0 0,.slice none 0 0] 25);obtain⟨c,d,f,h,j⟩:=aj h5;go_enter Tryz.func69,Tryz.ntmps69;go_wp2;refine bodyPost_ret (v:=.agg #[.int .i64 3,.int .i64 0,.string s,.slice none 0 0,.slice none 0 0]) (by simp[results,Tryz.results69,go_sem,c,d,f,h,j]) rfl ?_;exact⟨rfl,(Below.refl _ _).alloc (Nat.le_refl _) _⟩
theorem pF(n:Int)(w:World):
    Calls Tryz.prog 68 #[.int .i64 n] w fun e w'=>e=.returned (.agg #[.int .i64 2,.int .i64 n,.string aH,.slice none 0 0,.slice none 0 0])/\Below w.heap.size w w':=by
 have h5:=heap_alloc_new w (.cells #[.int .i64 2,.int .i64 n,.string ⟨#[]⟩,.slice none 0 0,.slice none 0 0] 25);obtain⟨c,d,f,h,j⟩:=aj h5;go_enter Tryz.func68,Tryz.ntmps68;go_wp2;refine bodyPost_ret (v:=.agg #[.int .i64 2,.int .i64 n,.string ⟨#[]⟩,.slice none 0 0,.slice none 0 0]) (by simp[results,Tryz.results68,go_sem,c,d,f,h,j]) rfl ?_;exact⟨rfl,(Below.refl _ _).alloc (Nat.le_refl _) _⟩
theorem lV(u:ByteArray):∀v∈ [Value.int .i64 3,.int .i64 0,.string u,.slice none 0 0,.slice none 0 0],v.oneCell'=true:=by
 intro v c;simp at c
 rcases c with rfl| rfl| rfl| rfl<;>rfl
theorem cu(O:Nat->Prop)(w:World)(u:ByteArray):isJ O w (aR u) [.int .i64 3,.int .i64 0,.string u,.slice none 0 0,.slice none 0 0]:=by
 unfold aR isJ;exact⟨none,0,none,0,rfl,j5.nil _ _,Nat.le_refl _,by unfold isJs;trivial⟩
theorem pG(O:Nat->Prop)(w:World)(n:Int):isJ O w (kg n) [.int .i64 2,.int .i64 n,.string aH,.slice none 0 0,.slice none 0 0]:=by
 unfold kg isJ;exact⟨none,0,none,0,rfl,j5.nil _ _,Nat.le_refl _,by unfold isJs;trivial⟩
theorem jm{w:World}(o1 o2:Obj):((w.alloc o1).alloc o2).heap[w.heap.size+1]?=some o2:=by
 have:=heap_alloc_new (w.alloc o1) o2;simpa using this
theorem kV{w:World}(o1 o2:Obj):((w.alloc o1).alloc o2).heap[w.heap.size]?=some o1:=by
 rw[Below.heap_alloc _ _ _ (by simp)];exact heap_alloc_new _ _
theorem TI.push{O:Nat->Prop}{B g:Nat}{kd:Int}{WB W W4:World}{ks:List ByteArray}{js:List J}{vk vl iM:Value}{y:J}{cs xs:List Value}(h:TI O B g kd WB ks js vk vl W)(f:W.ownsRow B 25 5 vl js.length xs)(x:isRow (J7 O B vk vl W) W js xs)(m:isJ (J7 O B vk vl W) W y cs)
    (j:W4.ownsRow B 25 5 iM (js.length+1) (xs++cs)) (d:W.grownBy W4 vl.ownBlock) (k:iM.ownBlock=vl.ownBlock\/ iM.ownBlock=some W.heap.size):
    W4.cell? ⟨g,4,none⟩=some vl/\W4.frozen? ⟨g,4,none⟩=false/\TI O B g kd WB ks (js++ [y]) vk iM (W4.setCell ⟨g,4,none⟩ iM):=by
 have u:=aJ f;have A:=h.lt;have z:=h.size;have c:W4.heap[g]?=some (.cells #[.int .i64 kd,.int .i64 0,.string ⟨#[]⟩,vk,vl] 25 (0,0)):=(d.block g (by omega) fun e=>by have:=(u g e.symm).1;omega).trans h.obj;have K3:ag (One g) W4 (W4.setCell ⟨g,4,none⟩ iM):=ag.setCell (ag.refl _ _) (fun _=>(rfl:g=g)) _;refine⟨aZ c,iU c 4,h.val f x m d k (by rw[heap_setCell_same _ g 4 _ _ _ c];rfl) (aX j K3 fun q e=>by have:=(aJ j q e).1;unfold One;omega) (K3.mono fun q _ e=>.inl e)⟩
theorem TI.done{w WB wr W5:World}{kd:Int}{ks:List ByteArray}{js:List J}{d j:Option Addr}{n1 n2 c1 c2:Nat}(h:TI (fun _=>False) (w.heap.size+2) (w.heap.size+1) kd WB ks js (.slice d n1 c1) (.slice j n2 c2) wr)(m:Below w.heap.size w WB)(f:ag (One w.heap.size) wr W5):
    isJ (gH w W5) W5 (.mk kd 0 aH ks js) [.int .i64 kd,.int .i64 0,.string aH,.slice d n1 c1,.slice j n2 c2]/\Below w.heap.size w W5:=by
 have T:=h.size;have h5:=f.size;have S:=h.IQ;obtain⟨xs,A,H⟩:=h.eD;obtain⟨E,K,F,u⟩:=nT h.keys;obtain⟨x,N,G,I,z⟩:=rZ A H
 cases F
 cases G
 have carry:∀k,w.heap.size+2<=k->k<wr.heap.size->gH w W5 k/\W5.heap[k]?=wr.heap[k]?:=fun k h1 h2=>⟨⟨by omega,by omega⟩,f.block k h2 (by unfold One;omega)⟩;refine⟨?_, ?_⟩
 ·unfold isJ;refine⟨d,c1,j,c2,rfl,u.carry fun k c=>carry k c.1 c.2,I,z.carry fun k c=> ?_⟩
  rcases c with c| c
  ·rcases c with c| c
   ·exact c.elim
   ·exact carry k c.1 c.2.1
  ·exact carry k c.1 c.2
 ·exact(m.trans (h.bf.below (by omega) fun k c=>by unfold One;omega)).trans (f.below (by omega) fun k c=>by unfold One;omega)
theorem sI{O:Nat->Prop}{row:List ByteArray}{p:Option Addr}{c:Nat}{w:World}(mF:j5 O w p c row)(hO:∀k,O k->k<w.heap.size)(hl:row.length<=100000):
    Calls Tryz.prog 67 #[.slice p row.length c] w fun x w'=>(∃pl nl cl,x=.returned (.agg #[.int .i64 4,.int .i64 0,.string aH,.slice none 0 0,.slice pl nl cl])/\isJ (gH w w') w' (dH row) [.int .i64 4,.int .i64 0,.string aH,.slice none 0 0,.slice pl nl cl])/\Below w.heap.size w w':=by
 obtain⟨n,hn⟩:∃n,row.length=n:=⟨_,rfl⟩;have HN:Hid (row.length=n):=hn;have UC:=mF.1;rw[hn]at hl UC ⊢;clear hn;obtain⟨WB,I⟩:∃WB,WB=(w.alloc (.cells #[.int .i64 0,.int .i64 0,.string ⟨#[]⟩,.slice none 0 0,.slice none 0 0] 25)).alloc (.cells #[.int .i64 4,.int .i64 0,.string ⟨#[]⟩,.slice none 0 0,.slice none 0 0] 25):=⟨_,rfl⟩;have dK:Below w.heap.size w WB:=by rw[I];exact((Below.refl _ _).alloc (Nat.le_refl _) _).alloc (by simp) _
 have bq:WB.heap[w.heap.size]?=some (.cells #[.int .i64 0,.int .i64 0,.string ⟨#[]⟩,.slice none 0 0,.slice none 0 0] 25 (0,0)):=by rw[I];exact kV _ _
 have tY:TI (fun _=>False) (w.heap.size+2) (w.heap.size+1) 4 WB [] [] (.slice none 0 0) (.slice none 0 0) WB:=TI.start (by rw[I];simp) (by omega) (fun k h=>h.elim) (by rw[I];exact jm _ _);go_enter Tryz.func67,Tryz.ntmps67;go_wp2;rw[<-I];clear I
 go_loopw [9] (fun i wr=>∃(k:Nat) (vl:Value),i=.int .i64 k/\k<=n/\TI (fun _=>False) (w.heap.size+2) (w.heap.size+1) 4 WB [] ((row.take k).map aR) (.slice none 0 0) vl wr) (fun i _=>n - (intOf i).toNat)
 case atStart=>exact⟨0,_,rfl,Nat.zero_le _,tY⟩
 case round=>
  clear tY;obtain⟨k,vl,rfl,hk,z⟩:=hrel;obtain⟨js,V⟩:∃js,(row.take k).map aR=js:=⟨_,rfl⟩;have YR:js.length=k:=by rw[<-V,List.length_map,List.length_take,HN.out];omega
  by_cases Z:k<n
  ·have hki:(k:Int)<(n:Int):=by omega
   have Y:k<row.length:=by rw[HN.out];exact Z
   obtain⟨a,ZY,xf,DW⟩:=mF.2 k Y;subst ZY;have je:wr.cell? (a.add k)=some (.string (row.getD k aH)):=by
    have h1:=hO _ xf;have h2:=z.IQ;exact(World.cell?_of_block (by rw[bu];exact(z.bf.block _ (by omega) (by unfold One;omega)).trans (dK.block _ h1))).trans DW
   obtain⟨u,hu⟩:∃u,row.getD k aH=u:=⟨_,rfl⟩;have IP:Hid ((row.take (k+1)).map aR=js++ [aR u]):=by
    show _=_
    rw[List.take_add_one,List.getElem?_eq_getElem Y,List.map_append,V,<-hu,List.getD_eq_getElem?_getD,List.getElem?_eq_getElem Y];rfl
   rw[hu]at je;rw[V]at z;clear hu DW Y V;have hd:=z.drew;have hT:=jc u wr.drew;obtain⟨ql,vD,xA⟩:∃q c,vl=.slice q js.length c:=by
    obtain⟨xs0,AQ,_⟩:=z.eD;exact fe AQ
   subst xA;have HJL:Hid (js.length=k):=YR;have hjb:js.length<=100000:=by omega
   clear YR;go_wp2;have c0:=aZ hd.obj;refine aD (by kernel_rfl) (fun _=>True) ?_;change wpIn _ _ _ _ _ _ _ _ (World.drew _);refine aa (i:=0) (d:=some 13) rfl ?_;refine aa (i:=2) (d:=some 15) rfl ?_;refine bR (i:=1) (j:=3) trivial (by kernel_rfl) rfl rfl (by rfl) (by rfl) ?_ ?_
   ·intro K f;go_simp;refine f _ _ ?_;clear f K;refine av (i:=3) trivial rfl ?_;intro K f;go_simp;go_wp2_with(go_at_call 69;refine hT.mono ?_;rintro x w3 ⟨rfl,dh⟩);have h3:=hd.more dh;have A:=h3.alloc (.cells #[.int .i64 3,.int .i64 0,.string u,.slice none 0 0,.slice none 0 0] 25);obtain⟨xs,F,fC⟩:=A.eD;have c1:=aZ h3.obj;have c2:=aZ A.obj;refine av (i:=4) trivial rfl ?_;intro K f;go_simp;refine f _ _ ?_;clear f K;refine av (i:=5) trivial rfl ?_;intro K f;refine aP (.tmp 14) (.tmp 17) 23 rfl (w.heap.size+2) 25 (.agg #[.int .i64 0,.int .i64 0,.string ⟨#[]⟩,.slice none 0 0,.slice none 0 0]) 5 80 Tryz.underlying23 Tryz.eB rfl (by decide) (by decide) _ js.length xs rfl F _ [.int .i64 3,.int .i64 0,.string u,.slice none 0 0,.slice none 0 0] rfl rfl (jS rfl) (lV u) (by omega) A.size ?_;intro oh W4 E H G;refine f _ _ ?_;clear f K;obtain⟨b4,c4,S⟩:=ik E;subst S;obtain⟨U,N,T⟩:=A.push F fC (cu _ _ u) E H G;clear E H G;refine aa (i:=6) (d:=some 19) rfl ?_;refine av (i:=7) trivial rfl ?_;intro K f;go_simp;refine f _ _ ?_;clear f K;refine aB trivial (by kernel_rfl) ?_ _;clear U N c0 c1 c2;go_wp2;go_roundw
    case rel=>exact⟨k+1,_,by go_num,Z,by rw[IP.out];exact T⟩
    case measure=>simp[intOf];omega
   ·intro K f;go_simp;go_wp2_with(go_at_call 69;refine hT.mono ?_;rintro x w3 ⟨rfl,dh⟩);have h3:=hd.more dh;have A:=h3.alloc (.cells #[.int .i64 3,.int .i64 0,.string u,.slice none 0 0,.slice none 0 0] 25);obtain⟨xs,F,fC⟩:=A.eD;have c1:=aZ h3.obj;have c2:=aZ A.obj;refine bR (i:=1) (j:=4) trivial (by kernel_rfl) rfl rfl (by rfl) (by rfl) ?_ ?_
    ·intro K f;go_simp;refine f _ _ ?_;clear f K;refine av (i:=4) trivial rfl ?_;intro K f;go_simp;refine f _ _ ?_;clear f K;refine av (i:=5) trivial rfl ?_;intro K f;refine aP (.tmp 14) (.tmp 17) 23 rfl (w.heap.size+2) 25 (.agg #[.int .i64 0,.int .i64 0,.string ⟨#[]⟩,.slice none 0 0,.slice none 0 0]) 5 80 Tryz.underlying23 Tryz.eB rfl (by decide) (by decide) _ js.length xs rfl F _ [.int .i64 3,.int .i64 0,.string u,.slice none 0 0,.slice none 0 0] rfl rfl (jS rfl) (lV u) (by omega) A.size ?_;intro oh W4 E H G;refine f _ _ ?_;clear f K;obtain⟨b4,c4,S⟩:=ik E;subst S;obtain⟨U,N,T⟩:=A.push F fC (cu _ _ u) E H G;clear E H G;refine aa (i:=6) (d:=some 19) rfl ?_;refine av (i:=7) trivial rfl ?_;intro K f;go_simp;refine f _ _ ?_;clear f K;refine aB trivial (by kernel_rfl) ?_ _;clear U N c0 c1 c2;go_wp2;go_roundw
     case rel=>exact⟨k+1,_,by go_num,Z,by rw[IP.out];exact T⟩
     case measure=>simp[intOf];omega
    ·intro K f;go_simp;refine f _ _ ?_;clear f K;refine av (i:=1) trivial rfl ?_;intro K f;go_simp;refine f _ _ ?_;clear f K;refine av (i:=5) trivial rfl ?_;intro K f;refine aP (.tmp 14) (.tmp 17) 23 rfl (w.heap.size+2) 25 (.agg #[.int .i64 0,.int .i64 0,.string ⟨#[]⟩,.slice none 0 0,.slice none 0 0]) 5 80 Tryz.underlying23 Tryz.eB rfl (by decide) (by decide) _ js.length xs rfl F _ [.int .i64 3,.int .i64 0,.string u,.slice none 0 0,.slice none 0 0] rfl rfl (jS rfl) (lV u) (by omega) A.size ?_;intro oh W4 E H G;refine f _ _ ?_;clear f K;obtain⟨b4,c4,S⟩:=ik E;subst S;obtain⟨U,N,T⟩:=A.push F fC (cu _ _ u) E H G;clear E H G;refine aa (i:=6) (d:=some 19) rfl ?_;refine av (i:=7) trivial rfl ?_;intro K f;go_simp;refine f _ _ ?_;clear f K;refine aB trivial (by kernel_rfl) ?_ _;clear U N c0 c1 c2;go_wp2;go_roundw
     case rel=>exact⟨k+1,_,by go_num,Z,by rw[IP.out];exact T⟩
     case measure=>simp[intOf];omega
  ·obtain rfl:k=n:=by omega
   rw[List.take_of_length_le (by rw[HN.out];omega)]at z;obtain⟨q2,c2,xA⟩:∃q c,vl=.slice q (row.map aR).length c:=by
    obtain⟨xs,F,_⟩:=z.eD;exact fe F
   subst xA;have yR:=z.obj;have X:wr.heap[w.heap.size]?=some (.cells #[.int .i64 0,.int .i64 0,.string ⟨#[]⟩,.slice none 0 0,.slice none 0 0] 25 (0,0)):=(z.bf.block _ (by have:=z.IQ;omega) (by unfold One;omega)).trans bq;obtain⟨j0,j1,j2,j3,j4⟩:=aj yR;obtain⟨i0,i1,i2,i3,i4⟩:=aj X;obtain⟨z0,z1,z2,z3,z4⟩:=aN X;obtain⟨m,hm⟩:∃m,(row.map aR).length=m:=⟨_,rfl⟩;have HTI:Hid (TI (fun _=>False) (w.heap.size+2) (w.heap.size+1) 4 WB [] (row.map aR) (.slice none 0 0) (.slice q2 m c2) wr):=hm ▸ z;rw[hm]at j4;have h5:=aK X (.int .i64 4) (.int .i64 0) (.string ⟨#[]⟩) (.slice none 0 0) (.slice q2 m c2);have bn:ag (One w.heap.size) wr _:=aI wr w.heap.size (.int .i64 4) (.int .i64 0) (.string ⟨#[]⟩) (.slice none 0 0) (.slice q2 m c2);unfold di at h5 bn;obtain⟨k0,k1,k2,k3,k4⟩:=aj h5;clear z yR X hm YR V;go_wp2;refine bodyPost_ret (v:=.agg #[.int .i64 4,.int .i64 0,.string ⟨#[]⟩,.slice none 0 0,.slice q2 m c2]) (by simp[results,Tryz.results67,go_sem,k0,k1,k2,k3,k4]) rfl ?_;obtain⟨r1,r2⟩:=HTI.out.done dK bn;exact⟨⟨_,_,_,rfl,r1⟩,r2⟩
theorem Z0{d:Nat}{c:J}(h:szJ (d+1) c=true):szJ (d+1) (.mk 4 0 aH [] [c])=true:=by
 have:=Bo d (d+1) c (by omega) h;unfold szJ;rw[show List.all [c] (szJ d)=true by rw[List.all_cons,this];rfl]
 rfl
theorem Od{w:World}{O:Nat->Prop}{j:J}{k i:Int}{t:ByteArray}{pk pl:Option Addr}{nk ck nl cl:Nat}(A:∀x,O x->x<w.heap.size)(K:szJ 12 j=true)
    (u:isJ O w j [.int .i64 k,.int .i64 i,.string t,.slice pk nk ck,.slice pl nl cl]):
    Calls Tryz.prog 59 #[.agg #[.int .i64 k,.int .i64 i,.string t,.slice pk nk ck,.slice pl nl cl]] w fun x w'=>x=.returned (.bool (fG j))/\Below w.heap.size w w':=by
 obtain⟨c,h⟩:∃c,c=((w.alloc (.cells #[.int .i64 k,.int .i64 i,.string t,.slice pk nk ck,.slice pl nl cl] 25)).alloc (.cells #[.int .i64 k,.int .i64 i,.string t,.slice pk nk ck,.slice pl nl cl] 25)).alloc (.cells #[.int .i64 4,.int .i64 0,.string ⟨#[]⟩,.slice none 0 0,.slice (some ⟨w.heap.size+1,0,none⟩) 1 1] 25):=⟨_,rfl⟩;have m:Below w.heap.size w c:=by rw[h];exact(((Below.refl _ _).alloc (Nat.le_refl _) _).alloc (by simp) _).alloc (by simp;omega) _
 have f:c.heap.size=w.heap.size+3:=by rw[h];simp
 have F:c.heap[w.heap.size+1]?=some (.cells #[.int .i64 k,.int .i64 i,.string t,.slice pk nk ck,.slice pl nl cl] 25 (0,0)):=by
  rw[h,Below.heap_alloc _ _ _ (by simp)];exact jm _ _
 have E:isJ (fun x=>O x\/ x=w.heap.size+1) c (.mk 4 0 aH [] [j]) [.int .i64 4,.int .i64 0,.string aH,.slice none 0 0,.slice (some ⟨w.heap.size+1,0,none⟩) 1 1]:=by
  unfold isJ;refine⟨none,0,some ⟨w.heap.size+1,0,none⟩,1,rfl,j5.nil _ _,Nat.le_refl _, ?_⟩;unfold isJs;refine⟨⟨_,0,_,rfl,.inr rfl,fun i v S=> ?_,u.carry fun x d=>⟨.inl d,m.block x (A x d)⟩⟩,by unfold isJs;trivial⟩;rw[Nat.zero_mul,Nat.add_zero,Nat.zero_add];exact aQ (cur:= [_,_,_,_,_]) F i v S
 have H:=Cw (w:=c) (fun x d=>by rw[f];rcases d with d| d;have:=A x d;omega;omega) (Z0 K) E;have z:Hid (fG j=(decide (k=5)&&goodJ 12 (.mk 4 0 aH [] [j]))):=by
  show _=_
  unfold fG
  cases j with
  | mk k' i' t' ks l=>
   unfold isJ at u;obtain⟨_,_,_,_,e,_⟩:=u
   cases e
   rfl
 rw[h]at H m;clear F E f h
 by_cases G:k=5
 ·subst G;go_enter Tryz.func59,Tryz.ntmps59;go_wp2_with(go_at_call 40;refine H.mono ?_;rintro x T ⟨rfl,I⟩);go_ret;exact⟨ak (by rw[z.out];rfl),ae m I⟩
 ·have N:decide (k=5)=false:=decide_eq_false G;go_enter Tryz.func59,Tryz.ntmps59;go_wp2;go_ret;exact⟨ak (by rw[z.out,N];rfl),m⟩
theorem FN{O:Nat->Prop}{ks:List ByteArray}{p:Option Addr}{c:Nat}{w:World}(m:Nat)(V:j5 O w p c ks)(Y:∀k,O k->k<w.heap.size)(hl:ks.length<=100000)(Et:∀k∈ks,k.size<=1000000000):
    Calls Tryz.prog 60 #[.slice p ks.length c,.int .i64 m] w fun x w'=>x=.returned (.bool (bZ m ks))/\Below w.heap.size w w':=by
 have d:=Wl V Y hl Et;obtain⟨n,S⟩:∃n,ks.length=n:=⟨_,rfl⟩;have E:Hid (ks.length=n):=S;have UC:=V.1;rw[S]at hl UC d ⊢;clear S
 by_cases lC:(m:Int)<(n:Int)
 ·have z:Hid (bZ m ks=false):=by
    show _=_
    unfold bZ;rw[E.out,decide_eq_false (by omega)];rfl
  clear d;go_enter Tryz.func60,Tryz.ntmps60;go_wp2;go_ret;exact⟨ak z.out.symm,Below.refl _ _⟩
 cases hd:noKeyTwice ks with
 | false=>
  have z:Hid (bZ m ks=false):=by
   show _=_
   unfold bZ;rw[hd];simp
  rw[hd]at d;go_enter Tryz.func60,Tryz.ntmps60;go_wp2_with(go_at_call 97;refine d.mono ?_;rintro x w1 ⟨rfl,H⟩);go_ret;exact⟨ak z.out.symm,H⟩
 | true=>
  have X:Hid (bZ m ks=ks.all Id.vH):=by
   show _=_
   unfold bZ;rw[hd,E.out,decide_eq_true (by omega)];rfl
  rw[hd]at d;clear hd;go_enter Tryz.func60,Tryz.ntmps60;go_wp2_with(go_at_call 97;refine d.mono ?_;rintro x w1 ⟨rfl,H⟩)
  go_loopw [18] (fun i wr=>∃k:Nat,i=.int .i64 k/\k<=n/\Hid (∀j,j<k->Id.vH (ks.getD j aH)=true)/\Below w.heap.size w wr) (fun i _=>n - (intOf i).toNat)
  case atStart=>exact⟨0,rfl,Nat.zero_le _,fun j h=>absurd h (by omega),H⟩
  case round=>
   obtain⟨k,rfl,hk,HG,f⟩:=hrel
   by_cases bQ:k<n
   ·have hki:(k:Int)<(n:Int):=by omega
    have I:k<ks.length:=by rw[E.out];exact bQ
    obtain⟨a,ZY,xf,Z⟩:=V.2 k I;subst ZY;have je:wr.cell? (a.add k)=some (.string (ks.getD k aH)):=(World.cell?_of_block (by rw[bu];exact f.block _ (Y _ xf))).trans Z;have T:ks.getD k aH∈ks:=by
     rw[List.getD_eq_getElem?_getD,List.getElem?_eq_getElem I];exact List.getElem_mem _
    have N:(ks.getD k aH).size<=1000000000:=Et _ T;have A:Hid (ks.getD k aH∈ks):=T;obtain⟨u,U⟩:∃u,ks.getD k aH=u:=⟨_,rfl⟩;have HU:Hid (ks.getD k aH=u):=U;rw[U]at je N A;clear U Z T I;have F:=Id.FJ u wr (by omega)
    cases he:Id.vH u with
    | true=>
     have G:Hid (Id.vH u=true):=he;rw[he]at F;clear he;go_wp2_with(go_at_call 98;refine F.mono ?_;rintro x w2 ⟨rfl,K⟩);go_roundw
     case rel=>exact⟨k+1,by go_num,bQ,fun j h=>(Nat.lt_succ_iff_lt_or_eq.1 h).elim (HG.out j) (fun e=>by rw[e,HU.out];exact G.out),eF f f.size K⟩
     case measure=>simp[intOf];omega
    | false=>
     have z:Hid (bZ m ks=false):=by
      show _=_
      rw[X.out,List.all_eq_false];exact⟨u,A.out,by rw[he];decide⟩
     rw[he]at F;go_wp2_with(go_at_call 98;refine F.mono ?_;rintro x w2 ⟨rfl,K⟩);go_ret;exact⟨ak z.out.symm,eF f f.size K⟩
   ·obtain rfl:k=n:=by omega
    have HT:Hid (bZ m ks=true):=by
     show _=_
     rw[X.out,List.all_eq_true];intro x hx;obtain⟨j,h,rfl⟩:=List.getElem_of_mem hx;have:=HG.out j (by rw[<-E.out];exact h);rw[List.getD_eq_getElem?_getD,List.getElem?_eq_getElem h]at this;exact this
    go_wp2;go_ret;exact⟨ak HT.out.symm,f⟩
end Go.Proofs.YtldkblgclochjaaGreatDoor

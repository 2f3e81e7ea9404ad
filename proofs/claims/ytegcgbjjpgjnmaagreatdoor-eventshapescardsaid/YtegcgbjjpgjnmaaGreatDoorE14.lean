/- A part. -/
import Derived.Test.YtegcgbjjpgjnmaaGreatDoorE13
import Derived.Laws.OwnMore
set_option maxRecDepth 100000
set_option maxHeartbeats 16000000
namespace Go.Proofs.YtegcgbjjpgjnmaaGreatDoor
open Go.RowKit Go.Maps
theorem iO{t k e:TypeId}(ht:Tryz.prog.underlying t=some (.map k e))(n:Int)(w:World):(Instr.makeMap t (some (.int .i64 n))).run Tryz.prog w=.ok (.map (some w.heap.size)) (w.alloc (.map #[] 0)):=by
 simp[Instr.makeMap,run_underlying ht,asInt,asIntOf,Result.andThen]
def A_(w:World)(M:Nat)(ks:List ByteArray):Prop:=
 ∃D:DataW Unit,w.ownsMap Tryz.prog 9 (unitElem (H:=Unit)) M ks.length D/\(∀s,tZ s->Maps.has D (zz s)=uE ks s)/\Maps.size D<=ks.length/\(Maps.size D=ks.length↔noKeyTwice ks=true)
theorem A_.made(w:World):A_ (w.alloc (.map #[] 0)) w.heap.size []:=
 ⟨.map [],World.ownsMap_made _ _ _ _,fun _ _=>rfl,Nat.le_refl _,⟨fun _=>rfl,fun _=>rfl⟩⟩
theorem Iu{ks:List ByteArray}{s:ByteArray}:uE ks s=true↔s∈ks:=by
 unfold uE;rw[List.any_eq_true]
 constructor
 ·rintro⟨x,hx,h⟩;have:x=s:=by
   have h:=of_decide_eq_true h
   cases x;cases s
   simp only at h;rw[h]
  exact this ▸ hx
 ·exact fun h=>⟨s,h,by simp⟩
theorem Fb(ks:List ByteArray)(s:ByteArray):noKeyTwice (ks++ [s])=true↔noKeyTwice ks=true/\uE ks s=false:=by
 constructor
 ·intro h;have h:=List.pairwise_append.1 (gW h);refine⟨gB h.1, ?_⟩
  cases e:uE ks s with
  | false=>rfl
  | true=>exact absurd rfl (h.2.2 s (Iu.1 e) s (by simp))
 ·rintro⟨h1,h2⟩;refine gB (List.pairwise_append.2 ⟨gW h1,List.pairwise_singleton _ _,fun a ha b hb e=> ?_⟩);rw[List.mem_singleton.1 hb]at e;rw[Iu.2 (e ▸ ha)]at h2
  cases h2
theorem A_.put{w w2:World}{M:Nat}{ks:List ByteArray}{D:DataW Unit}{s:ByteArray}(h0:w.ownsMap Tryz.prog 9 (unitElem (H:=Unit)) M ks.length D)(aT:w2.ownsMap Tryz.prog 9 (unitElem (H:=Unit)) M (ks.length+1) (D.put (zz s) (.agg [])))
    (hh:∀s,tZ s->Maps.has D (zz s)=uE ks s) (h1:Maps.size D<=ks.length) (h2:Maps.size D=ks.length↔noKeyTwice ks=true) (hs:tZ s):A_ w2 M (ks++ [s]):=by
 have hm:=h0.isMap;have fI:=size_put (k:=zz s) (h0.tidy xB) (.agg []);rw[hh s hs]at fI;refine⟨D.put (zz s) (.agg []),by rw[List.length_append];exact aT,fun x hx=> ?_, ?_, ?_⟩
 ·rw[Dx]
  by_cases e:x=s
  ·subst e;rw[has_put_same hm (show WideAt.IsKeyLit (zz x)from trivial)];simp
  ·rw[has_put_other (fun h'=>e (t_ h')),hh x hx];have:decide (s.data=x.data)=false:=by
    apply decide_eq_false
    intro h'
    apply e
    cases x;cases s
    simp only at h';rw[h']
   rw[this,Bool.or_false]
 ·rw[fI,List.length_append]
  split<;>simp<;>omega
 ·rw[fI,List.length_append,Fb,<-h2]
  cases e:uE ks s with
  | true=>simp;omega
  | false=>simp
theorem Tn{O:Nat->Prop}{ks:List ByteArray}{p:Option Addr}{c:Nat}{w:World}(l_:jT O w p c ks)(hO:∀k,O k->k<w.heap.size)(hl:ks.length<=100000)(CB:∀k∈ks,k.size<=1000000000):
    Calls Tryz.prog 100 #[.slice p ks.length c] w fun x w'=>x=.returned (.bool (noKeyTwice ks))/\Below w.heap.size w w':=by
 obtain⟨n,hn⟩:∃n,ks.length=n:=⟨_,rfl⟩;have HN:Hid (ks.length=n):=hn;have Q7:=l_.1;rw[hn]at hl Q7 ⊢;clear hn;have hmm:=iO Tryz.underlying138;go_enter Tryz.func100,Tryz.ntmps100;go_wp2;clear hmm
 go_loopw [11] (fun i wr=>∃k:Nat,i=.int .i64 k/\k<=n/\Below w.heap.size w wr/\A_ wr w.heap.size (ks.take k)) (fun i _=>n - (intOf i).toNat)
 case atStart=>exact⟨0,rfl,Nat.zero_le _,(Below.refl _ _).alloc (Nat.le_refl _) _,A_.made w⟩
 case round=>
  obtain⟨k,rfl,hk,hb,D,aT,Ps,NG,Pf⟩:=hrel;have HH:Hid (∀s,tZ s->Maps.has D (zz s)=uE (ks.take k) s):=Ps;have HS2:Hid (Maps.size D=(ks.take k).length↔noKeyTwice (ks.take k)=true):=Pf;have HS1:Hid (Maps.size D<=(ks.take k).length):=NG;have HTL:Hid ((ks.take k).length=k):=by show _=_;rw[List.length_take,HN.out];omega
  clear Ps NG Pf
  by_cases bJ:k<n
  ·have Vo:(k:Int)<(n:Int):=by omega
   obtain⟨a,V6,uC,yw⟩:=l_.2 k (by rw[HN.out];exact bJ);subst V6;have gV:wr.cell? (a.add k)=some (.string (ks.getD k aH)):=(World.cell?_of_block (by rw[aY];exact hb.block _ (hO _ uC))).trans yw;have hTS:ks.take (k+1)=ks.take k++ [ks.getD k aH]:=by
    have gM:k<ks.length:=by rw[HN.out];exact bJ
    rw[List.take_add_one,List.getElem?_eq_getElem gM,List.getD_eq_getElem?_getD,List.getElem?_eq_getElem gM];rfl
   have Ta:(ks.getD k aH).size<=1000000000:=CB _ (by
    have gM:k<ks.length:=by rw[HN.out];exact bJ
    rw[List.getD_eq_getElem?_getD,List.getElem?_eq_getElem gM];exact List.getElem_mem _)
   obtain⟨u,hu⟩:∃u,ks.getD k aH=u:=⟨_,rfl⟩;rw[hu]at gV hTS Ta;have Cn:Hid (ks.take (k+1)=ks.take k++ [u]):=hTS;clear hTS hu yw;have wC:tZ u:=by unfold tZ maxLen;omega
   have jH:=Pq wC;have GZ:Hid ((ks.take k).length<maxLen):=by show _<_;rw[HTL.out];unfold maxLen;omega
   have HV:Hid (unitElem (H:=Unit) (.agg #[])=some (.agg [], [])):=unitElem_mk;go_wp2_with(at_mapUpdate;refine wpList_mapUpdate_own _ rfl _ _ _ 138 rfl 9 139 xB Tryz.underlying138 _ w.heap.size (ks.take k).length D rfl aT GZ.out _ _ _ rfl rfl jH (.agg []) [] HV.out ?_;intro w2 fV m_);go_roundw
   case rel=>exact⟨k+1,by go_num,bJ,hb.trans ((aj.dm (S:=fun k=>k=w.heap.size) m_ fun _ _ e=>(Option.some.inj e).symm).below hb.size fun k hk=>by omega),by rw[Cn.out];exact A_.put aT fV HH.out HS1.out HS2.out wC⟩
   case measure=>simp[intOf];omega
  ·obtain rfl:k=n:=by omega
   have AR:ks.take k=ks:=List.take_of_length_le (by rw[HN.out];omega);have hr:decide ((Maps.size D:Int)=(k:Int))=noKeyTwice ks:=by
    have h:=HS2.out;rw[AR,HN.out]at h;rw[Bool.eq_iff_iff,<-h,decide_eq_true_eq];omega
   have HR:Hid (decide ((Maps.size D:Int)=(k:Int))=noKeyTwice ks):=hr;clear hr AR;go_wp2_with(at_len;refine wpList_len_own _ rfl _ 138 rfl 9 139 Tryz.underlying138 _ w.heap.size (ks.take k).length D rfl aT ?_);go_ret;exact⟨av (by first| exact HR.out| simpa using HR.out),hb⟩
open Go.RowKit
def Iw(O:Nat->Prop)(B:Nat)(vk vl:Value)(w:World):Nat->Prop:=fun k=>O k\/ (B<=k/\k<w.heap.size/\vk.ownBlock≠some k/\vl.ownBlock≠some k)
structure TI(O:Nat->Prop)(B g:Nat)(kd:Int)(WB:World)(ks:List ByteArray)(js:List J)(vk vl:Value)(w:World):Prop where
 obj:w.heap[g]?=some (.cells #[.int .i64 kd,.int .i64 0,.string ⟨#[]⟩,vk,vl] 25 (0,0))
 keys:w.ownsRow B 9 1 vk ks.length (ks.map Value.string)
 dS:∃xs,w.ownsRow B 25 5 vl js.length xs/\isRow (Iw O B vk vl w) w js xs
 ne:∀i,vk.ownBlock=some i->vl.ownBlock≠some i
 bf:aj (One g) WB w
 F9:WB.heap.size=B
 lt:g<B
 low:∀k,O k->k<B/\k≠g
theorem eT{w:World}{B e size n:Nat}{v:Value}{xs:List Value}(h:w.ownsRow B e size v n xs):∃q c,v=.slice q n c:=by
 rcases h.2 with⟨h',h0⟩| ⟨g',qb,cur,h',_⟩
 ·exact⟨none,0,by rw[h',h0]⟩
 ·exact⟨_,_,h'⟩
section
variable {O : Nat -> Prop} {B g : Nat} {kd : Int} {WB W W2 W5 : World} {ks : List ByteArray} {js : List J} {vk vl j_ il : Value}
theorem TI.size(h:TI O B g kd WB ks js vk vl W):B<=W.heap.size:=by have:=h.bf.size;have:=h.F9;omega
theorem TI.start(fI:WB.heap.size=B)(hg:g<B)(sF:∀k,O k->k<B/\k≠g)(zab:WB.heap[g]?=some (.cells #[.int .i64 kd,.int .i64 0,.string ⟨#[]⟩,.slice none 0 0,.slice none 0 0] 25 (0,0))):TI O B g kd WB [] [] (.slice none 0 0) (.slice none 0 0) WB:=
 ⟨zab,World.ownsRow_nil _ _ _ _,⟨[],World.ownsRow_nil _ _ _ _,rfl⟩,(fun i h=>by cases h),aj.refl _ _,fI,hg,sF⟩
theorem TI.more(h:TI O B g kd WB ks js vk vl W)(hb:Below W.heap.size W W2):TI O B g kd WB ks js vk vl W2:=by
 have hs:=h.size;have bJ:=h.lt;obtain⟨xs,h1,h2⟩:=h.dS;have kp:aj (fun _=>False) W W2:=aj.fO hb;refine⟨(hb.block g (by omega)).trans h.obj,bz h.keys kp fun _ _ h=>h,⟨xs,bz h1 kp fun _ _ h=>h,h2.carry fun k hk=> ?_⟩,h.ne,h.bf.trans kp fun _ _ h=>h.elim,h.F9,bJ,h.low⟩
 rcases hk with hk| hk
 ·have:=h.low k hk;exact⟨.inl hk,hb.block k (by omega)⟩
 ·exact⟨.inr ⟨hk.1,by have:=hk.2.1;have:=hb.size;omega,hk.2.2⟩,hb.block k hk.2.1⟩
theorem TI.drew(h:TI O B g kd WB ks js vk vl W):TI O B g kd WB ks js vk vl W.drew:=h.more ⟨rfl,rfl,rfl,Nat.le_refl _,fun _ _=>rfl⟩
theorem TI.alloc(h:TI O B g kd WB ks js vk vl W)(o:Obj):TI O B g kd WB ks js vk vl (W.alloc o):=h.more ((Below.refl _ _).alloc (Nat.le_refl _) o)
theorem TI.fresh(h:TI O B g kd WB ks js vk vl W)(_hb:Below W.heap.size W W2){y:J}{cs:List Value}(hy:isJ (fun k=>O k\/ fB W W2 k) W2 y cs):isJ (Iw O B vk vl W2) W2 y cs:=by
 have hs:=h.size;obtain⟨xs,h1,_⟩:=h.dS;refine hy.carry fun k hk=>⟨?_,rfl⟩
 rcases hk with hk| hk
 ·exact .inl hk
 ·have e1:=hk.1;have e2:=hk.2;exact .inr ⟨by omega,e2,fun e=>by have:=(aM h.keys k e).2;omega,fun e=>by have:=(aM h1 k e).2;omega⟩
theorem Iy(hb:Below W.heap.size W W2)(hO:∀k,O k->k<W.heap.size){y:J}{cs:List Value}(hy:isJ (Iw O B vk vl W) W y cs):isJ (Iw O B vk vl W2) W2 y cs:=by
 refine hy.carry fun k hk=> ?_
 rcases hk with hk| hk
 ·exact⟨.inl hk,hb.block k (hO k hk)⟩
 ·exact⟨.inr ⟨hk.1,by have:=hk.2.1;have:=hb.size;omega,hk.2.2⟩,hb.block k hk.2.1⟩
theorem TI.key(h:TI O B g kd WB ks js vk vl W){x:ByteArray}(aT:W2.ownsRow B 9 1 j_ (ks.length+1) (ks.map Value.string++ [.string x]))(hg:W.grownBy W2 vk.ownBlock)(jB:j_.ownBlock=vk.ownBlock\/ j_.ownBlock=some W.heap.size):
    W2.cell? ⟨g,3,none⟩=some vk/\W2.frozen? ⟨g,3,none⟩=false/\TI O B g kd WB (ks++ [x]) js j_ vl (W2.setCell ⟨g,3,none⟩ j_)/\∀k,Iw O B vk vl W k->Iw O B j_ vl (W2.setCell ⟨g,3,none⟩ j_) k/\(W2.setCell ⟨g,3,none⟩ j_).heap[k]?=W.heap[k]?:=by
 have hs:=h.size;have bJ:=h.lt;have Ti:=hg.size;have qW:=aM h.keys;obtain⟨xs,bW,eZ⟩:=h.dS;have o6:=aM bW;have low:∀k,k<B->W2.heap[k]?=W.heap[k]?:=fun k hk=>hg.block k (by omega) fun e=>by have:=(qW k e.symm).1;omega
 have ob:W2.heap[g]?=some (.cells #[.int .i64 kd,.int .i64 0,.string ⟨#[]⟩,vk,vl] 25 (0,0)):=(low g bJ).trans h.obj;have K3:aj (One g) W2 (W2.setCell ⟨g,3,none⟩ j_):=aj.setCell (aj.refl _ _) (fun _=>(rfl:g=g)) _;have RZ:=aM aT;have carry:∀k,Iw O B vk vl W k->Iw O B j_ vl (W2.setCell ⟨g,3,none⟩ j_) k/\(W2.setCell ⟨g,3,none⟩ j_).heap[k]?=W.heap[k]?:=fun k hk=>by
  rcases hk with hk| hk
  ·have:=h.low k hk;exact⟨.inl hk,by rw[K3.block k (by omega) (by unfold One;omega),low k this.1]⟩
  ·have e1:=hk.1;have e2:=hk.2.1;refine⟨.inr ⟨e1,by have:=K3.size;omega,fun e=> ?_,hk.2.2.2⟩,by rw[K3.block k (by omega) (by unfold One;omega),hg.block k e2 fun e=>hk.2.2.1 e.symm]⟩
   rcases jB with h'| h'
   ·exact hk.2.2.1 (h' ▸ e)
   ·rw[h']at e;have:=Option.some.inj e;omega
 refine⟨fK ob,iI ob 3,⟨?_, ?_,⟨xs, ?_,eZ.carry carry⟩, ?_, ?_,h.F9,bJ,h.low⟩,carry⟩
 ·rw[heap_setCell_same _ g 3 _ _ _ ob];rfl
 ·rw[List.length_append,List.map_append];exact bz aT K3 fun k e=>by have:=(RZ k e).1;unfold One;omega
 ·refine bz (bz bW (S:=fun k=>vk.ownBlock=some k) (aj.dm hg fun _ _ e=>e) fun k e e'=>h.ne k e' e) K3 fun k e=>by have:=(o6 k e).1;unfold One;omega
 ·intro i e e'
  rcases jB with h1| h1
  ·exact h.ne i (h1 ▸ e) e'
  ·rw[h1]at e;have h2:=(o6 i e').2;have h3:=Option.some.inj e;omega
 ·exact(h.bf.trans (S':=fun k=>vk.ownBlock=some k) (aj.dm hg fun _ _ e=>e) fun k hk e=>by have:=(qW k e).1;have:=h.F9;omega).then K3
theorem TI.val(h:TI O B g kd WB ks js vk vl W){y:J}{cs xs:List Value}(bW:W.ownsRow B 25 5 vl js.length xs)(eZ:isRow (Iw O B vk vl W) W js xs)(hy:isJ (Iw O B vk vl W) W y cs)(hg:W.grownBy W2 vl.ownBlock)(jB:il.ownBlock=vl.ownBlock\/ il.ownBlock=some W.heap.size)
    (zab:W5.heap[g]?=some (.cells #[.int .i64 kd,.int .i64 0,.string ⟨#[]⟩,vk,il] 25 (0,0))) (aT:W5.ownsRow B 25 5 il (js.length+1) (xs++cs)) (qX:aj (fun k=>k=g\/ il.ownBlock=some k) W2 W5):TI O B g kd WB ks (js++ [y]) vk il W5:=by
 have hs:=h.size;have bJ:=h.lt;have Ti:=hg.size;have qW:=aM h.keys;have o6:=aM bW;have Pk:=aM aT;have carry:∀k,Iw O B vk vl W k->Iw O B vk il W5 k/\W5.heap[k]?=W.heap[k]?:=by
  intro k hk
  rcases hk with hk| hk
  ·have:=h.low k hk;exact⟨.inl hk,by rw[qX.block k (by omega) (fun e=>e.elim (fun e=>this.2 e) fun e=>by have:=(Pk k e).1;omega),hg.block k (by omega) fun e=>by have:=(o6 k e.symm).1;omega]⟩
  ·have e1:=hk.1;have e2:=hk.2.1;have e3:il.ownBlock≠some k:=fun e=>by
    rcases jB with h'| h'
    ·exact hk.2.2.2 (h' ▸ e)
    ·rw[h']at e;have:=Option.some.inj e;omega
   exact⟨.inr ⟨e1,by have:=qX.size;omega,hk.2.2.1,e3⟩,by rw[qX.block k (by omega) (fun e=>e.elim (fun e=>by omega) e3),hg.block k e2 fun e=>hk.2.2.2 e.symm]⟩
 refine⟨zab, ?_,⟨xs++cs,by rw[List.length_append];exact aT,isRow.snoc hy.pO (hy.carry carry) js xs (eZ.carry carry)⟩, ?_, ?_,h.F9,bJ,h.low⟩
 ·refine bz (bz h.keys (S:=fun k=>vl.ownBlock=some k) (aj.dm hg fun _ _ e=>e) fun k e e'=>h.ne k e e') qX fun k e e'=> ?_
  rcases e' with e'| e'
  ·have:=(qW k e).1;omega
  ·rcases jB with h'| h'
   ·exact h.ne k e (h' ▸ e')
   ·rw[h']at e';have:=Option.some.inj e';have:=(qW k e).2;omega
 ·intro i e e'
  rcases jB with h'| h'
  ·exact h.ne i e (h' ▸ e')
  ·rw[h']at e';have:=Option.some.inj e';have:=(qW i e).2;omega
 ·refine(h.bf.trans (S':=fun k=>vl.ownBlock=some k) (aj.dm hg fun _ _ e=>e) fun k hk e=>by have:=(o6 k e).1;have:=h.F9;omega).trans qX fun k hk e=> ?_
  rcases e with e| e
  ·exact e
  ·have:=(Pk k e).1;have:=h.F9;omega
end
def X4(w:World)(b o:Nat)(v0 v1 v2 v3 v4:Value):World:=((((w.setCell ⟨b,o,none⟩ v0).setCell ⟨b,o+1,none⟩ v1).setCell ⟨b,o+2,none⟩ v2).setCell ⟨b,o+3,none⟩ v3).setCell ⟨b,o+4,none⟩ v4
theorem wO(w:World)(b o:Nat)(v0 v1 v2 v3 v4:Value):aj (One b) w (X4 w b o v0 v1 v2 v3 v4):=by
 have K:∀(W:World) (o:Nat) (v:Value),aj (One b) W (W.setCell ⟨b,o,none⟩ v):=fun W o v=>aj.setCell (aj.refl _ _) (fun _=>(rfl:b=b)) _;exact((((K _ _ _).then (K _ _ _)).then (K _ _ _)).then (K _ _ _)).then (K _ _ _)
theorem zB{w:World}{B e b m cap:Nat}{xs:List Value}{z0 z1 z2 z3 z4:Value}(h:w.ownsRow B e 5 (.slice (some ⟨b,0,none⟩) (m+1) cap) (m+1) (xs++ [z0,z1,z2,z3,z4]))(hx:xs.length=m*5)(v0 v1 v2 v3 v4:Value):
    (X4 w b (m*5) v0 v1 v2 v3 v4).ownsRow B e 5 (.slice (some ⟨b,0,none⟩) (m+1) cap) (m+1) (xs++ [v0,v1,v2,v3,v4]):=by
 have h1:=(((((h.stored (m*5) v0).1.stored (m*5+1) v1).1.stored (m*5+2) v2).1.stored (m*5+3) v3).1.stored (m*5+4) v4).1;have e:(((((xs++ [z0,z1,z2,z3,z4]).set (m*5) v0).set (m*5+1) v1).set (m*5+2) v2).set (m*5+3) v3).set (m*5+4) v4=xs++ [v0,v1,v2,v3,v4]:=by
  rw[<-hx];simp
 rw[e]at h1;exact h1
theorem Tp(w:World)(v:Value)(t:Nat):∀j u, [v][j]?=some u->(w.alloc (.cells #[v] t)).cell? ((⟨w.heap.size,0,none⟩:Addr).add j)=some u:=by
 intro j u hj
 match j,hj with
 | 0,hj=>simp at hj;subst hj;exact aR (cur:= [_]) (heap_alloc_new _ _) 0 _ rfl
theorem Fe{w:World}{b:Nat}{v:Value}{t:Nat}(h:w.heap.size=b):∀j u, [v][j]?=some u->(w.alloc (.cells #[v] t)).cell? ((⟨b,0,none⟩:Addr).add j)=some u:=by
 subst h;exact Tp w v t
theorem Ba(x:ByteArray):∀u∈ [Value.string x],u.oneCell'=true:=by
 intro u hu;simp at hu;subst hu;rfl
theorem P9(w:World)(t:Nat)(y0 y1 y2 y3 y4:Value):∀j u, [y0,y1,y2,y3,y4][j]?=some u->(w.alloc (.cells #[y0,y1,y2,y3,y4] t)).cell? ((⟨w.heap.size,0,none⟩:Addr).add j)=some u:=by
 intro j u hj;have e:(⟨w.heap.size,0,none⟩:Addr).add j=⟨w.heap.size,j,none⟩:=by unfold Addr.add;split<;>simp_all
 rw[e];exact aR (cur:= [_,_,_,_,_]) (heap_alloc_new _ _) j u hj
theorem jK{w:World}{b t:Nat}{y0 y1 y2 y3 y4:Value}(h:w.heap.size=b):∀j u, [y0,y1,y2,y3,y4][j]?=some u->(w.alloc (.cells #[y0,y1,y2,y3,y4] t)).cell? ((⟨b,0,none⟩:Addr).add j)=some u:=by
 subst h;exact P9 w t y0 y1 y2 y3 y4
theorem o9{w:World}{eH:Array Oper}{rest:List Oper}{o:Oper}{a:Act}{Q:Exit->Act->World->Prop}(RA:o.guard=none)(s x:Operand)(t:TypeId)
    (ho:o.op=.call {callee:=.builtin .append,args:=#[s,x],argTypes:=#[t,t]})
    (base:Nat) (e:TypeId) (z:Value) (size bytes:Nat) (ht:Tryz.prog.underlying t=some (.slice e)) (sw:(Tryz.prog.info? e).map (fun i=>(i.zero,i.size,i.bytes))=some (some z,size,bytes))
    (Zx:z.cells.size=size) (fI:0<size) (FY:bytes<=100)
    (v:Value) (n:Nat) (xs:List Value) (hs:a.eval s=v) (aT:w.ownsRow base e size v n xs)
    (ad:Addr) (news:List Value) (hx:a.eval x=.slice (some ad) 1 1) (hl:news.length=size) (rG:∀j u,news[j]?=some u->w.cell? (ad.add j)=some u) (h1:∀u∈news,u.oneCell'=true)
    (hn:n<=1000000) (rH:base<=w.heap.size)
    (h:∀v' w',w'.ownsRow base e size v' (n+1) (xs++news)->w.grownBy w' v.ownBlock->(v'.ownBlock=v.ownBlock\/ v'.ownBlock=some w.heap.size)->wpList Tryz.prog eH Q rest (a.put o.dst v') w'):wpList Tryz.prog eH Q (o::rest) a w:=
 wpList_plain RA fun _ hK=>aP s x t ho base e z size bytes ht sw Zx fI FY v n xs hs aT ad news hx hl rG h1 hn rH fun v' w' h2 h3 h4=>hK _ _ (h v' w' h2 h3 h4)
theorem gK{w:World}{B e size n:Nat}{v:Value}{xs:List Value}(h:w.ownsRow B e size v (n+1) xs):∃b c,v=.slice (some ⟨b,0,none⟩) (n+1) c:=by
 rcases h.2 with⟨h',h0⟩| ⟨g',qb,cur,h',_⟩
 ·omega
 ·exact⟨_,_,h'⟩
abbrev zj5:List Value:= [.int .i64 0,.int .i64 0,.string ⟨#[]⟩,.slice none 0 0,.slice none 0 0]
theorem eB{O:Nat->Prop}{B g:Nat}{kd:Int}{WB w:World}{ks:List ByteArray}{js:List J}{vk vl:Value}{y:J}{k i:Int}{t:ByteArray}{pk pl:Option Addr}{nk ck nl cl:Nat}(h:TI O B g kd WB ks js vk vl w)
    (hy:isJ (Iw O B vk vl w) w y [.int .i64 k,.int .i64 i,.string t,.slice pk nk ck,.slice pl nl cl]) (hn:ks.length<=100000) (hm:js.length<=100000) (x:ByteArray):
    Calls Tryz.prog 66 #[.string x,.agg #[.int .i64 k,.int .i64 i,.string t,.slice pk nk ck,.slice pl nl cl],.pointer (some ⟨g,0,none⟩)] w fun e w'=>e=.returned (.tuple #[])/\∃j_ il,TI O B g kd WB (ks++ [x]) (js++ [y]) j_ il w':=by
 have sF:=h.low;have R3:=h.size;have h1:=(h.alloc (.cells #[.int .i64 k,.int .i64 i,.string t,.slice pk nk ck,.slice pl nl cl] 25)).alloc (.cells #[.string x] 9);have UY:=Iy (W2:=(w.alloc (.cells #[.int .i64 k,.int .i64 i,.string t,.slice pk nk ck,.slice pl nl cl] 25)).alloc (.cells #[.string x] 9)) (((Below.refl _ _).alloc (Nat.le_refl _) _).alloc (by simp) _) (fun k hk=>by have:=(sF k hk).1;omega) hy;obtain⟨qk,DL,ET⟩:=eT h.keys;obtain⟨ZM,za,zef⟩:=h.dS;obtain⟨ql,uG,vP⟩:=eT za;have hEb:Iw O B vk vl ((w.alloc (.cells #[.int .i64 k,.int .i64 i,.string t,.slice pk nk ck,.slice pl nl cl] 25)).alloc (.cells #[.string x] 9)) w.heap.size:=
  .inr ⟨R3,by simp;omega,fun e=>by have:=(aM h.keys _ e).2;omega,fun e=>by have:=(aM za _ e).2;omega⟩
 have vO:((w.alloc (.cells #[.int .i64 k,.int .i64 i,.string t,.slice pk nk ck,.slice pl nl cl] 25)).alloc (.cells #[.string x] 9)).heap[w.heap.size]?=some (.cells #[.int .i64 k,.int .i64 i,.string t,.slice pk nk ck,.slice pl nl cl] 25 (0,0)):=by
  rw[Below.heap_alloc _ _ _ (by simp)];exact heap_alloc_new _ _
 have c3:=fK (h.alloc (.cells #[.int .i64 k,.int .i64 i,.string t,.slice pk nk ck,.slice pl nl cl] 25)).obj;have HL:Hid (∀k,O k->k<B/\k≠g):=sF;have zbJ:Hid (vl.ownBlock≠some w.heap.size):=fun e=>by have:=(aM za _ e).2;omega
 clear za zef ZM sF hy;subst ET vP;have HNE:Hid ((Value.slice ql js.length uG).ownBlock≠some w.heap.size):=zbJ.out;clear zbJ;go_enter Tryz.func66,Tryz.ntmps66;go_wp2_with(at_builtin;refine o9 rfl _ _ 22 rfl B 9 (.string ⟨#[]⟩) 1 16 Tryz.underlying22 Tryz.jZ rfl (by decide) (by decide) _ ks.length (ks.map Value.string) rfl h1.keys _ [.string x] rfl rfl (Fe (by simp)) (Ba x) (by omega) h1.size ?_;intro NI W2 fV m_ sJ;obtain⟨d3,f3,h3,zb⟩:=h1.key fV m_ sJ;obtain⟨b2,c2,eZ⟩:=gK fV;subst eZ);have hy3:=UY.carry fun k hk=>zb k hk;have Tq:=(zb _ hEb).2.trans vO;have HBX:Hid ((W2.setCell ⟨g,3,none⟩ (.slice (some ⟨b2,0,none⟩) (ks.length+1) c2)).heap[w.heap.size]?=some (.cells #[.int .i64 k,.int .i64 i,.string t,.slice pk nk ck,.slice pl nl cl] 25 (0,0))):=Tq;clear zb UY h1 vO Tq hEb fV m_ sJ d3 f3;obtain⟨W3,Ob⟩:∃W3,W3=W2.setCell ⟨g,3,none⟩ (.slice (some ⟨b2,0,none⟩) (ks.length+1) c2):=⟨_,rfl⟩;rw[<-Ob]at h3 hy3 HBX ⊢;clear Ob c3;have hd:=h3.drew;have hA:=hd.alloc (.cells #[.int .i64 0,.int .i64 0,.string ⟨#[]⟩,.slice none 0 0,.slice none 0 0] 25);obtain⟨xs,bW,eZ⟩:=hA.dS;have hyA:=Iy (W:=W3) (W2:=W3.drew.alloc (.cells #[.int .i64 0,.int .i64 0,.string ⟨#[]⟩,.slice none 0 0,.slice none 0 0] 25)) ((show Below W3.heap.size W3 W3.drew from⟨rfl,rfl,rfl,Nat.le_refl _,fun _ _=>rfl⟩).alloc (Nat.le_refl _) _) (fun k hk=>by have:=(HL.out k hk).1;have:=h3.size;omega) hy3;have d4:=bA hd.obj;have a4:(W3.alloc (.cells #[.int .i64 0,.int .i64 0,.string ⟨#[]⟩,.slice none 0 0,.slice none 0 0] 25)).drew.cell? ⟨g,4,none⟩=some (.slice ql js.length uG):=bA hA.obj;have hbs:=(Array.getElem?_eq_some_iff.1 HBX.out).1;have HC:Hid (∀W:World,W.heap[w.heap.size]?=some (.cells #[.int .i64 k,.int .i64 i,.string t,.slice pk nk ck,.slice pl nl cl] 25 (0,0))->∀n v, [Value.int .i64 k,.int .i64 i,.string t,.slice pk nk ck,.slice pl nl cl][n]?=some v->W.cell? ⟨w.heap.size,n,none⟩=some v):=fun W hW n v hv=>aR (cur:= [_,_,_,_,_]) hW n v hv;have fE:W3.drew.heap[w.heap.size]?=some (.cells #[.int .i64 k,.int .i64 i,.string t,.slice pk nk ck,.slice pl nl cl] 25 (0,0)):=HBX.out;have h_:(W3.drew.alloc (.cells #[.int .i64 0,.int .i64 0,.string ⟨#[]⟩,.slice none 0 0,.slice none 0 0] 25)).heap[w.heap.size]?=some (.cells #[.int .i64 k,.int .i64 i,.string t,.slice pk nk ck,.slice pl nl cl] 25 (0,0)):=(Below.heap_alloc _ _ _ hbs).trans fE;have X5:Hid (xs.length=js.length*5):=bW.1;refine aD (by kernel_rfl) (fun W=>W.heap[w.heap.size]?=some (.cells #[.int .i64 k,.int .i64 i,.string t,.slice pk nk ck,.slice pl nl cl] 25 (0,0))) ?_;change wpIn _ _ _ _ _ _ _ _ (World.drew _);refine aa (i:=0) (d:=some 11) rfl ?_;refine aB (i:=2) (d:=some 13) rfl (by(intro wq hq;have q0:=HC.out wq hq 0 _ rfl;have q1:=HC.out wq hq 1 _ rfl;have q2:=HC.out wq hq 2 _ rfl;have q3:=HC.out wq hq 3 _ rfl;have q4:=HC.out wq hq 4 _ rfl;go_simp;first| done| with_reducible rfl)) ?_;refine aW (i:=1) (j:=4) fE (by kernel_rfl) rfl rfl (by rfl) (by rfl) ?_ ?_
 ·intro K hK;go_simp;refine hK _ _ ?_;clear hK K;refine aa (i:=3) (d:=some 14) rfl ?_;refine ak (i:=4) fE rfl ?_;intro K hK;go_simp;refine hK _ _ ?_;clear hK K;refine ak (i:=5) h_ rfl ?_;intro K hK;refine aP (.tmp 12) (.tmp 15) 23 rfl B 25 (.agg #[.int .i64 0,.int .i64 0,.string ⟨#[]⟩,.slice none 0 0,.slice none 0 0]) 5 80 Tryz.underlying23 Tryz.dR rfl (by decide) (by decide) _ js.length xs rfl bW _ zj5 rfl rfl (jK (by simp)) (by decide) (by omega) hA.size ?_;intro nP W4 bT lN gN;refine hK _ _ ?_;clear hK K;obtain⟨b4,c4,wz⟩:=gK bT;subst wz;have ng:(W3.drew.alloc (.cells #[.int .i64 0,.int .i64 0,.string ⟨#[]⟩,.slice none 0 0,.slice none 0 0] 25)).grownBy W4 (Value.slice ql js.length uG).ownBlock:=lN;have lF:(Value.slice (some ⟨b4,0,none⟩) (js.length+1) c4).ownBlock=(Value.slice ql js.length uG).ownBlock\/ (Value.slice (some ⟨b4,0,none⟩) (js.length+1) c4).ownBlock=some (W3.drew.alloc (.cells #[.int .i64 0,.int .i64 0,.string ⟨#[]⟩,.slice none 0 0,.slice none 0 0] 25)).heap.size:=gN;have o6:=aM bW;have Tt:=aM bT;have zeg:=(Tt b4 rfl).1;have zeh:=h3.lt;have Oa:=hA.size;have cK:b4≠w.heap.size:=fun e=>by
   rcases lF with h'| h'
   ·exact HNE.out (h'.symm.trans (by rw[<-e];rfl))
   ·have:=Option.some.inj h';simp at this;have:=hbs;omega
  have Bb:W4.heap[g]?=some (.cells #[.int .i64 kd,.int .i64 0,.string ⟨#[]⟩,.slice (some ⟨b2,0,none⟩) (ks.length+1) c2,.slice ql js.length uG] 25 (0,0)):=(ng.block g (by omega) fun e=>by have:=(o6 g e.symm).1;omega).trans hA.obj;have mf:W4.heap[w.heap.size]?=some (.cells #[.int .i64 k,.int .i64 i,.string t,.slice pk nk ck,.slice pl nl cl] 25 (0,0)):=(ng.block w.heap.size (by simp;exact Nat.lt_succ_of_lt hbs) fun e=>HNE.out e.symm).trans h_;have HAT:Hid ((Value.slice (some ⟨b4,0,none⟩) (js.length+1) c4).ownBlock=(Value.slice ql js.length uG).ownBlock\/ (Value.slice (some ⟨b4,0,none⟩) (js.length+1) c4).ownBlock=some (W3.drew.alloc (.cells #[.int .i64 0,.int .i64 0,.string ⟨#[]⟩,.slice none 0 0,.slice none 0 0] 25)).heap.size):=lF;clear lN gN Tt lF;have ze:∀(W:World),W.ownsRow B 25 5 (.slice (some ⟨b4,0,none⟩) (js.length+1) c4) (js.length+1) (xs++zj5)->∀j u,zj5[j]?=some u->W.cell? ⟨b4,js.length*5+j,none⟩=some u/\W.frozen? ⟨b4,js.length*5+j,none⟩=false:=fun W hW j u hj=>by
   have F_:j<5:=(List.getElem?_eq_some_iff.1 hj).1;refine⟨(hW.cellAt (js.length*5+j) (by omega)).trans ?_,hW.frozenAt _⟩;rw[List.getElem?_append_right (by rw[X5.out];omega),X5.out,Nat.add_sub_cancel_left];exact hj
  have hli:(js.length:Int)<(js.length:Int)+1:=by omega
  refine aa (i:=6) (d:=some 17) rfl ?_;refine aa (i:=8) (d:=some 18) rfl ?_;refine aW (i:=7) (j:=9) mf (by kernel_rfl) rfl rfl (by rfl) (by rfl) ?_ ?_
  ·intro K hK;have e0:=ze W4 bT 0 _ rfl;have e1:=ze W4 bT 1 _ rfl;have e2:=ze W4 bT 2 _ rfl;have e3:=ze W4 bT 3 _ rfl;have e4:=ze W4 bT 4 _ rfl;obtain⟨Tu,Tv⟩:=e0;obtain⟨Oc,P_⟩:=e1;obtain⟨e20,e21⟩:=e2;obtain⟨e30,e31⟩:=e3;obtain⟨e40,e41⟩:=e4;rw[Nat.add_zero]at Tu Tv;go_simp;refine hK _ _ ?_;clear hK K;have kp:=wO W4 b4 (js.length*5) (.int .i64 k) (.int .i64 i) (.string t) (.slice pk nk ck) (.slice pl nl cl);have ow:=zB bT X5.out (.int .i64 k) (.int .i64 i) (.string t) (.slice pk nk ck) (.slice pl nl cl);have CJ:=(kp.block g (by have:=(Array.getElem?_eq_some_iff.1 Bb).1;omega) (by unfold One;omega)).trans Bb;have j5:=(kp.block w.heap.size (Array.getElem?_eq_some_iff.1 mf).1 (by unfold One;omega)).trans mf;have g0:=bA CJ;have g1:=iI CJ 4;obtain⟨W5,xi⟩:∃W5,W5=X4 W4 b4 (js.length*5) (.int .i64 k) (.int .i64 i) (.string t) (.slice pk nk ck) (.slice pl nl cl):=⟨_,rfl⟩;rw[<-xi]at kp ow CJ j5 g0 g1;have L8:=xi;unfold X4 at L8;rw[<-L8];clear xi L8 Tu Tv Oc P_ e20 e21 e30 e31 e40 e41 ze;refine ak (i:=9) j5 rfl ?_;intro K hK;go_simp;refine hK _ _ ?_;clear hK K;have K3:aj (One g) W5 (W5.setCell ⟨g,4,none⟩ (.slice (some ⟨b4,0,none⟩) (js.length+1) c4)):=aj.setCell (aj.refl _ _) (fun _=>(rfl:g=g)) _;have iE:=(K3.block w.heap.size (Array.getElem?_eq_some_iff.1 j5).1 (by unfold One;omega)).trans j5;have mH:=hA.val bW eZ hyA ng HAT.out (W5:=W5.setCell ⟨g,4,none⟩ (.slice (some ⟨b4,0,none⟩) (js.length+1) c4)) (by rw[heap_setCell_same _ g 4 _ _ _ CJ];rfl) (bz ow K3 fun q e=>by have:=Option.some.inj e;unfold One;simp at this;omega) ((kp.mono fun q _ e=>.inr (by unfold One at e;rw[e];rfl)).then (K3.mono fun q _ e=>.inl e));refine aA iE (by kernel_rfl) ?_ _;clear j5 iE g0 g1 CJ ow kp;go_wp2
   go_end0
   exact⟨rfl,_,_,mH⟩
  ·intro K hK;have g0:=bA Bb;have g1:=iI Bb 4;go_simp;refine hK _ _ ?_;clear hK K;have K3:aj (One g) W4 (W4.setCell ⟨g,4,none⟩ (.slice (some ⟨b4,0,none⟩) (js.length+1) c4)):=aj.setCell (aj.refl _ _) (fun _=>(rfl:g=g)) _;have CJ:(W4.setCell ⟨g,4,none⟩ (.slice (some ⟨b4,0,none⟩) (js.length+1) c4)).heap[g]?=some (.cells #[.int .i64 kd,.int .i64 0,.string ⟨#[]⟩,.slice (some ⟨b2,0,none⟩) (ks.length+1) c2,.slice (some ⟨b4,0,none⟩) (js.length+1) c4] 25 (0,0)):=by rw[heap_setCell_same _ g 4 _ _ _ Bb];rfl
   have j5:=(K3.block w.heap.size (Array.getElem?_eq_some_iff.1 mf).1 (by unfold One;omega)).trans mf;have ow:=bz bT K3 fun q e=>by have:=Option.some.inj e;unfold One;simp at this;omega
   obtain⟨W5,xi⟩:∃W5,W5=W4.setCell ⟨g,4,none⟩ (.slice (some ⟨b4,0,none⟩) (js.length+1) c4):=⟨_,rfl⟩;rw[<-xi]at K3 ow CJ j5 ⊢;clear xi g0 g1;have e0:=ze W5 ow 0 _ rfl;have e1:=ze W5 ow 1 _ rfl;have e2:=ze W5 ow 2 _ rfl;have e3:=ze W5 ow 3 _ rfl;have e4:=ze W5 ow 4 _ rfl;obtain⟨Tu,Tv⟩:=e0;obtain⟨Oc,P_⟩:=e1;obtain⟨e20,e21⟩:=e2;obtain⟨e30,e31⟩:=e3;obtain⟨e40,e41⟩:=e4;rw[Nat.add_zero]at Tu Tv;refine ak (i:=7) j5 rfl ?_;intro K hK;go_simp;refine hK _ _ ?_;clear hK K;have kp:=wO W5 b4 (js.length*5) (.int .i64 k) (.int .i64 i) (.string t) (.slice pk nk ck) (.slice pl nl cl);have ow5:=zB ow X5.out (.int .i64 k) (.int .i64 i) (.string t) (.slice pk nk ck) (.slice pl nl cl);have ob6:=(kp.block g (by have:=(Array.getElem?_eq_some_iff.1 CJ).1;omega) (by unfold One;omega)).trans CJ;have iE:=(kp.block w.heap.size (Array.getElem?_eq_some_iff.1 j5).1 (by unfold One;omega)).trans j5;have mH:=hA.val bW eZ hyA ng HAT.out ob6 ow5 ((K3.mono fun q _ e=>.inl e).then (kp.mono fun q _ e=>.inr (by unfold One at e;rw[e];rfl)));unfold X4 at iE mH;refine aA iE (by kernel_rfl) ?_ _;clear j5 iE Tu Tv Oc P_ e20 e21 e30 e31 e40 e41 ze ow ow5 CJ ob6 kp;go_wp2
   go_end0
   exact⟨rfl,_,_,mH⟩
 ·intro K hK;go_simp;refine hK _ _ ?_;clear hK K;refine ak (i:=1) h_ rfl ?_;intro K hK;go_simp;refine hK _ _ ?_;clear hK K;refine aa (i:=3) (d:=some 14) rfl ?_;refine ak (i:=5) h_ rfl ?_;intro K hK;refine aP (.tmp 12) (.tmp 15) 23 rfl B 25 (.agg #[.int .i64 0,.int .i64 0,.string ⟨#[]⟩,.slice none 0 0,.slice none 0 0]) 5 80 Tryz.underlying23 Tryz.dR rfl (by decide) (by decide) _ js.length xs rfl bW _ zj5 rfl rfl (jK (by simp)) (by decide) (by omega) hA.size ?_;intro nP W4 bT lN gN;refine hK _ _ ?_;clear hK K;obtain⟨b4,c4,wz⟩:=gK bT;subst wz;have ng:(W3.drew.alloc (.cells #[.int .i64 0,.int .i64 0,.string ⟨#[]⟩,.slice none 0 0,.slice none 0 0] 25)).grownBy W4 (Value.slice ql js.length uG).ownBlock:=lN;have lF:(Value.slice (some ⟨b4,0,none⟩) (js.length+1) c4).ownBlock=(Value.slice ql js.length uG).ownBlock\/ (Value.slice (some ⟨b4,0,none⟩) (js.length+1) c4).ownBlock=some (W3.drew.alloc (.cells #[.int .i64 0,.int .i64 0,.string ⟨#[]⟩,.slice none 0 0,.slice none 0 0] 25)).heap.size:=gN;have o6:=aM bW;have Tt:=aM bT;have zeg:=(Tt b4 rfl).1;have zeh:=h3.lt;have Oa:=hA.size;have cK:b4≠w.heap.size:=fun e=>by
   rcases lF with h'| h'
   ·exact HNE.out (h'.symm.trans (by rw[<-e];rfl))
   ·have:=Option.some.inj h';simp at this;have:=hbs;omega
  have Bb:W4.heap[g]?=some (.cells #[.int .i64 kd,.int .i64 0,.string ⟨#[]⟩,.slice (some ⟨b2,0,none⟩) (ks.length+1) c2,.slice ql js.length uG] 25 (0,0)):=(ng.block g (by omega) fun e=>by have:=(o6 g e.symm).1;omega).trans hA.obj;have mf:W4.heap[w.heap.size]?=some (.cells #[.int .i64 k,.int .i64 i,.string t,.slice pk nk ck,.slice pl nl cl] 25 (0,0)):=(ng.block w.heap.size (by simp;exact Nat.lt_succ_of_lt hbs) fun e=>HNE.out e.symm).trans h_;have HAT:Hid ((Value.slice (some ⟨b4,0,none⟩) (js.length+1) c4).ownBlock=(Value.slice ql js.length uG).ownBlock\/ (Value.slice (some ⟨b4,0,none⟩) (js.length+1) c4).ownBlock=some (W3.drew.alloc (.cells #[.int .i64 0,.int .i64 0,.string ⟨#[]⟩,.slice none 0 0,.slice none 0 0] 25)).heap.size):=lF;clear lN gN Tt lF;have ze:∀(W:World),W.ownsRow B 25 5 (.slice (some ⟨b4,0,none⟩) (js.length+1) c4) (js.length+1) (xs++zj5)->∀j u,zj5[j]?=some u->W.cell? ⟨b4,js.length*5+j,none⟩=some u/\W.frozen? ⟨b4,js.length*5+j,none⟩=false:=fun W hW j u hj=>by
   have F_:j<5:=(List.getElem?_eq_some_iff.1 hj).1;refine⟨(hW.cellAt (js.length*5+j) (by omega)).trans ?_,hW.frozenAt _⟩;rw[List.getElem?_append_right (by rw[X5.out];omega),X5.out,Nat.add_sub_cancel_left];exact hj
  have hli:(js.length:Int)<(js.length:Int)+1:=by omega
  refine aa (i:=6) (d:=some 17) rfl ?_;refine aa (i:=8) (d:=some 18) rfl ?_;refine aW (i:=7) (j:=9) mf (by kernel_rfl) rfl rfl (by rfl) (by rfl) ?_ ?_
  ·intro K hK;have e0:=ze W4 bT 0 _ rfl;have e1:=ze W4 bT 1 _ rfl;have e2:=ze W4 bT 2 _ rfl;have e3:=ze W4 bT 3 _ rfl;have e4:=ze W4 bT 4 _ rfl;obtain⟨Tu,Tv⟩:=e0;obtain⟨Oc,P_⟩:=e1;obtain⟨e20,e21⟩:=e2;obtain⟨e30,e31⟩:=e3;obtain⟨e40,e41⟩:=e4;rw[Nat.add_zero]at Tu Tv;go_simp;refine hK _ _ ?_;clear hK K;have kp:=wO W4 b4 (js.length*5) (.int .i64 k) (.int .i64 i) (.string t) (.slice pk nk ck) (.slice pl nl cl);have ow:=zB bT X5.out (.int .i64 k) (.int .i64 i) (.string t) (.slice pk nk ck) (.slice pl nl cl);have CJ:=(kp.block g (by have:=(Array.getElem?_eq_some_iff.1 Bb).1;omega) (by unfold One;omega)).trans Bb;have j5:=(kp.block w.heap.size (Array.getElem?_eq_some_iff.1 mf).1 (by unfold One;omega)).trans mf;have g0:=bA CJ;have g1:=iI CJ 4;obtain⟨W5,xi⟩:∃W5,W5=X4 W4 b4 (js.length*5) (.int .i64 k) (.int .i64 i) (.string t) (.slice pk nk ck) (.slice pl nl cl):=⟨_,rfl⟩;rw[<-xi]at kp ow CJ j5 g0 g1;have L8:=xi;unfold X4 at L8;rw[<-L8];clear xi L8 Tu Tv Oc P_ e20 e21 e30 e31 e40 e41 ze;refine ak (i:=9) j5 rfl ?_;intro K hK;go_simp;refine hK _ _ ?_;clear hK K;have K3:aj (One g) W5 (W5.setCell ⟨g,4,none⟩ (.slice (some ⟨b4,0,none⟩) (js.length+1) c4)):=aj.setCell (aj.refl _ _) (fun _=>(rfl:g=g)) _;have iE:=(K3.block w.heap.size (Array.getElem?_eq_some_iff.1 j5).1 (by unfold One;omega)).trans j5;have mH:=hA.val bW eZ hyA ng HAT.out (W5:=W5.setCell ⟨g,4,none⟩ (.slice (some ⟨b4,0,none⟩) (js.length+1) c4)) (by rw[heap_setCell_same _ g 4 _ _ _ CJ];rfl) (bz ow K3 fun q e=>by have:=Option.some.inj e;unfold One;simp at this;omega) ((kp.mono fun q _ e=>.inr (by unfold One at e;rw[e];rfl)).then (K3.mono fun q _ e=>.inl e));refine aA iE (by kernel_rfl) ?_ _;clear j5 iE g0 g1 CJ ow kp;go_wp2
   go_end0
   exact⟨rfl,_,_,mH⟩
  ·intro K hK;have g0:=bA Bb;have g1:=iI Bb 4;go_simp;refine hK _ _ ?_;clear hK K;have K3:aj (One g) W4 (W4.setCell ⟨g,4,none⟩ (.slice (some ⟨b4,0,none⟩) (js.length+1) c4)):=aj.setCell (aj.refl _ _) (fun _=>(rfl:g=g)) _;have CJ:(W4.setCell ⟨g,4,none⟩ (.slice (some ⟨b4,0,none⟩) (js.length+1) c4)).heap[g]?=some (.cells #[.int .i64 kd,.int .i64 0,.string ⟨#[]⟩,.slice (some ⟨b2,0,none⟩) (ks.length+1) c2,.slice (some ⟨b4,0,none⟩) (js.length+1) c4] 25 (0,0)):=by rw[heap_setCell_same _ g 4 _ _ _ Bb];rfl
   have j5:=(K3.block w.heap.size (Array.getElem?_eq_some_iff.1 mf).1 (by unfold One;omega)).trans mf;have ow:=bz bT K3 fun q e=>by have:=Option.some.inj e;unfold One;simp at this;omega
   obtain⟨W5,xi⟩:∃W5,W5=W4.setCell ⟨g,4,none⟩ (.slice (some ⟨b4,0,none⟩) (js.length+1) c4):=⟨_,rfl⟩;rw[<-xi]at K3 ow CJ j5 ⊢;clear xi g0 g1;have e0:=ze W5 ow 0 _ rfl;have e1:=ze W5 ow 1 _ rfl;have e2:=ze W5 ow 2 _ rfl;have e3:=ze W5 ow 3 _ rfl;have e4:=ze W5 ow 4 _ rfl;obtain⟨Tu,Tv⟩:=e0;obtain⟨Oc,P_⟩:=e1;obtain⟨e20,e21⟩:=e2;obtain⟨e30,e31⟩:=e3;obtain⟨e40,e41⟩:=e4;rw[Nat.add_zero]at Tu Tv;refine ak (i:=7) j5 rfl ?_;intro K hK;go_simp;refine hK _ _ ?_;clear hK K;have kp:=wO W5 b4 (js.length*5) (.int .i64 k) (.int .i64 i) (.string t) (.slice pk nk ck) (.slice pl nl cl);have ow5:=zB ow X5.out (.int .i64 k) (.int .i64 i) (.string t) (.slice pk nk ck) (.slice pl nl cl);have ob6:=(kp.block g (by have:=(Array.getElem?_eq_some_iff.1 CJ).1;omega) (by unfold One;omega)).trans CJ;have iE:=(kp.block w.heap.size (Array.getElem?_eq_some_iff.1 j5).1 (by unfold One;omega)).trans j5;have mH:=hA.val bW eZ hyA ng HAT.out ob6 ow5 ((K3.mono fun q _ e=>.inl e).then (kp.mono fun q _ e=>.inr (by unfold One at e;rw[e];rfl)));unfold X4 at iE mH;refine aA iE (by kernel_rfl) ?_ _;clear j5 iE Tu Tv Oc P_ e20 e21 e30 e31 e40 e41 ze ow ow5 CJ ob6 kp;go_wp2
   go_end0
   exact⟨rfl,_,_,mH⟩
theorem lH(u:ByteArray):∀v∈ [Value.int .i64 3,.int .i64 0,.string u,.slice none 0 0,.slice none 0 0],v.oneCell'=true:=by
 intro v hv;simp at hv
 rcases hv with rfl| rfl| rfl| rfl<;>rfl
theorem bB(O:Nat->Prop)(w:World)(u:ByteArray):isJ O w (aL u) [.int .i64 3,.int .i64 0,.string u,.slice none 0 0,.slice none 0 0]:=by
 unfold aL isJ;exact⟨none,0,none,0,rfl,jT.nil _ _,Nat.le_refl _,by unfold isJs;trivial⟩
theorem kI(O:Nat->Prop)(w:World)(n:Int):isJ O w (gz n) [.int .i64 2,.int .i64 n,.string aH,.slice none 0 0,.slice none 0 0]:=by
 unfold gz isJ;exact⟨none,0,none,0,rfl,jT.nil _ _,Nat.le_refl _,by unfold isJs;trivial⟩
theorem iq{w:World}(o1 o2:Obj):((w.alloc o1).alloc o2).heap[w.heap.size+1]?=some o2:=by
 have:=heap_alloc_new (w.alloc o1) o2;simpa using this
theorem jL{w:World}(o1 o2:Obj):((w.alloc o1).alloc o2).heap[w.heap.size]?=some o1:=by
 rw[Below.heap_alloc _ _ _ (by simp)];exact heap_alloc_new _ _
theorem TI.push{O:Nat->Prop}{B g:Nat}{kd:Int}{WB W W4:World}{ks:List ByteArray}{js:List J}{vk vl il:Value}{y:J}{cs xs:List Value}(h:TI O B g kd WB ks js vk vl W)(bW:W.ownsRow B 25 5 vl js.length xs)(eZ:isRow (Iw O B vk vl W) W js xs)(hy:isJ (Iw O B vk vl W) W y cs)
    (aT:W4.ownsRow B 25 5 il (js.length+1) (xs++cs)) (hg:W.grownBy W4 vl.ownBlock) (jB:il.ownBlock=vl.ownBlock\/ il.ownBlock=some W.heap.size):
    W4.cell? ⟨g,4,none⟩=some vl/\W4.frozen? ⟨g,4,none⟩=false/\TI O B g kd WB ks (js++ [y]) vk il (W4.setCell ⟨g,4,none⟩ il):=by
 have o6:=aM bW;have bJ:=h.lt;have fI:=h.size;have ob:W4.heap[g]?=some (.cells #[.int .i64 kd,.int .i64 0,.string ⟨#[]⟩,vk,vl] 25 (0,0)):=(hg.block g (by omega) fun e=>by have:=(o6 g e.symm).1;omega).trans h.obj;have K3:aj (One g) W4 (W4.setCell ⟨g,4,none⟩ il):=aj.setCell (aj.refl _ _) (fun _=>(rfl:g=g)) _;refine⟨bA ob,iI ob 4,h.val bW eZ hy hg jB (by rw[heap_setCell_same _ g 4 _ _ _ ob];rfl) (bz aT K3 fun q e=>by have:=(aM aT q e).1;unfold One;omega) (K3.mono fun q _ e=>.inl e)⟩
theorem TI.done{w WB wr W5:World}{kd:Int}{ks:List ByteArray}{js:List J}{q1 q2:Option Addr}{n1 n2 c1 c2:Nat}(h:TI (fun _=>False) (w.heap.size+2) (w.heap.size+1) kd WB ks js (.slice q1 n1 c1) (.slice q2 n2 c2) wr)(cK:Below w.heap.size w WB)(aX:aj (One w.heap.size) wr W5):
    isJ (fB w W5) W5 (.mk kd 0 aH ks js) [.int .i64 kd,.int .i64 0,.string aH,.slice q1 n1 c1,.slice q2 n2 c2]/\Below w.heap.size w W5:=by
 have fI:=h.size;have h5:=aX.size;have R3:=h.F9;obtain⟨xs,bW,eZ⟩:=h.dS;obtain⟨q1',lI,e1,lM⟩:=o5 h.keys;obtain⟨q2',jU,e2,vw,Pm⟩:=qV bW eZ
 cases e1
 cases e2
 have carry:∀k,w.heap.size+2<=k->k<wr.heap.size->fB w W5 k/\W5.heap[k]?=wr.heap[k]?:=fun k h1 h2=>⟨⟨by omega,by omega⟩,aX.block k h2 (by unfold One;omega)⟩;refine⟨?_, ?_⟩
 ·unfold isJ;refine⟨q1,c1,q2,c2,rfl,lM.carry fun k hk=>carry k hk.1 hk.2,vw,Pm.carry fun k hk=> ?_⟩
  rcases hk with hk| hk
  ·rcases hk with hk| hk
   ·exact hk.elim
   ·exact carry k hk.1 hk.2.1
  ·exact carry k hk.1 hk.2
 ·exact(cK.trans (h.bf.below (by omega) fun k hk=>by unfold One;omega)).trans (aX.below (by omega) fun k hk=>by unfold One;omega)
theorem rh{O:Nat->Prop}{row:List ByteArray}{p:Option Addr}{c:Nat}{w:World}(l_:jT O w p c row)(hO:∀k,O k->k<w.heap.size)(hl:row.length<=100000):
    Calls Tryz.prog 67 #[.slice p row.length c] w fun x w'=>(∃pl nl cl,x=.returned (.agg #[.int .i64 4,.int .i64 0,.string aH,.slice none 0 0,.slice pl nl cl])/\isJ (fB w w') w' (dB row) [.int .i64 4,.int .i64 0,.string aH,.slice none 0 0,.slice pl nl cl])/\Below w.heap.size w w':=by
 obtain⟨n,hn⟩:∃n,row.length=n:=⟨_,rfl⟩;have HN:Hid (row.length=n):=hn;have Q7:=l_.1;rw[hn]at hl Q7 ⊢;clear hn;obtain⟨WB,dw⟩:∃WB,WB=(w.alloc (.cells #[.int .i64 0,.int .i64 0,.string ⟨#[]⟩,.slice none 0 0,.slice none 0 0] 25)).alloc (.cells #[.int .i64 4,.int .i64 0,.string ⟨#[]⟩,.slice none 0 0,.slice none 0 0] 25):=⟨_,rfl⟩;have cK:Below w.heap.size w WB:=by rw[dw];exact((Below.refl _ _).alloc (Nat.le_refl _) _).alloc (by simp) _
 have bn:WB.heap[w.heap.size]?=some (.cells #[.int .i64 0,.int .i64 0,.string ⟨#[]⟩,.slice none 0 0,.slice none 0 0] 25 (0,0)):=by rw[dw];exact jL _ _
 have r9:TI (fun _=>False) (w.heap.size+2) (w.heap.size+1) 4 WB [] [] (.slice none 0 0) (.slice none 0 0) WB:=TI.start (by rw[dw];simp) (by omega) (fun k h=>h.elim) (by rw[dw];exact iq _ _);go_enter Tryz.func67,Tryz.ntmps67;go_wp2;rw[<-dw];clear dw
 go_loopw [9] (fun i wr=>∃(k:Nat) (vl:Value),i=.int .i64 k/\k<=n/\TI (fun _=>False) (w.heap.size+2) (w.heap.size+1) 4 WB [] ((row.take k).map aL) (.slice none 0 0) vl wr) (fun i _=>n - (intOf i).toNat)
 case atStart=>exact⟨0,_,rfl,Nat.zero_le _,r9⟩
 case round=>
  clear r9;obtain⟨k,vl,rfl,hk,mH⟩:=hrel;obtain⟨js,ny⟩:∃js,(row.take k).map aL=js:=⟨_,rfl⟩;have U3:js.length=k:=by rw[<-ny,List.length_map,List.length_take,HN.out];omega
  by_cases bJ:k<n
  ·have Vo:(k:Int)<(n:Int):=by omega
   have gM:k<row.length:=by rw[HN.out];exact bJ
   obtain⟨a,V6,uC,yw⟩:=l_.2 k gM;subst V6;have gV:wr.cell? (a.add k)=some (.string (row.getD k aH)):=by
    have h1:=hO _ uC;have h2:=mH.F9;exact(World.cell?_of_block (by rw[aY];exact(mH.bf.block _ (by omega) (by unfold One;omega)).trans (cK.block _ h1))).trans yw
   obtain⟨u,hu⟩:∃u,row.getD k aH=u:=⟨_,rfl⟩;have Cn:Hid ((row.take (k+1)).map aL=js++ [aL u]):=by
    show _=_
    rw[List.take_add_one,List.getElem?_eq_getElem gM,List.map_append,ny,<-hu,List.getD_eq_getElem?_getD,List.getElem?_eq_getElem gM];rfl
   rw[hu]at gV;rw[ny]at mH;clear hu yw gM ny;have hd:=mH.drew;have hT:=iL u wr.drew;obtain⟨ql,uG,vP⟩:∃q c,vl=.slice q js.length c:=by
    obtain⟨ZM,za,_⟩:=mH.dS;exact eT za
   subst vP;have HJL:Hid (js.length=k):=U3;have hjb:js.length<=100000:=by omega
   clear U3;go_wp2;have c0:=bA hd.obj;refine aD (by kernel_rfl) (fun _=>True) ?_;change wpIn _ _ _ _ _ _ _ _ (World.drew _);refine aa (i:=0) (d:=some 13) rfl ?_;refine aa (i:=2) (d:=some 15) rfl ?_;refine aW (i:=1) (j:=3) trivial (by kernel_rfl) rfl rfl (by rfl) (by rfl) ?_ ?_
   ·intro K hK;go_simp;refine hK _ _ ?_;clear hK K;refine ak (i:=3) trivial rfl ?_;intro K hK;go_simp;go_wp2_with(go_at_call 69;refine hT.mono ?_;rintro x w3 ⟨rfl,a_⟩);have h3:=hd.more a_;have hA:=h3.alloc (.cells #[.int .i64 3,.int .i64 0,.string u,.slice none 0 0,.slice none 0 0] 25);obtain⟨xs,bW,eZ⟩:=hA.dS;have c1:=bA h3.obj;have c2:=bA hA.obj;refine ak (i:=4) trivial rfl ?_;intro K hK;go_simp;refine hK _ _ ?_;clear hK K;refine ak (i:=5) trivial rfl ?_;intro K hK;refine aP (.tmp 14) (.tmp 17) 23 rfl (w.heap.size+2) 25 (.agg #[.int .i64 0,.int .i64 0,.string ⟨#[]⟩,.slice none 0 0,.slice none 0 0]) 5 80 Tryz.underlying23 Tryz.dR rfl (by decide) (by decide) _ js.length xs rfl bW _ [.int .i64 3,.int .i64 0,.string u,.slice none 0 0,.slice none 0 0] rfl rfl (jK rfl) (lH u) (by omega) hA.size ?_;intro nP W4 bT lN gN;refine hK _ _ ?_;clear hK K;obtain⟨b4,c4,wz⟩:=gK bT;subst wz;obtain⟨g0,g1,kZ⟩:=hA.push bW eZ (bB _ _ u) bT lN gN;clear bT lN gN;refine aa (i:=6) (d:=some 19) rfl ?_;refine ak (i:=7) trivial rfl ?_;intro K hK;go_simp;refine hK _ _ ?_;clear hK K;refine aA trivial (by kernel_rfl) ?_ _;clear g0 g1 c0 c1 c2;go_wp2;go_roundw
    case rel=>exact⟨k+1,_,by go_num,bJ,by rw[Cn.out];exact kZ⟩
    case measure=>simp[intOf];omega
   ·intro K hK;go_simp;go_wp2_with(go_at_call 69;refine hT.mono ?_;rintro x w3 ⟨rfl,a_⟩);have h3:=hd.more a_;have hA:=h3.alloc (.cells #[.int .i64 3,.int .i64 0,.string u,.slice none 0 0,.slice none 0 0] 25);obtain⟨xs,bW,eZ⟩:=hA.dS;have c1:=bA h3.obj;have c2:=bA hA.obj;refine aW (i:=1) (j:=4) trivial (by kernel_rfl) rfl rfl (by rfl) (by rfl) ?_ ?_
    ·intro K hK;go_simp;refine hK _ _ ?_;clear hK K;refine ak (i:=4) trivial rfl ?_;intro K hK;go_simp;refine hK _ _ ?_;clear hK K;refine ak (i:=5) trivial rfl ?_;intro K hK;refine aP (.tmp 14) (.tmp 17) 23 rfl (w.heap.size+2) 25 (.agg #[.int .i64 0,.int .i64 0,.string ⟨#[]⟩,.slice none 0 0,.slice none 0 0]) 5 80 Tryz.underlying23 Tryz.dR rfl (by decide) (by decide) _ js.length xs rfl bW _ [.int .i64 3,.int .i64 0,.string u,.slice none 0 0,.slice none 0 0] rfl rfl (jK rfl) (lH u) (by omega) hA.size ?_;intro nP W4 bT lN gN;refine hK _ _ ?_;clear hK K;obtain⟨b4,c4,wz⟩:=gK bT;subst wz;obtain⟨g0,g1,kZ⟩:=hA.push bW eZ (bB _ _ u) bT lN gN;clear bT lN gN;refine aa (i:=6) (d:=some 19) rfl ?_;refine ak (i:=7) trivial rfl ?_;intro K hK;go_simp;refine hK _ _ ?_;clear hK K;refine aA trivial (by kernel_rfl) ?_ _;clear g0 g1 c0 c1 c2;go_wp2;go_roundw
     case rel=>exact⟨k+1,_,by go_num,bJ,by rw[Cn.out];exact kZ⟩
     case measure=>simp[intOf];omega
    ·intro K hK;go_simp;refine hK _ _ ?_;clear hK K;refine ak (i:=1) trivial rfl ?_;intro K hK;go_simp;refine hK _ _ ?_;clear hK K;refine ak (i:=5) trivial rfl ?_;intro K hK;refine aP (.tmp 14) (.tmp 17) 23 rfl (w.heap.size+2) 25 (.agg #[.int .i64 0,.int .i64 0,.string ⟨#[]⟩,.slice none 0 0,.slice none 0 0]) 5 80 Tryz.underlying23 Tryz.dR rfl (by decide) (by decide) _ js.length xs rfl bW _ [.int .i64 3,.int .i64 0,.string u,.slice none 0 0,.slice none 0 0] rfl rfl (jK rfl) (lH u) (by omega) hA.size ?_;intro nP W4 bT lN gN;refine hK _ _ ?_;clear hK K;obtain⟨b4,c4,wz⟩:=gK bT;subst wz;obtain⟨g0,g1,kZ⟩:=hA.push bW eZ (bB _ _ u) bT lN gN;clear bT lN gN;refine aa (i:=6) (d:=some 19) rfl ?_;refine ak (i:=7) trivial rfl ?_;intro K hK;go_simp;refine hK _ _ ?_;clear hK K;refine aA trivial (by kernel_rfl) ?_ _;clear g0 g1 c0 c1 c2;go_wp2;go_roundw
     case rel=>exact⟨k+1,_,by go_num,bJ,by rw[Cn.out];exact kZ⟩
     case measure=>simp[intOf];omega
  ·obtain rfl:k=n:=by omega
   rw[List.take_of_length_le (by rw[HN.out];omega)]at mH;obtain⟨q2,c2,vP⟩:∃q c,vl=.slice q (row.map aL).length c:=by
    obtain⟨xs,bW,_⟩:=mH.dS;exact eT bW
   subst vP;have xA:=mH.obj;have mo:wr.heap[w.heap.size]?=some (.cells #[.int .i64 0,.int .i64 0,.string ⟨#[]⟩,.slice none 0 0,.slice none 0 0] 25 (0,0)):=(mH.bf.block _ (by have:=mH.F9;omega) (by unfold One;omega)).trans bn;obtain⟨j0,j1,j2,j3,j4⟩:=ai xA;obtain⟨i0,i1,i2,i3,i4⟩:=ai mo;obtain⟨z0,z1,z2,z3,z4⟩:=aF mo;obtain⟨m,hm⟩:∃m,(row.map aL).length=m:=⟨_,rfl⟩;have HTI:Hid (TI (fun _=>False) (w.heap.size+2) (w.heap.size+1) 4 WB [] (row.map aL) (.slice none 0 0) (.slice q2 m c2) wr):=hm ▸ mH;rw[hm]at j4;have h5:=aK mo (.int .i64 4) (.int .i64 0) (.string ⟨#[]⟩) (.slice none 0 0) (.slice q2 m c2);have aX:aj (One w.heap.size) wr _:=aJ wr w.heap.size (.int .i64 4) (.int .i64 0) (.string ⟨#[]⟩) (.slice none 0 0) (.slice q2 m c2);unfold bF at h5 aX;obtain⟨k0,k1,k2,k3,k4⟩:=ai h5;clear mH xA mo hm U3 ny;go_wp2;refine bodyPost_ret (v:=.agg #[.int .i64 4,.int .i64 0,.string ⟨#[]⟩,.slice none 0 0,.slice q2 m c2]) (by simp[results,Tryz.results67,go_sem,k0,k1,k2,k3,k4]) rfl ?_;obtain⟨r1,r2⟩:=HTI.out.done cK aX;exact⟨⟨_,_,_,rfl,r1⟩,r2⟩
theorem V7{d:Nat}{c:J}(h:szJ (d+1) c=true):szJ (d+1) (.mk 4 0 aH [] [c])=true:=by
 have:=wN d (d+1) c (by omega) h;unfold szJ;rw[show List.all [c] (szJ d)=true by rw[List.all_cons,this];rfl]
 rfl
theorem L_{w:World}{O:Nat->Prop}{j:J}{k i:Int}{t:ByteArray}{pk pl:Option Addr}{nk ck nl cl:Nat}(hO:∀x,O x->x<w.heap.size)(fI:szJ 12 j=true)
    (hj:isJ O w j [.int .i64 k,.int .i64 i,.string t,.slice pk nk ck,.slice pl nl cl]):
    Calls Tryz.prog 59 #[.agg #[.int .i64 k,.int .i64 i,.string t,.slice pk nk ck,.slice pl nl cl]] w fun x w'=>x=.returned (.bool (fq j))/\Below w.heap.size w w':=by
 obtain⟨W3,Ob⟩:∃W3,W3=((w.alloc (.cells #[.int .i64 k,.int .i64 i,.string t,.slice pk nk ck,.slice pl nl cl] 25)).alloc (.cells #[.int .i64 k,.int .i64 i,.string t,.slice pk nk ck,.slice pl nl cl] 25)).alloc (.cells #[.int .i64 4,.int .i64 0,.string ⟨#[]⟩,.slice none 0 0,.slice (some ⟨w.heap.size+1,0,none⟩) 1 1] 25):=⟨_,rfl⟩;have cK:Below w.heap.size w W3:=by rw[Ob];exact(((Below.refl _ _).alloc (Nat.le_refl _) _).alloc (by simp) _).alloc (by simp;omega) _
 have hs3:W3.heap.size=w.heap.size+3:=by rw[Ob];simp
 have hm:W3.heap[w.heap.size+1]?=some (.cells #[.int .i64 k,.int .i64 i,.string t,.slice pk nk ck,.slice pl nl cl] 25 (0,0)):=by
  rw[Ob,Below.heap_alloc _ _ _ (by simp)];exact iq _ _
 have rM:isJ (fun x=>O x\/ x=w.heap.size+1) W3 (.mk 4 0 aH [] [j]) [.int .i64 4,.int .i64 0,.string aH,.slice none 0 0,.slice (some ⟨w.heap.size+1,0,none⟩) 1 1]:=by
  unfold isJ;refine⟨none,0,some ⟨w.heap.size+1,0,none⟩,1,rfl,jT.nil _ _,Nat.le_refl _, ?_⟩;unfold isJs;refine⟨⟨_,0,_,rfl,.inr rfl,fun i v hi=> ?_,hj.carry fun x hx=>⟨.inl hx,cK.block x (hO x hx)⟩⟩,by unfold isJs;trivial⟩;rw[Nat.zero_mul,Nat.add_zero,Nat.zero_add];exact aR (cur:= [_,_,_,_,_]) hm i v hi
 have hG:=AV (w:=W3) (fun x hx=>by rw[hs3];rcases hx with hx| hx;have:=hO x hx;omega;omega) (V7 fI) rM;have HF:Hid (fq j=(decide (k=5)&&goodJ 12 (.mk 4 0 aH [] [j]))):=by
  show _=_
  unfold fq
  cases j with
  | mk k' i' t' ks l=>
   unfold isJ at hj;obtain⟨_,_,_,_,e,_⟩:=hj
   cases e
   rfl
 rw[Ob]at hG cK;clear hm rM hs3 Ob
 by_cases hk:k=5
 ·subst hk;go_enter Tryz.func59,Tryz.ntmps59;go_wp2_with(go_at_call 64;refine hG.mono ?_;rintro x w2 ⟨rfl,bM⟩);go_ret;exact⟨av (by rw[HF.out];rfl),ae cK bM⟩
 ·have iK:decide (k=5)=false:=decide_eq_false hk;go_enter Tryz.func59,Tryz.ntmps59;go_wp2;go_ret;exact⟨av (by rw[HF.out,iK];rfl),cK⟩
theorem DZ{O:Nat->Prop}{ks:List ByteArray}{p:Option Addr}{c:Nat}{w:World}(m:Nat)(l_:jT O w p c ks)(hO:∀k,O k->k<w.heap.size)(hl:ks.length<=100000)(CB:∀k∈ks,k.size<=1000000000):
    Calls Tryz.prog 60 #[.slice p ks.length c,.int .i64 m] w fun x w'=>x=.returned (.bool (bU m ks))/\Below w.heap.size w w':=by
 have hon:=Tn l_ hO hl CB;obtain⟨n,hn⟩:∃n,ks.length=n:=⟨_,rfl⟩;have HN:Hid (ks.length=n):=hn;have Q7:=l_.1;rw[hn]at hl Q7 hon ⊢;clear hn
 by_cases kU:(m:Int)<(n:Int)
 ·have HF:Hid (bU m ks=false):=by
    show _=_
    unfold bU;rw[HN.out,decide_eq_false (by omega)];rfl
  clear hon;go_enter Tryz.func60,Tryz.ntmps60;go_wp2;go_ret;exact⟨av HF.out.symm,Below.refl _ _⟩
 cases hd:noKeyTwice ks with
 | false=>
  have HF:Hid (bU m ks=false):=by
   show _=_
   unfold bU;rw[hd];simp
  rw[hd]at hon;go_enter Tryz.func60,Tryz.ntmps60;go_wp2_with(go_at_call 100;refine hon.mono ?_;rintro x w1 ⟨rfl,bI⟩);go_ret;exact⟨av HF.out.symm,bI⟩
 | true=>
  have HE:Hid (bU m ks=ks.all Id.tT):=by
   show _=_
   unfold bU;rw[hd,HN.out,decide_eq_true (by omega)];rfl
  rw[hd]at hon;clear hd;go_enter Tryz.func60,Tryz.ntmps60;go_wp2_with(go_at_call 100;refine hon.mono ?_;rintro x w1 ⟨rfl,bI⟩)
  go_loopw [18] (fun i wr=>∃k:Nat,i=.int .i64 k/\k<=n/\Hid (∀j,j<k->Id.tT (ks.getD j aH)=true)/\Below w.heap.size w wr) (fun i _=>n - (intOf i).toNat)
  case atStart=>exact⟨0,rfl,Nat.zero_le _,fun j hj=>absurd hj (by omega),bI⟩
  case round=>
   obtain⟨k,rfl,hk,HG,hb⟩:=hrel
   by_cases bJ:k<n
   ·have Vo:(k:Int)<(n:Int):=by omega
    have gM:k<ks.length:=by rw[HN.out];exact bJ
    obtain⟨a,V6,uC,yw⟩:=l_.2 k gM;subst V6;have gV:wr.cell? (a.add k)=some (.string (ks.getD k aH)):=(World.cell?_of_block (by rw[aY];exact hb.block _ (hO _ uC))).trans yw;have Ff:ks.getD k aH∈ks:=by
     rw[List.getD_eq_getElem?_getD,List.getElem?_eq_getElem gM];exact List.getElem_mem _
    have Ta:(ks.getD k aH).size<=1000000000:=CB _ Ff;have zbK:Hid (ks.getD k aH∈ks):=Ff;obtain⟨u,hu⟩:∃u,ks.getD k aH=u:=⟨_,rfl⟩;have HU:Hid (ks.getD k aH=u):=hu;rw[hu]at gV Ta zbK;clear hu yw Ff gM;have hE:=Id.Dk u wr (by omega)
    cases he:Id.tT u with
    | true=>
     have HEV:Hid (Id.tT u=true):=he;rw[he]at hE;clear he;go_wp2_with(go_at_call 101;refine hE.mono ?_;rintro x w2 ⟨rfl,bM⟩);go_roundw
     case rel=>exact⟨k+1,by go_num,bJ,fun j hj=>(Nat.lt_succ_iff_lt_or_eq.1 hj).elim (HG.out j) (fun e=>by rw[e,HU.out];exact HEV.out),dU hb hb.size bM⟩
     case measure=>simp[intOf];omega
    | false=>
     have HF:Hid (bU m ks=false):=by
      show _=_
      rw[HE.out,List.all_eq_false];exact⟨u,zbK.out,by rw[he];decide⟩
     rw[he]at hE;go_wp2_with(go_at_call 101;refine hE.mono ?_;rintro x w2 ⟨rfl,bM⟩);go_ret;exact⟨av HF.out.symm,dU hb hb.size bM⟩
   ·obtain rfl:k=n:=by omega
    have HT:Hid (bU m ks=true):=by
     show _=_
     rw[HE.out,List.all_eq_true];intro x hx;obtain⟨j,hj,rfl⟩:=List.getElem_of_mem hx;have:=HG.out j (by rw[<-HN.out];exact hj);rw[List.getD_eq_getElem?_getD,List.getElem?_eq_getElem hj]at this;exact this
    go_wp2;go_ret;exact⟨av HT.out.symm,hb⟩
theorem Bc{O:Nat->Prop}{l:List (ByteArray×ByteArray)}{p:Option Addr}{c:Nat}{w:World}(l_:Aa O w p c l)(hO:∀k,O k->k<w.heap.size)(hl:l.length<=100000):
    Calls Tryz.prog 70 #[.slice p l.length c] w fun x w'=>(∃pk nk ck pl nl cl,x=.returned (.agg #[.int .i64 5,.int .i64 0,.string aH,.slice pk nk ck,.slice pl nl cl])/\isJ (fB w w') w' (dF l) [.int .i64 5,.int .i64 0,.string aH,.slice pk nk ck,.slice pl nl cl])/\Below w.heap.size w w':=by
 obtain⟨n,hn⟩:∃n,l.length=n:=⟨_,rfl⟩;have HN:Hid (l.length=n):=hn;have Q7:=l_.1;rw[hn]at hl Q7 ⊢;clear hn;obtain⟨WB,dw⟩:∃WB,WB=(w.alloc (.cells #[.int .i64 0,.int .i64 0,.string ⟨#[]⟩,.slice none 0 0,.slice none 0 0] 25)).alloc (.cells #[.int .i64 5,.int .i64 0,.string ⟨#[]⟩,.slice none 0 0,.slice none 0 0] 25):=⟨_,rfl⟩;have cK:Below w.heap.size w WB:=by rw[dw];exact((Below.refl _ _).alloc (Nat.le_refl _) _).alloc (by simp) _
 have bn:WB.heap[w.heap.size]?=some (.cells #[.int .i64 0,.int .i64 0,.string ⟨#[]⟩,.slice none 0 0,.slice none 0 0] 25 (0,0)):=by rw[dw];exact jL _ _
 have r9:TI (fun _=>False) (w.heap.size+2) (w.heap.size+1) 5 WB [] [] (.slice none 0 0) (.slice none 0 0) WB:=TI.start (by rw[dw];simp) (by omega) (fun k h=>h.elim) (by rw[dw];exact iq _ _);go_enter Tryz.func70,Tryz.ntmps70;go_wp2;rw[<-dw];clear dw
 go_loopw [9] (fun i wr=>∃(k:Nat) (vk vl:Value),i=.int .i64 k/\k<=n/\TI (fun _=>False) (w.heap.size+2) (w.heap.size+1) 5 WB ((l.take k).map (·.1)) ((l.take k).map fun s=>aL s.2) vk vl wr) (fun i _=>n - (intOf i).toNat)
 case atStart=>exact⟨0,_,_,rfl,Nat.zero_le _,r9⟩
 case round=>
  clear r9;obtain⟨k,vk,vl,rfl,hk,mH⟩:=hrel
  by_cases bJ:k<n
  ·obtain⟨ks,rQ⟩:∃ks,(l.take k).map (·.1)=ks:=⟨_,rfl⟩;obtain⟨js,ny⟩:∃js,((l.take k).map fun s=>aL s.2)=js:=⟨_,rfl⟩;have zei:ks.length=k:=by rw[<-rQ,List.length_map,List.length_take,HN.out];omega
   have U3:js.length=k:=by rw[<-ny,List.length_map,List.length_take,HN.out];omega
   have Vo:(k:Int)<(n:Int):=by omega
   have gM:k<l.length:=by rw[HN.out];exact bJ
   obtain⟨b,of,V6,xz,GI,vw⟩:=l_.2 k gM;subst V6;have BV:wr.heap[b]?=w.heap[b]?:=by
    have h1:=hO _ xz;have h2:=mH.F9;exact(mH.bf.block _ (by omega) (by unfold One;omega)).trans (cK.block _ h1)
   have d1:=(World.cell?_of_block (a:=⟨b,of+k*2,none⟩) BV).trans GI;have d2:=(World.cell?_of_block (a:=⟨b,of+k*2+1,none⟩) BV).trans vw;obtain⟨x,hx⟩:∃x,(l.getD k (aH,aH)).1=x:=⟨_,rfl⟩;obtain⟨u,hu⟩:∃u,(l.getD k (aH,aH)).2=u:=⟨_,rfl⟩;have HK1:Hid ((l.take (k+1)).map (·.1)=ks++ [x]):=by
    show _=_
    rw[List.take_add_one,List.getElem?_eq_getElem gM,List.map_append,rQ,<-hx,List.getD_eq_getElem?_getD,List.getElem?_eq_getElem gM];rfl
   have HJ1:Hid (((l.take (k+1)).map fun s=>aL s.2)=js++ [aL u]):=by
    show _=_
    rw[List.take_add_one,List.getElem?_eq_getElem gM,List.map_append,ny,<-hu,List.getD_eq_getElem?_getD,List.getElem?_eq_getElem gM];rfl
   rw[hx]at d1;rw[hu]at d2;rw[rQ,ny]at mH;obtain⟨ql,uG,vP⟩:∃q c,vl=.slice q js.length c:=by
    obtain⟨ZM,za,_⟩:=mH.dS;exact eT za
   obtain⟨qk,DL,ET⟩:=eT mH.keys;have h1:=(mH.alloc (.cells #[.string x,.string u] 56)).alloc (.cells #[.string x] 9);have zej:=mH.size;have hEb:Iw (fun _=>False) (w.heap.size+2) vk vl ((wr.alloc (.cells #[.string x,.string u] 56)).alloc (.cells #[.string x] 9)) wr.heap.size:=
    .inr ⟨zej,by simp;omega,fun e=>by have:=(aM mH.keys _ e).2;omega,fun e=>by
     obtain⟨ZM,za,_⟩:=mH.dS;have:=(aM za _ e).2;omega⟩
   have vO:((wr.alloc (.cells #[.string x,.string u] 56)).alloc (.cells #[.string x] 9)).heap[wr.heap.size]?=some (.cells #[.string x,.string u] 56 (0,0)):=by
    rw[Below.heap_alloc _ _ _ (by simp)];exact heap_alloc_new _ _
   have c3:=fK (mH.alloc (.cells #[.string x,.string u] 56)).obj;have iB:(wr.alloc (.cells #[.string x,.string u] 56)).cell? ⟨wr.heap.size,0,none⟩=some (.string x):=lU (cs:= [_,_]) 0 _ rfl;have hkb:ks.length<=100000:=by omega
   have hjb:js.length<=100000:=by omega
   have HJL:Hid (js.length=k):=U3;clear BV GI vw hx hu rQ ny gM U3 zei;subst ET vP;go_wp2_with(at_builtin;refine o9 rfl _ _ 22 rfl (w.heap.size+2) 9 (.string ⟨#[]⟩) 1 16 Tryz.underlying22 Tryz.jZ rfl (by decide) (by decide) _ ks.length (ks.map Value.string) rfl h1.keys _ [.string x] rfl rfl (Fe (by simp)) (Ba x) (by omega) h1.size ?_;intro NI W2 fV m_ sJ;obtain⟨d3,f3,h3,zb⟩:=h1.key fV m_ sJ;obtain⟨b2,c2,eZ⟩:=gK fV;subst eZ);obtain⟨zac,Tq⟩:=zb _ hEb;have zad:=Tq.trans vO;clear zb h1 vO Tq hEb fV m_ sJ d3 f3 c3 iB;obtain⟨W3,Ob⟩:∃W3,W3=W2.setCell ⟨w.heap.size+1,3,none⟩ (.slice (some ⟨b2,0,none⟩) (ks.length+1) c2):=⟨_,rfl⟩;rw[<-Ob]at h3 zac zad ⊢;clear Ob;have hd:=h3.drew;have hT:=iL u W3.drew;have c0:=bA hd.obj;have yY:wr.heap.size<W3.heap.size:=(Array.getElem?_eq_some_iff.1 zad).1;have HVE:Hid ((Value.slice ql js.length uG).ownBlock≠some wr.heap.size):=by
    rcases zac with h| h
    ·exact h.elim
    ·exact h.2.2.2
   clear zac;have HCC:Hid (∀W:World,W.heap[wr.heap.size]?=some (.cells #[.string x,.string u] 56 (0,0))->W.cell? ⟨wr.heap.size,1,none⟩=some (.string u)):=fun W hW=>aR (cur:= [_,_]) hW 1 _ rfl;have fE:W3.drew.heap[wr.heap.size]?=some (.cells #[.string x,.string u] 56 (0,0)):=zad;refine aD (by kernel_rfl) (fun W=>W.heap[wr.heap.size]?=some (.cells #[.string x,.string u] 56 (0,0))) ?_;change wpIn _ _ _ _ _ _ _ _ (World.drew _);refine aa (i:=0) (d:=some 20) rfl ?_;refine aa (i:=2) (d:=some 22) rfl ?_;refine aB (i:=3) (d:=some 23) rfl (by(intro wq hq;have q0:=HCC.out wq hq;go_simp;first| done| with_reducible rfl)) ?_;refine aW (i:=1) (j:=4) fE (by kernel_rfl) rfl rfl (by rfl) (by rfl) ?_ ?_
   ·intro K hK;go_simp;refine hK _ _ ?_;clear hK K;refine ak (i:=4) fE rfl ?_;intro K hK;go_simp;go_wp2_with(go_at_call 69;refine hT.mono ?_;rintro x' w3 ⟨rfl,a_⟩);have h4:=hd.more a_;have hA:=h4.alloc (.cells #[.int .i64 3,.int .i64 0,.string u,.slice none 0 0,.slice none 0 0] 25);obtain⟨xs,bW,eZ⟩:=hA.dS;have c1:=bA h4.obj;have jU:=bA hA.obj;have h_:=(a_.block wr.heap.size yY).trans fE;have zae:wr.heap.size<w3.heap.size:=Nat.lt_of_lt_of_le yY a_.size;have mf:=(Below.heap_alloc w3 (.cells #[.int .i64 3,.int .i64 0,.string u,.slice none 0 0,.slice none 0 0] 25) _ zae).trans h_;refine ak (i:=5) h_ rfl ?_;intro K hK;go_simp;refine hK _ _ ?_;clear hK K;refine ak (i:=6) mf rfl ?_;intro K hK;refine aP (.tmp 21) (.tmp 25) 23 rfl (w.heap.size+2) 25 (.agg #[.int .i64 0,.int .i64 0,.string ⟨#[]⟩,.slice none 0 0,.slice none 0 0]) 5 80 Tryz.underlying23 Tryz.dR rfl (by decide) (by decide) _ js.length xs rfl bW _ [.int .i64 3,.int .i64 0,.string u,.slice none 0 0,.slice none 0 0] rfl rfl (jK rfl) (lH u) (by omega) hA.size ?_;intro nP W4 bT lN gN;refine hK _ _ ?_;clear hK K;obtain⟨b4,c4,wz⟩:=gK bT;subst wz;obtain⟨g0,g1,kZ⟩:=hA.push bW eZ (bB _ _ u) bT lN gN;have j5:=(lN.block wr.heap.size (by simp;omega) fun e=>HVE.out e.symm).trans mf;have K3:aj (One (w.heap.size+1)) W4 (W4.setCell ⟨w.heap.size+1,4,none⟩ (.slice (some ⟨b4,0,none⟩) (js.length+1) c4)):=aj.setCell (aj.refl _ _) (fun _=>(rfl:w.heap.size+1=w.heap.size+1)) _;have iE:=(K3.block wr.heap.size (Array.getElem?_eq_some_iff.1 j5).1 (by unfold One;omega)).trans j5;clear bT lN gN;refine aa (i:=7) (d:=some 27) rfl ?_;refine ak (i:=8) j5 rfl ?_;intro K hK;go_simp;refine hK _ _ ?_;clear hK K;refine aA iE (by kernel_rfl) ?_ _;clear g0 g1 c0 c1 jU fE h_ mf j5 iE;go_wp2;go_roundw
    case rel=>exact⟨k+1,_,_,by go_num,bJ,by rw[HK1.out,HJ1.out];exact kZ⟩
    case measure=>simp[intOf];omega
   ·intro K hK;go_simp;go_wp2_with(go_at_call 69;refine hT.mono ?_;rintro x' w3 ⟨rfl,a_⟩);have h4:=hd.more a_;have hA:=h4.alloc (.cells #[.int .i64 3,.int .i64 0,.string u,.slice none 0 0,.slice none 0 0] 25);obtain⟨xs,bW,eZ⟩:=hA.dS;have c1:=bA h4.obj;have jU:=bA hA.obj;have h_:=(a_.block wr.heap.size yY).trans fE;have zae:wr.heap.size<w3.heap.size:=Nat.lt_of_lt_of_le yY a_.size;have mf:=(Below.heap_alloc w3 (.cells #[.int .i64 3,.int .i64 0,.string u,.slice none 0 0,.slice none 0 0] 25) _ zae).trans h_;refine aW (i:=1) (j:=5) h_ (by kernel_rfl) rfl rfl (by rfl) (by rfl) ?_ ?_
    ·intro K hK;go_simp;refine hK _ _ ?_;clear hK K;refine ak (i:=5) h_ rfl ?_;intro K hK;go_simp;refine hK _ _ ?_;clear hK K;refine ak (i:=6) mf rfl ?_;intro K hK;refine aP (.tmp 21) (.tmp 25) 23 rfl (w.heap.size+2) 25 (.agg #[.int .i64 0,.int .i64 0,.string ⟨#[]⟩,.slice none 0 0,.slice none 0 0]) 5 80 Tryz.underlying23 Tryz.dR rfl (by decide) (by decide) _ js.length xs rfl bW _ [.int .i64 3,.int .i64 0,.string u,.slice none 0 0,.slice none 0 0] rfl rfl (jK rfl) (lH u) (by omega) hA.size ?_;intro nP W4 bT lN gN;refine hK _ _ ?_;clear hK K;obtain⟨b4,c4,wz⟩:=gK bT;subst wz;obtain⟨g0,g1,kZ⟩:=hA.push bW eZ (bB _ _ u) bT lN gN;have j5:=(lN.block wr.heap.size (by simp;omega) fun e=>HVE.out e.symm).trans mf;have K3:aj (One (w.heap.size+1)) W4 (W4.setCell ⟨w.heap.size+1,4,none⟩ (.slice (some ⟨b4,0,none⟩) (js.length+1) c4)):=aj.setCell (aj.refl _ _) (fun _=>(rfl:w.heap.size+1=w.heap.size+1)) _;have iE:=(K3.block wr.heap.size (Array.getElem?_eq_some_iff.1 j5).1 (by unfold One;omega)).trans j5;clear bT lN gN;refine aa (i:=7) (d:=some 27) rfl ?_;refine ak (i:=8) j5 rfl ?_;intro K hK;go_simp;refine hK _ _ ?_;clear hK K;refine aA iE (by kernel_rfl) ?_ _;clear g0 g1 c0 c1 jU fE h_ mf j5 iE;go_wp2;go_roundw
     case rel=>exact⟨k+1,_,_,by go_num,bJ,by rw[HK1.out,HJ1.out];exact kZ⟩
     case measure=>simp[intOf];omega
    ·intro K hK;go_simp;refine hK _ _ ?_;clear hK K;refine ak (i:=1) mf rfl ?_;intro K hK;go_simp;refine hK _ _ ?_;clear hK K;refine ak (i:=6) mf rfl ?_;intro K hK;refine aP (.tmp 21) (.tmp 25) 23 rfl (w.heap.size+2) 25 (.agg #[.int .i64 0,.int .i64 0,.string ⟨#[]⟩,.slice none 0 0,.slice none 0 0]) 5 80 Tryz.underlying23 Tryz.dR rfl (by decide) (by decide) _ js.length xs rfl bW _ [.int .i64 3,.int .i64 0,.string u,.slice none 0 0,.slice none 0 0] rfl rfl (jK rfl) (lH u) (by omega) hA.size ?_;intro nP W4 bT lN gN;refine hK _ _ ?_;clear hK K;obtain⟨b4,c4,wz⟩:=gK bT;subst wz;obtain⟨g0,g1,kZ⟩:=hA.push bW eZ (bB _ _ u) bT lN gN;have j5:=(lN.block wr.heap.size (by simp;omega) fun e=>HVE.out e.symm).trans mf;have K3:aj (One (w.heap.size+1)) W4 (W4.setCell ⟨w.heap.size+1,4,none⟩ (.slice (some ⟨b4,0,none⟩) (js.length+1) c4)):=aj.setCell (aj.refl _ _) (fun _=>(rfl:w.heap.size+1=w.heap.size+1)) _;have iE:=(K3.block wr.heap.size (Array.getElem?_eq_some_iff.1 j5).1 (by unfold One;omega)).trans j5;clear bT lN gN;refine aa (i:=7) (d:=some 27) rfl ?_;refine ak (i:=8) j5 rfl ?_;intro K hK;go_simp;refine hK _ _ ?_;clear hK K;refine aA iE (by kernel_rfl) ?_ _;clear g0 g1 c0 c1 jU fE h_ mf j5 iE;go_wp2;go_roundw
     case rel=>exact⟨k+1,_,_,by go_num,bJ,by rw[HK1.out,HJ1.out];exact kZ⟩
     case measure=>simp[intOf];omega
  ·obtain rfl:k=n:=by omega
   rw[List.take_of_length_le (by rw[HN.out];omega)]at mH;obtain⟨q2,c2,vP⟩:∃q c,vl=.slice q (l.map fun s=>aL s.2).length c:=by
    obtain⟨xs,bW,_⟩:=mH.dS;exact eT bW
   obtain⟨q1,c1,ET⟩:=eT mH.keys;subst vP ET;have xA:=mH.obj;have mo:wr.heap[w.heap.size]?=some (.cells #[.int .i64 0,.int .i64 0,.string ⟨#[]⟩,.slice none 0 0,.slice none 0 0] 25 (0,0)):=(mH.bf.block _ (by have:=mH.F9;omega) (by unfold One;omega)).trans bn;obtain⟨j0,j1,j2,j3,j4⟩:=ai xA;obtain⟨i0,i1,i2,i3,i4⟩:=ai mo;obtain⟨z0,z1,z2,z3,z4⟩:=aF mo;obtain⟨m,hm⟩:∃m,(l.map fun s=>aL s.2).length=m:=⟨_,rfl⟩;obtain⟨m1,EG⟩:∃m,(l.map (·.1)).length=m:=⟨_,rfl⟩;have HTI:Hid (TI (fun _=>False) (w.heap.size+2) (w.heap.size+1) 5 WB (l.map (·.1)) (l.map fun s=>aL s.2) (.slice q1 m1 c1) (.slice q2 m c2) wr):=by rw[<-hm,<-EG];exact mH
   rw[hm]at j4;rw[EG]at j3;have h5:=aK mo (.int .i64 5) (.int .i64 0) (.string ⟨#[]⟩) (.slice q1 m1 c1) (.slice q2 m c2);have aX:aj (One w.heap.size) wr _:=aJ wr w.heap.size (.int .i64 5) (.int .i64 0) (.string ⟨#[]⟩) (.slice q1 m1 c1) (.slice q2 m c2);unfold bF at h5 aX;obtain⟨k0,k1,k2,k3,k4⟩:=ai h5;clear mH xA mo hm EG;go_wp2;refine bodyPost_ret (v:=.agg #[.int .i64 5,.int .i64 0,.string ⟨#[]⟩,.slice q1 m1 c1,.slice q2 m c2]) (by simp[results,Tryz.results70,go_sem,k0,k1,k2,k3,k4]) rfl ?_;obtain⟨r1,r2⟩:=HTI.out.done cK aX;exact⟨⟨_,_,_,_,_,_,rfl,r1⟩,r2⟩
end Go.Proofs.YtegcgbjjpgjnmaaGreatDoor

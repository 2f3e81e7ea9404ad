/- A part. -/
import Derived.Test.YtldegjjaknelgaaGreatDoorAR08
import Derived.Lib.AppendZeros
import Derived.RangeFuncBound
import Derived.RangeFuncCalls
import Derived.RangeFuncLeaves
import Derived.Shelf.Abstract
import Derived.Shelf.RegionOpen
import Derived.OwnWalkIn
import Derived.TacticsInMore
import Derived.LoopNIn
import Derived.LoopIn
import Derived.Laws.StructEq
import Derived.Deep.CutRange
import Derived.Deep.CutBlock
set_option maxRecDepth 100000
set_option maxHeartbeats 64000000
namespace Go.Proofs.YtldegjjaknelgaaGreatDoor
open Go.RowKit Go.Maps
theorem Tryz.Po:(Tryz.prog.info? 109).map (fun i=>(i.zero,i.size,i.bytes))=some (some (.agg #[.string ⟨#[]⟩,.int .i64 0]),2,24):=by kernel_rfl
theorem AB:∀(l:jY) (u:Value),u∈flatN l->u.oneCell'=true
 | [],_,h=>by simp[flatN]at h
 | x::r,u,h=>by
  simp only[flatN,List.mem_cons]at h
  rcases h with rfl| rfl| h
  ·rfl
  ·rfl
  ·exact AB r u h
theorem je.cells{O:Nat->Prop}{w:World}{a:Addr}{c:Nat}{l:jY}(h:je O w (some a) c l):∀j u,(flatN l)[j]?=some u->w.cell? (a.add j)=some u:=by
 intro j u hu
 by_cases hl:l= []
 ·subst hl;simp[flatN]at hu
 obtain⟨b,o,hp,_,hc⟩:=h.2 hl
 cases hp
 have hj:j<l.length*2:=by rw[<-mO];exact(List.getElem?_eq_some_iff.1 hu).1
 have hq:j / 2<l.length:=by omega
 have hx:=List.getElem?_eq_getElem hq;have hf:=x8 l (j / 2) _ hx;have Mt:=hc (j / 2) _ hx;rw[Mm]
 rcases Nat.mod_two_eq_zero_or_one j with e| e
 ·rw[show j=j / 2*2 by omega]at hu;rw[hf.1]at hu
  cases hu
  rw[show o+j=o+j / 2*2 by omega];exact Mt.1
 ·rw[show j=j / 2*2+1 by omega]at hu;rw[hf.2]at hu
  cases hu
  rw[show o+j=o+j / 2*2+1 by omega];exact Mt.2
theorem dW{w:World}{bT:Array Oper}{rest:List Oper}{o:Oper}{a:Act}{Q:Exit->Act->World->Prop}(rU:o.guard=none)(s x:Operand)
    (ho:o.op=.call {callee:=.builtin .append,args:=#[s,x],argTypes:=#[45,45]})
    (dM:Nat) (v:Value) (L:jY) (hs:a.eval s=v) (aL:w.ownsRow dM 109 2 v L.length (flatN L)) {O:Nat->Prop} {p:Option Addr} {c:Nat} {l:jY} (gW:je O w p c l) (hx:a.eval x=.slice p l.length c)
    (dP:L.length<=100000000) (ziD:l.length<=100000000) (jW:dM<=w.heap.size)
    (h:∀v' w',w'.ownsRow dM 109 2 v' (L++l).length (flatN (L++l))->w.grownBy w' v.ownBlock->wpList Tryz.prog bT Q rest (a.put o.dst v') w'):wpList Tryz.prog bT Q (o::rest) a w:=by
 obtain⟨i0,hi,oN,oI,rV⟩:=info_parts Tryz.Po
 cases p with
 | none=>
  obtain rfl:c=0:=gW.1.2 rfl;have hl0:l= []:=List.eq_nil_of_length_eq_zero (by have:=gW.1.1;omega);subst hl0;refine wpList_append_own_none rU s x 45 ho dM 109 i0 2 Tryz.underlying45 hi v L.length (flatN L) hs aL hx (h v w ?_ ⟨rfl,rfl,rfl,Nat.le_refl _,fun _ _ _=>rfl⟩);rw[List.append_nil];exact aL
 | some ad=>
  refine wpList_append_own w rU s x 45 ho dM 109 i0 _ 2 24 Tryz.underlying45 hi oN oI rV rfl (by decide) v L.length (flatN L) hs aL ad l.length c (flatN l) hx (mO l) gW.cells (AB l) (by unfold maxLen;omega) (by omega) jW ?_;intro v' w' sF lu _;exact h v' w' (by rw[List.length_append,sU];exact sF) lu
theorem wpList_append_run{w w':World}{bT:Array Oper}{rest:List Oper}{o:Oper}{a:Act}{Q:Exit->Act->World->Prop}(rU:o.guard=none)(s x:Operand)(t u:TypeId)
    (ho:o.op=.call {callee:=.builtin .append,args:=#[s,x],argTypes:=#[t,u]}) {vs vx v':Value} (hs:a.eval s=vs) (hx:a.eval x=vx) (Bt:(Builtin.append_ #[t,u] o.type #[vs,vx]).run Tryz.prog w=.ok v' w')
    (h:wpList Tryz.prog bT Q rest (a.put o.dst v') w'):wpList Tryz.prog bT Q (o::rest) a w:=by
 refine wpList_plain rU fun K hK=> ?_;unfold Oper.wp;simp[execOp,ho,resolve,invoke,builtin,hs,hx,Bt,Result.andThen];exact hK _ _ h
theorem Pp{w:World}(n:Nat)(hn:n<=1000000):
    Calls Tryz.prog 170 #[.slice none 0 0,.int .i64 n] w fun e w'=>(∃v,e=.returned v/\w'.ownsRow w.heap.size 109 2 v 0 [])/\Below w.heap.size w w':=by
 obtain⟨i0,hi,oN,oI,rV⟩:=info_parts Tryz.Po
 by_cases h0:n=0
 ·subst h0;go_enter Tryz.func170,Tryz.ntmps170;go_wp2;go_ret;exact⟨⟨_,rfl,World.ownsRow_nil _ _ _ _⟩,Below.refl _ _⟩
 ·have hr:=fun ty=>Lib.run_append_nil_zeros (P:=Tryz.prog) w 45 3 ty 109 i0 _ .i64 .i64 Tryz.underlying45 Tryz.underlying3 hi oN n (by omega) (by rw[oI];decide) (by omega) (by rw[rV];omega);have hge:=grownCap_ge w n 0 109;have KV:=grownCap_le_maxLen w n 0 109 (by unfold maxLen;omega);have Dz:(Builtin.zeroCells (Value.agg #[Value.string ⟨#[]⟩,Value.int .i64 0]).cells n++Builtin.zeroCells (Value.agg #[Value.string ⟨#[]⟩,Value.int .i64 0]).cells (grownCap w n 0 109 - n)).size=grownCap w n 0 109*2:=by
   rw[Array.size_append,size_zeroCells,size_zeroCells]
   show n*2+(grownCap w n 0 109 - n)*2=_
   omega
  have AJ:=(show Hid _ from Dz);clear Dz;generalize (Builtin.zeroCells (Value.agg #[Value.string ⟨#[]⟩,Value.int .i64 0]).cells n++Builtin.zeroCells (Value.agg #[Value.string ⟨#[]⟩,Value.int .i64 0]).cells (grownCap w n 0 109 - n))=Z at hr AJ;generalize grownCap w n 0 109=cap at hr hge KV AJ;go_enter Tryz.func170,Tryz.ntmps170;go_wp2_with(refine wpList_append_run rfl _ _ 45 3 rfl rfl rfl (hr _) ?_);go_ret;refine⟨⟨_,rfl,rfl,.inr ⟨w.heap.size,cap,Z,rfl,Nat.le_refl _,heap_alloc_new w.drew _,Nat.zero_le _,KV,AJ.out,by simp⟩⟩,⟨rfl,rfl,rfl,by simp,fun k hk=>Below.heap_alloc w.drew _ k hk⟩⟩
theorem Ip{O:Nat->Prop}{w:World}{p q:Option Addr}{c d g:Nat}{a b:jY}(ha:je O w p c a)(hb:je O w q d b)(hO:∀k,O k->k<w.heap.size)(DV:zk a)(Iq:zk b)
    (h0:w.cell? ⟨g,0,none⟩=some (.slice p a.length c)) (h1:w.cell? ⟨g,1,none⟩=some (.slice q b.length d)) (hg:g<w.heap.size):
    Calls Tryz.prog 152 #[.slice (some ⟨g,0,none⟩) 2 2] w fun e w'=>(∃v,e=.returned v/\w'.ownsRow w.heap.size 109 2 v (a++b).length (flatN (a++b)))/\Below w.heap.size w w':=by
 obtain⟨na,Mr⟩:∃n,a.length=n:=⟨_,rfl⟩;obtain⟨nb,Kb⟩:∃n,b.length=n:=⟨_,rfl⟩;have Pq:Hid (a.length=na):=Mr;have HNB:Hid (b.length=nb):=Kb;have zd6:=DV.1;have zd7:=Iq.1;rw[Mr]at h0 zd6;rw[Kb]at h1 zd7;clear Mr Kb;go_enter Tryz.func152,Tryz.ntmps152;go_wp2
 go_loopw [3,11] (fun s i wr=>wr=w/\((s=.int .i64 0/\i=.int .i64 0)\/ (s=.int .i64 na/\i=.int .i64 1)\/ (s=.int .i64 ((na+nb:Nat):Int)/\i=.int .i64 2))) (fun _ i _=>2 - (intOf i).toNat)
 case atStart=>exact⟨rfl,.inl ⟨rfl,rfl⟩⟩
 case round=>
  obtain⟨Sm,⟨rfl,rfl⟩| ⟨rfl,rfl⟩| ⟨rfl,rfl⟩⟩:=hrel
  all_goals (rw[Sm];clear Sm wr)
  ·go_wp2;go_roundw
   case rel=>exact⟨trivial,.inr (.inl ⟨by simp,rfl⟩)⟩
   case measure=>simp[intOf]
  ·go_wp2;go_roundw
   case rel=>exact⟨trivial,.inr (.inr ⟨by simp,rfl⟩)⟩
   case measure=>simp[intOf]
  ·have hG:=Pp (w:=w) (na+nb) (by omega);go_wp2_with(go_at_call 170;refine hG.mono ?_;rintro e w1 ⟨⟨v0,rfl,zbP⟩,aP⟩);have Wl:Hid (w.cell? ⟨g,0,none⟩=some (.slice p na c)):=h0;have oV:Hid (w.cell? ⟨g,1,none⟩=some (.slice q nb d)):=h1;have HA:Hid (je O w p c a):=ha;have HB:Hid (je O w q d b):=hb;clear hG h0 h1 ha hb
   go_loopw [6,27] (fun v i wx=>(∃k:Nat,i=.int .i64 k/\((k=0/\wx.ownsRow w.heap.size 109 2 v ([]:jY).length (flatN []))\/ (k=1/\wx.ownsRow w.heap.size 109 2 v a.length (flatN a))\/ (k=2/\wx.ownsRow w.heap.size 109 2 v (a++b).length (flatN (a++b)))))/\Below w.heap.size w wx) (fun _ i _=>2 - (intOf i).toNat)
   case atStart=>exact⟨⟨0,rfl,.inl ⟨rfl,zbP⟩⟩,aP⟩
   case round=>
    obtain⟨⟨k,rfl,hk⟩,gX⟩:=hrel;have h0r:=(gX.cell (p:=⟨g,0,none⟩) hg).trans Wl.out;have h1r:=(gX.cell (p:=⟨g,1,none⟩) hg).trans oV.out;have hsr:=gX.size
    rcases hk with⟨rfl,aL⟩| ⟨rfl,aL⟩| ⟨rfl,aL⟩
    ·have gW:=HA.out.below hO gX;have hx:=Pq.out;go_wp2_with(refine dW rfl _ _ rfl w.heap.size _ [] rfl aL gW (by rw[Pq.out];rfl) (by simp) (by rw[Pq.out];omega) hsr ?_;intro v2 w2 eZ qg);go_roundw
     case rel=>exact⟨⟨1,rfl,.inr (.inl ⟨rfl,eZ⟩)⟩,gX.grown qg hsr (fun k e=>(aL.lt k e).1)⟩
     case measure=>simp[intOf]
    ·have gW:=HB.out.below hO gX;go_wp2_with(refine dW rfl _ _ rfl w.heap.size _ a rfl aL gW (by rw[HNB.out];rfl) (by rw[Pq.out];omega) (by rw[HNB.out];omega) hsr ?_;intro v2 w2 eZ qg);go_roundw
     case rel=>exact⟨⟨2,rfl,.inr (.inr ⟨rfl,eZ⟩)⟩,gX.grown qg hsr (fun k e=>(aL.lt k e).1)⟩
     case measure=>simp[intOf]
    ·go_wp2;go_ret;exact⟨⟨_,rfl,aL⟩,gX⟩
open Go.RowKit Go.Maps Go.Shelf
section
attribute [local go_sem] Oper.semAt_some
structure Lay(W W':World):Prop where
 size:W.heap.size<=W'.heap.size
 same:∀(k:Nat) (o:Obj),W.heap[k]?=some o->(o.isCells=true\/ o.isWalk=true)->W'.heap[k]?=some o
theorem Lay.refl(W:World):Lay W W:=⟨Nat.le_refl _,fun _ _ h _=>h⟩
theorem Lay.trans{A B C:World}(h:Lay A B)(k:Lay B C):Lay A C:=⟨Nat.le_trans h.size k.size,fun i o hi ho=>k.same i o (h.same i o hi ho) ho⟩
theorem Lay.putObj(W:World)(l:Nat)(o o':Obj)(h:W.heap[l]?=some o)(hc:o.isCells=false)(hw:o.isWalk=false):Lay W (W.putObj l o'):=by
 have hg:=grownBy_putObj' W l o';refine⟨hg.size,fun k x hk hx=> ?_⟩
 by_cases e:k=l
 ·subst e;rw[hk]at h
  cases h
  rcases hx with hx| hx
  ·rw[hc]at hx;cases hx
  ·rw[hw]at hx;cases hx
 ·exact(hg.block k (Array.getElem?_eq_some_iff.1 hk).1 (fun h=>e (Option.some.inj h))).trans hk
theorem Lay.aW{W W':World}(h:Below W.heap.size W W'):Lay W W':=⟨h.size,fun k _ hk _=>(h.block k (Array.getElem?_eq_some_iff.1 hk).1).trans hk⟩
theorem Lay.map{W W':World}{M:Nat}{l:jY}(h:gP W M l)(k:Lay W W'):gP W' M l:=by
 obtain⟨o,ho,hw,_⟩:=h.walk;exact h.same ((k.same M o ho (.inr hw)).trans ho.symm)
theorem Lay.rdN{W W':World}{O:Nat->Prop}{p:Option Addr}{c:Nat}{l:jY}(h:je O W p c l)(k:Lay W W'):je O W' p c l:=by
 refine⟨h.1,fun hn=> ?_⟩;obtain⟨b,o,hp,hb,hc⟩:=h.2 hn;have key:∀j v,W.cell? ⟨b,j,none⟩=some v->W'.cell? ⟨b,j,none⟩=some v:=fun j v hv=>by
  cases e:W.heap[b]? with
  | none=>simp[World.cell?,e]at hv
  | some ob=>
   cases ob with
   | cells cs t fr=>rw[<-hv];exact World.cell?_of_block ((k.same b _ e (.inl rfl)).trans e.symm)
   | _=>simp[World.cell?,e]at hv
 exact⟨b,o,hp,hb,fun j x hj=>⟨key _ _ (hc j x hj).1,key _ _ (hc j x hj).2⟩⟩
theorem BO{w:World}{B:Nat}{v:Value}{l:jY}(h:w.ownsRow B 109 2 v l.length (flatN l)):∃p c,v=.slice p l.length c/\je (fun k=>B<=k/\k<w.heap.size) w p c l:=by
 rcases h.2 with⟨rfl,hn⟩| ⟨g,cap,cur,rfl,hb,hg,hnc,_,F4,ht⟩
 ·obtain rfl:l= []:=List.eq_nil_of_length_eq_zero hn;exact⟨none,0,rfl,je.nil _ _ _ _ fun _=>rfl⟩
 ·refine⟨some ⟨g,0,none⟩,cap,rfl,Pb (cur:=cur.toList) ⟨hb,aO hg⟩ (by simpa using hg) hnc fun j hj=> ?_⟩;rw[<-ht,List.getElem?_take,Nat.zero_add];rw[if_pos (by rw[mO]at hj;exact hj)]
theorem Ir:Tryz.prog.underlying 141=some (.struct (Tryz.prog.fieldsOf 141)):=by kernel_rfl
theorem Mv:Tryz.prog.stoodInHeld 141=false:=by kernel_rfl
theorem Su:(Tryz.prog.fieldsOf 141).toList= [{name:= "has",type:=4,offset:=0,embedded:=false,tag:= "",pkgPath:= "agora/power",byteOffset:=0},{name:= "level",type:=2,offset:=1,embedded:=false,tag:= "",pkgPath:= "agora/power",byteOffset:=8}]:=by kernel_rfl
theorem Ps(w:World)(x y:Option Int):(binOp .neq 141 (.agg #[.bool x.isSome,.int .i64 (x.getD 0)]) (.agg #[.bool y.isSome,.int .i64 (y.getD 0)])).run Tryz.prog w=.ok (.bool (!(x==y))) w:=by
 have h4:Tryz.prog.underlying 4=some .bool:=by kernel_rfl
 have h2:Tryz.prog.underlying 2=some (.int .i64):=by kernel_rfl
 rw[run_neq_struct,run_equalIn_agg w 9999 141 _ _ Ir Mv,Su];have p0:∀W (b:Bool) (m:Int),(part 4 #[.bool b,.int .i64 m] 0).run Tryz.prog W=.ok (.bool b) W:=fun W b m=>by simp[go_sem,part]
 have p1:∀W (b:Bool) (m:Int),(part 2 #[.bool b,.int .i64 m] 1).run Tryz.prog W=.ok (.int .i64 m) W:=fun W b m=>by simp[go_sem,part]
 have e0:∀(W:World) (a b:Bool),(Op.equalIn 9999 4 (.bool a) (.bool b)).run Tryz.prog W=.ok (a==b) W:=fun W a b=>run_equalIn_bool' W 9998 4 a b h4;have e1:∀(W:World) (a b:Int),(Op.equalIn 9999 2 (.int .i64 a) (.int .i64 b)).run Tryz.prog W=.ok (a==b) W:=fun W a b=>run_equalIn_int W 9998 2 .i64 .i64 a b h2
 cases x with
 | none=>
  cases y with
  | none=>simp[Op.eqFields,p0,p1,e0,e1,Result.andThen]
  | some y=>simp[Op.eqFields,p0,e0,Result.andThen]
 | some x=>
  cases y with
  | none=>simp[Op.eqFields,p0,e0,Result.andThen]
  | some y=>by_cases h:x=y<;>simp[Op.eqFields,p0,p1,e0,e1,Result.andThen,h]
theorem Pv(x:Option Int):heldV x=.agg #[.bool x.isSome,.int .i64 (x.getD 0)]:=by cases x<;>rfl
theorem sZ{w w':World}(h:Below w.heap.size w w'):w.grownBy w' none:=⟨h.os,h.tape,h.output,h.size,fun k hk _=>h.block k hk⟩
theorem Sw{α:Type}(f:α->iZ):∀(l:List α) (k:Nat),((l.take k).map f).filter iZ.turns<+:(l.map f).filter iZ.turns
 | l,k=>by
  conv=>rhs;rw[<-List.take_append_drop k l,List.map_append,List.filter_append]
  exact List.prefix_append _ _
theorem qY{w:World}(p q:Option Addr)(n c m d:Nat):
    Calls Tryz.prog 124 #[.slice p n c,.slice q m d] w fun e w'=>e=.returned (.func (.func 150) #[] #[.pointer (some ⟨w.heap.size,0,none⟩),.pointer (some ⟨w.heap.size+1,0,none⟩)])/\w'=(w.alloc (.cells #[.slice p n c] 45)).alloc (.cells #[.slice q m d] 45):=by
 go_enter Tryz.func124,Tryz.ntmps124;go_wp2;go_ret;exact⟨rfl,rfl⟩
theorem Iu(n l B1 B2:Nat)(hn:1<=n){O:Nat->Prop}{a b:jY}{p q:Option Addr}{c d:Nat}(J Jx:List iZ->World->Prop)(W:World)(hJ:AbidesFrom W.heap.size J)
    (ha:je O W p c a) (hb:je O W q d b) (hO:∀k,O k->k<W.heap.size) (DV:zk a) (Iq:zk b)
    (h1:W.cell? ⟨B1,0,none⟩=some (.slice p a.length c)) (h2:W.cell? ⟨B2,0,none⟩=some (.slice q b.length d)) (AL:B1<W.heap.size) (jm:B2<W.heap.size)
    (hY:∀pre x W1,J pre W1->pre.length<(a++b).length->YieldAt Fence.wide (n - 1) Tryz.prog l #[ky x] W1 fun e W'=>(e=.returned (.bool true)/\J (pre++ [x]) W'/\Lay W1 W')\/ (e=.returned (.bool false)/\Jx (pre++ [x]) W'))
    (h0:J [] W):
    CallsIn Fence.wide n Tryz.prog 150 #[.func (.yield l) #[] #[],.pointer (some ⟨B1,0,none⟩),.pointer (some ⟨B2,0,none⟩)] W fun e W'=>(∃v,e=.returned v)/\((∃xs,xs=xZ a b (a++b)/\J xs W')\/ (∃pre,pre<+:xZ a b (a++b)/\Jx pre W')):=by
 refine callsIn_wide.2 ?_;have UL:Hid (∀X,Below W.heap.size W X->Calls Tryz.prog 151 #[.slice p a.length c] X fun e w'=>(∃M,e=.returned (.map (some M))/\X.heap.size<=M/\gP w' M a)/\Below X.heap.size X w'):=fun X hX=>yg (ha.below hO hX) (fun k hk=>Nat.lt_of_lt_of_le (hO k hk) hX.size) DV;have yh:Hid (∀X,Below W.heap.size W X->Calls Tryz.prog 151 #[.slice q b.length d] X fun e w'=>(∃M,e=.returned (.map (some M))/\X.heap.size<=M/\gP w' M b)/\Below X.heap.size X w'):=fun X hX=>yg (hb.below hO hX) (fun k hk=>Nat.lt_of_lt_of_le (hO k hk) hX.size) Iq;have Mw:Hid (∀X,Below W.heap.size W X->X.cell? ⟨B1,0,none⟩=some (.slice p a.length c)/\X.cell? ⟨B2,0,none⟩=some (.slice q b.length d)):=fun X hX=>⟨(hX.cell (p:=⟨B1,0,none⟩) AL).trans h1,(hX.cell (p:=⟨B2,0,none⟩) jm).trans h2⟩;have HCo:Hid (∀X g,Below W.heap.size W X->X.heap[g]?=some (.cells #[.slice p a.length c,.slice q b.length d] 45 (0,0))->Calls Tryz.prog 152 #[.slice (some ⟨g,0,none⟩) 2 2] X fun e w'=>(∃v,e=.returned v/\w'.ownsRow X.heap.size 109 2 v (a++b).length (flatN (a++b)))/\Below X.heap.size X w'):=fun X g hX hg=>
  Ip (ha.below hO hX) (hb.below hO hX) (fun k hk=>Nat.lt_of_lt_of_le (hO k hk) hX.size) DV Iq (ay hg 0 _ rfl) (ay hg 1 _ rfl) (aO hg)
 obtain⟨na,Mr⟩:∃n,a.length=n:=⟨_,rfl⟩;obtain⟨nb,Kb⟩:∃n,b.length=n:=⟨_,rfl⟩;rw[Mr]at UL Mw HCo;rw[Kb]at yh Mw HCo;have Pq:Hid (a.length=na):=Mr;have HNB:Hid (b.length=nb):=Kb;have HAB:Hid (zk a/\zk b):=⟨DV,Iq⟩;have HJ0:Hid (J [] W):=h0;have HJ:Hid (AbidesFrom W.heap.size J):=hJ;have HY:Hid (∀pre x W1,J pre W1->pre.length<(a++b).length->YieldAt Fence.wide (n - 1) Tryz.prog l #[ky x] W1 fun e W'=>(e=.returned (.bool true)/\J (pre++ [x]) W'/\Lay W1 W')\/ (e=.returned (.bool false)/\Jx (pre++ [x]) W')):=hY;clear Mr Kb ha hb DV Iq h1 h2 h0 hJ hY;obtain⟨ab,jH⟩:∃ab,a++b=ab:=⟨_,rfl⟩;have HZ:Hid (zk a/\zk b):=HAB;have HL:Hid (ab.length=na+nb/\na<=100000/\nb<=100000):=⟨by rw[<-jH,List.length_append,Pq.out,HNB.out],by have:=HZ.out.1.1;have:=Pq.out;omega,by have:=HZ.out.2.1;have:=HNB.out;omega⟩;have uI:Hid (∀k,k<ab.length->Rf (ab.getD k zN).1):=fun k hk=>by
  apply Pn
  rw[List.getD_eq_getElem?_getD,List.getElem?_eq_getElem hk];have:ab[k]∈a++b:=by rw[jH];exact List.getElem_mem hk
  rcases List.mem_append.1 this with h| h
  ·exact HZ.out.1.2 _ h
  ·exact HZ.out.2.2 _ h
 rw[jH]at HCo HY ⊢;clear jH;go_enter Tryz.func150,Tryz.ntmps150
 go_upto_region 0 with fail
 refine aF (by kernel_rfl) (fun w'=>Below W.heap.size W w') ?_;change wpIn _ _ _ _ _ _ _ _ (World.drew _);have hD:Below W.heap.size W W.drew:=(Below.refl _ _).drew;refine az (i:=0) (d:=some 9) rfl (by(intro wq hq;obtain⟨z1,z2⟩:=Mw.out wq hq;go_simp;first| done| with_reducible rfl)) ?_;refine az (i:=2) (d:=some 11) rfl (by(intro wq hq;obtain⟨z1,z2⟩:=Mw.out wq hq;go_simp;first| done| with_reducible rfl)) ?_;refine ak (i:=1) hD rfl ?_;intro K hK;go_simp;go_wp2_with(go_at_call 151;refine(UL.out _ hD).mono ?_;rintro e w1 ⟨⟨M,rfl,hM0,hM⟩,aP⟩);have gJ:Below W.heap.size W w1:=ah hD aP;refine ak (i:=3) gJ rfl ?_;intro K hK;go_simp;go_wp2_with(go_at_call 151;refine(yh.out _ gJ).mono ?_;rintro e w2 ⟨⟨N,rfl,hN0,hN⟩,aT⟩);have hD2:Below W.heap.size W w2:=ah gJ aT;refine aa (i:=4) (d:=some 4) rfl ?_;refine aa (i:=5) (d:=some 5) rfl ?_;refine aD hD2 (by kernel_rfl) ?_ _;obtain⟨z1,z2⟩:=Mw.out w2 hD2;have bS:Below W.heap.size W (w2.alloc (.cells #[.slice p na c,.slice q nb d] 45)):=ah hD2 ((Below.refl _ _).alloc (Nat.le_refl _) _);have hCo:=HCo.out _ w2.heap.size bS (bR _);have HM:Hid (gP w2 M a):=hM.same (aT.block M hM.lt);have HN:Hid (gP w2 N b):=hN;clear aP aT hM hN UL yh Mw HCo;obtain⟨n',Sl⟩:∃m,ab.length=m:=⟨_,rfl⟩;have HN':Hid (ab.length=n'):=Sl;have Kb:n'<=200000:=by have:=HL.out;omega
 rw[Sl]at hCo;clear Sl;go_wp2_with(go_at_call 152;refine hCo.mono ?_;rintro e w3 ⟨⟨v,rfl,aL⟩,dA⟩;rw[<-HN'.out]at aL;obtain⟨pr,cr,rfl,gW⟩:=BO aL;rw[HN'.out]);have Wm:Below W.heap.size W w3:=ah bS dA;have Sy:Hid (gP w3 M a):=(HM.out.same (Below.heap_alloc _ _ _ HM.out.lt)).same (dA.block M (by have:=HM.out.lt;simp;omega));have HN3:Hid (gP w3 N b):=(HN.out.same (Below.heap_alloc _ _ _ HN.out.lt)).same (dA.block N (by have:=HN.out.lt;simp;omega));have HR3:Hid (je (fun k=>(w2.alloc (.cells #[.slice p na c,.slice q nb d] 45)).heap.size<=k/\k<w3.heap.size) w3 pr cr ab):=gW;have hc3:=gW.1.1;rw[HN'.out]at hc3;clear gW aL z1 z2 hCo hD gJ hD2 HM HN
 go_loopw [18] (fun i wr=>∃k:Nat,i=.int .i64 k/\k<=n'/\J (xZ a b (ab.take k)) wr/\Lay w3 wr) (fun i _=>n' - (intOf i).toNat)
 case atStart=>exact⟨0,rfl,Nat.zero_le _,HJ.out [] W w3 none HJ0.out (sZ Wm) (fun r e=>by cases e),Lay.refl _⟩
 case round=>
  obtain⟨k,rfl,hk,hj,Wn⟩:=hrel
  by_cases sO:k<n'
  ·have fG:k<ab.length:=by rw[HN'.out];exact sO
   obtain⟨rb,ro,rfl,_,g1,g2⟩:=(Lay.rdN HR3.out Wn).at fG;have lU:=uI.out k fG;have HT:Hid (ab.take (k+1)=ab.take k++ [ab.getD k zN]):=mK fG;generalize ab.getD k zN=x at g1 g2 HT lU;obtain⟨xn,xl⟩:=x;simp only at g1 g2 lU;have zbQ:=((Lay.map Sy.out Wn).same (w':=wr.alloc (.cells #[.string xn,.int .i64 xl] 109)) (Below.heap_alloc _ _ _ (Lay.map Sy.out Wn).lt)).look lU;have zbR:=((Lay.map HN3.out Wn).same (w':=wr.alloc (.cells #[.string xn,.int .i64 xl] 109)) (Below.heap_alloc _ _ _ (Lay.map HN3.out Wn).lt)).look lU;rw[Pv]at zbQ zbR;have HCH:Hid (xZ a b (ab.take (k+1))=if(iZ.turns ⟨xn,fnd a xn,fnd b xn⟩)=true then xZ a b (ab.take k)++ [⟨xn,fnd a xn,fnd b xn⟩]else xZ a b (ab.take k)):=by show _=_;rw[HT.out,O9];rfl
   have HPR:Hid (xZ a b (ab.take (k+1))<+:xZ a b ab):=Sw _ _ _;have zg:Hid ((xZ a b (ab.take k)).length<ab.length):=by
    show _<_
    have:=Sj a b (ab.take k);rw[List.length_take]at this;omega
   generalize fnd a xn=oa at zbQ HCH;generalize fnd b xn=ob at zbR HCH;have zjK:=Ps;have vV:Below wr.heap.size wr ((wr.alloc (.cells #[.string xn,.int .i64 xl] 109)).alloc (.cells #[.string xn,.bool oa.isSome,.int .i64 (oa.getD 0),.bool ob.isSome,.int .i64 (ob.getD 0)] 143)):=((Below.refl _ _).alloc (Nat.le_refl _) _).alloc (by simp) _;have hj5:=HJ.out _ _ _ none hj (sZ vV) (fun r e=>by cases e)
   cases ht:(!(oa==ob))with
   | true=>
    have oV:Hid (xZ a b (ab.take (k+1))=xZ a b (ab.take k)++ [⟨xn,oa,ob⟩]):=by show _=_;rw[HCH.out,if_pos (show iZ.turns ⟨xn,oa,ob⟩=true from ht)]
    obtain⟨fn,tm,asg,bod,hy,hR⟩:=HY.out _ ⟨xn,oa,ob⟩ _ hj5 zg.out;simp only[ky,fJ]at hy;refine(wpIn_wide (n:=n)).1 ?_
    gi_wp2
    refine hR.mono ?_;rintro e W6 (⟨rfl,hJ6,Pw⟩| ⟨rfl,zd8⟩)
    ·gi_wp2
     go_roundw
     case rel=>exact⟨k+1,by simp,by omega,by rw[oV.out];exact hJ6,(Wn.trans (Lay.aW vV)).trans Pw⟩
     case measure=>simp[intOf];omega
    ·gi_wp2
     refine bodyPost_ret (results_none rfl _ _ _) rfl ?_;exact⟨⟨_,rfl⟩,.inr ⟨_,HPR.out,by rw[oV.out];exact zd8⟩⟩
   | false=>
    have oV:Hid (xZ a b (ab.take (k+1))=xZ a b (ab.take k)):=by show _=_;rw[HCH.out,if_neg (by unfold iZ.turns;rw[ht];decide)]
    go_wp2;go_roundw
    case rel=>exact⟨k+1,by simp,by omega,by rw[oV.out];exact hj5,Wn.trans (Lay.aW vV)⟩
    case measure=>simp[intOf];omega
  ·obtain rfl:k=n':=by omega
   have HJE:Hid (J (xZ a b ab) wr):=by show J _ _;rw[<-List.take_length (l:=ab),HN'.out];exact hj
   clear hj;go_wp2
   go_end0
   exact⟨⟨_,rfl⟩,.inl ⟨_,rfl,HJE.out⟩⟩
theorem Eh(n B1 B2:Nat)(hn:1<=n){O:Nat->Prop}{a b:jY}{p q:Option Addr}{c d:Nat}{w:World}
    (ha:je O w p c a) (hb:je O w q d b) (hO:∀k,O k->k<w.heap.size) (DV:zk a) (Iq:zk b)
    (h1:w.cell? ⟨B1,0,none⟩=some (.slice p a.length c)) (h2:w.cell? ⟨B2,0,none⟩=some (.slice q b.length d)) (AL:B1<w.heap.size) (jm:B2<w.heap.size):
    SeqStopsK Fence.wide n Tryz.prog 150 #[.pointer (some ⟨B1,0,none⟩),.pointer (some ⟨B2,0,none⟩)] (fun x:iZ=>#[ky x]) Lay (fun ys=>ys=xZ a b (a++b)) (fun pre=>pre<+:xZ a b (a++b)) (a++b).length w:=fun l J Jx W hW hJ _ hY h0=>
 Iu n l B1 B2 hn J Jx W hJ (ha.below hO hW) (hb.below hO hW) (fun k hk=>Nat.lt_of_lt_of_le (hO k hk) hW.size) DV Iq ((hW.cell (p:=⟨B1,0,none⟩) AL).trans h1) ((hW.cell (p:=⟨B2,0,none⟩) jm).trans h2) (Nat.lt_of_lt_of_le AL hW.size) (Nat.lt_of_lt_of_le jm hW.size) hY h0
end
open Go.RowKit
def wO(s:ByteArray):Bool:=(Id.parts 64 s).2.2
def zG(s:ByteArray):Bool:=Id.aK s
theorem Iw{w:World}(s:ByteArray)(hs:s.size<=1000000000):Calls Tryz.prog 146 #[.string s] w fun e w'=>e=.returned (.bool (wO s))/\Below w.heap.size w w':=by
 have hU:=Id.oM s w (by omega);unfold wO;generalize Id.parts 64 s=x at hU;obtain⟨x1,x2,x3⟩:=x;simp only[Id.told]at hU;go_enter Tryz.func146,Tryz.ntmps146;go_wp2_with(go_at_call 84;refine hU.mono ?_;rintro e w1 ⟨rfl,aP⟩);go_ret;exact⟨rfl,aP⟩
theorem Iy{w:World}(s:ByteArray)(hs:s.size<=1000000000):Calls Tryz.prog 130 #[.string s] w fun e w'=>e=.returned (.bool (zG s))/\Below w.heap.size w w':=Id.Dc s w (by omega)
def rowsOf(v:J):jY:=(v.ks.zip v.ls).map fun q=>(q.1,q.2.nm)
def mU(fit:ByteArray->Bool)(q:ByteArray×J):Bool:= !fit q.1 || !uH q.2.kd q.2.nm
def rowT(fit:ByteArray->Bool):Option J->jY×Bool
 | none=>([],false)
 | some v=>(rowsOf v, !decide (v.kd=5) || (v.ks.zip v.ls).any (mU fit))
theorem Px{ks:List ByteArray}{l:List J}{n:Nat}(h:n<ks.length)(hl:ks.length<=l.length):(ks.zip l).take (n+1)=(ks.zip l).take n++ [(ks.getD n aN,l.getD n J.zero)]:=by
 have hz:n<(ks.zip l).length:=by rw[List.length_zip];omega
 rw[mK (z:=(aN,J.zero)) hz]
 congr 2
 rw[List.getD_eq_getElem?_getD,List.getElem?_eq_getElem hz];simp only[List.getElem_zip,Option.getD_some];rw[List.getD_eq_getElem?_getD,List.getElem?_eq_getElem h,List.getD_eq_getElem?_getD,List.getElem?_eq_getElem (by omega:n<l.length)]
 rfl
theorem Mx{O:Nat->Prop}{w:World}{Rb d:Nat}{j:J}{k i:Int}{t:ByteArray}{pk pl:Option Addr}{nk ck nl cl:Nat}{bad:Bool}(hR:dV w Rb (.int .i64 k) (.int .i64 i) (.string t) (.slice pk nk ck) (.slice pl nl cl) bad)
    (hj:isJ O w j [.int .i64 k,.int .i64 i,.string t,.slice pk nk ck,.slice pl nl cl]) (hO:∀x,O x->x<w.heap.size/\x≠Rb) (lU:Il (d+2) j) (s:ByteArray):
    Calls Tryz.prog 145 #[.pointer (some ⟨Rb,0,none⟩),.string s,.func (.func 146) #[] #[]] w fun e w'=>(∃p c,e=.returned (.slice p (rowT wO (lookV j.ks j.ls s)).1.length c)/\je (fun b=>w.heap.size<=b/\b<w'.heap.size) w' p c (rowT wO (lookV j.ks j.ls s)).1)/\dV w' Rb (.int .i64 k) (.int .i64 i) (.string t) (.slice pk nk ck) (.slice pl nl cl) (bad || (rowT wO (lookV j.ks j.ls s)).2)/\av (aQ Rb) w w':=by
 have hU:=uG hR hj (fun x hx=>(hO x hx).1) lU s;have HR:Hid (∀X,Below w.heap.size w X->dV X Rb (.int .i64 k) (.int .i64 i) (.string t) (.slice pk nk ck) (.slice pl nl cl) bad):=fun X hX=>(hX.block Rb (aO hR)).trans hR;have bH:=aO hR;have uI:Hid (∀v,lookV j.ks j.ls s=some v->Il (d+1) v):=fun v hv=>by
  obtain⟨_,_,_,_,_⟩:=j;exact lU.parts.2.2.2.2.2 v (jv hv)
 clear hR hj lU;generalize lookV j.ks j.ls s=o at hU uI
 cases o with
 | none=>
  go_enter Tryz.func145,Tryz.ntmps145;go_wp2_with(go_at_call 166;refine hU.mono ?_;rintro e w1 ⟨he,aP⟩;replace he:e=_:=he;subst he);go_ret;have lD:=ah aP ((Below.refl _ _).alloc (Nat.le_refl _) (.cells #[.int .i64 0,.int .i64 0,.string ⟨#[]⟩,.slice none 0 0,.slice none 0 0] 25));refine⟨⟨none,0,rfl,je.nil _ _ _ _ fun _=>rfl⟩, ?_,av.aW lD⟩;simp only[rowT,Bool.or_false];exact HR.out _ lD
 | some v=>
  have yj:=uI.out v rfl;obtain⟨kv,iv,tv,ks,ls⟩:=v;have sO:=yj.parts.2.2.2.1;have Wo:Hid (∀x∈ks,x.size<=1000000000):=yj.parts.2.2.2.2.1;have UJ:Hid (ks.length<=ls.length):=yj.lens;have UM:Hid (kv≠5->ks= []):=yj.parts.2.2.1;clear yj uI;obtain⟨nv,Py⟩:∃n,ks.length=n:=⟨_,rfl⟩;obtain⟨mv,hmv⟩:∃n,ls.length=n:=⟨_,rfl⟩;have MB:Hid (ks.length=nv):=Py;have Sz:Hid (ls.length=mv):=hmv;rw[Py]at sO;clear Py hmv;go_enter Tryz.func145,Tryz.ntmps145
  go_upto_region 2 with(go_at_call 166;refine hU.mono ?_;rintro e w1 ⟨⟨Pz,PC,PD,pv,nv',cv,qv,mv',dv,rfl,hv⟩,aP⟩;obtain⟨rfl,rfl,rfl,rfl,rfl,uw,hvc,hvs⟩:=eP hv;rw[MB.out,Sz.out];rw[Sz.out]at hvc;clear hv)
  obtain⟨W1,zB⟩:∃W1,W1=w1.alloc (.cells #[.int .i64 Pz,.int .i64 PC,.string PD,.slice pv nv cv,.slice qv mv dv] 25):=⟨_,rfl⟩;have vV:Below w.heap.size w W1:=by rw[zB];exact ah aP ((Below.refl _ _).alloc (Nat.le_refl _) _)
  have Wp:=aP.size;have hX:W1.heap[w1.heap.size]?=some (.cells #[.int .i64 Pz,.int .i64 PC,.string PD,.slice pv nv cv,.slice qv mv dv] 25 (0,0)):=by rw[zB];exact bR _
  have hsW:w1.heap.size<W1.heap.size:=aO hX;have vW:Hid (dV W1 Rb (.int .i64 k) (.int .i64 i) (.string t) (.slice pk nk ck) (.slice pl nl cl) bad):=HR.out W1 vV;have PE:Hid (∀x,O x->x<W1.heap.size/\x≠Rb):=fun x hx=>⟨Nat.lt_of_lt_of_le (hO x hx).1 vV.size,(hO x hx).2⟩;have HVK:Hid (ig O W1 pv cv ks):=uw.carry fun x hx=>⟨hx,(by rw[zB];exact Below.heap_alloc _ _ _ (Nat.lt_of_lt_of_le (hO x hx).1 aP.size))⟩;have HVS:Hid (isJs O W1 qv 0 ls):=isJs.carry (fun x hx=>⟨hx,(by rw[zB];exact Below.heap_alloc _ _ _ (Nat.lt_of_lt_of_le (hO x hx).1 aP.size))⟩) qv 0 ls hvs;have Gz:=uw.1;rw[MB.out]at Gz;have b0:=ay hX 0 _ rfl;have b3:=ay hX 3 _ rfl;have r5:=ay vW.out 5 _ rfl;have rz:=ou vW.out 5;rw[<-zB];clear uw hvs hU zB aP
  by_cases CZ:Pz=5
  ·subst CZ;go_wp2;have Iz:Hid (W1.heap[w1.heap.size]?=some (.cells #[.int .i64 5,.int .i64 PC,.string PD,.slice pv nv cv,.slice qv mv dv] 25 (0,0))):=hX;clear r5 rz b0 b3 hX
   go_loopw [9,29] (fun v x wx=>∃n:Nat,x=.int .i64 n/\n<=nv/\wx.ownsRow W1.heap.size 109 2 v (((ks.zip ls).take n).map fun q=>(q.1,q.2.nm)).length (flatN (((ks.zip ls).take n).map fun q=>(q.1,q.2.nm)))/\dV wx Rb (.int .i64 k) (.int .i64 i) (.string t) (.slice pk nk ck) (.slice pl nl cl) (bad || ((ks.zip ls).take n).any (mU wO))/\av (aQ Rb) W1 wx) (fun _ x _=>nv - (intOf x).toNat)
   case atStart=>exact⟨0,rfl,Nat.zero_le _,World.ownsRow_nil _ _ _ _,by simpa using vW.out,av.refl _ _⟩
   case round=>
    obtain⟨n,rfl,hn,aL,gW,Kv⟩:=hrel;have HF:Hid (∀X,av (aQ Rb) W1 X->X.cell? ⟨w1.heap.size,4,none⟩=some (.slice qv mv dv)):=fun X hX=>(World.cell?_of_block (a:=⟨w1.heap.size,4,none⟩) (hX.block w1.heap.size hsW (by unfold aQ;omega))).trans (ay Iz.out 4 _ rfl)
    by_cases Py:n<nv
    ·have nz:n<ks.length:=by rw[MB.out];exact Py
     have hnm:n<mv:=by have:=UJ.out;rw[MB.out,Sz.out]at this;omega
     have HT:Hid ((ks.zip ls).take (n+1)=(ks.zip ls).take n++ [(ks.getD n aN,ls.getD n J.zero)]):=Px nz UJ.out;obtain⟨ad,rfl,rX,PG⟩:=HVK.out.2 n nz;have zC:wr.cell? (ad.add n)=some (.string (ks.getD n aN)):=(World.cell?_of_block (by rw[bF];exact Kv.block _ (PE.out _ rX).1 (by unfold aQ;exact(PE.out _ rX).2))).trans PG;have PH:(ks.getD n aN).size<=1000000000:=by rw[List.getD_eq_getElem?_getD,List.getElem?_eq_getElem nz];exact Wo.out _ (List.getElem_mem nz)
     obtain⟨lb,lo,cs,vM,mG,bA,ja⟩:=isJs.at ls 0 n HVS.out (by rw[Sz.out];exact hnm);subst vM;obtain⟨ke,ie,te,pe,ne,ce,qe,me,de,rfl⟩:=dI ja;have HE:Hid ((ls.getD n J.zero).kd=ke/\(ls.getD n J.zero).nm=ie):=by
      generalize ls.getD n J.zero=y at ja;obtain⟨_,_,_,_,_⟩:=y;obtain⟨rfl,rfl,_⟩:=eP ja;exact⟨rfl,rfl⟩
     have HC:Hid (∀X,av (aQ Rb) W1 X->X.cell? ⟨lb,lo+n*5,none⟩=some (.int .i64 ke)/\X.cell? ⟨lb,lo+n*5+1,none⟩=some (.int .i64 ie)/\X.cell? ⟨lb,lo+n*5+2,none⟩=some (.string te)/\X.cell? ⟨lb,lo+n*5+3,none⟩=some (.slice pe ne ce)/\X.cell? ⟨lb,lo+n*5+4,none⟩=some (.slice qe me de)):=fun X hX=>by
      have cc:∀m v, [Value.int .i64 ke,.int .i64 ie,.string te,.slice pe ne ce,.slice qe me de][m]?=some v->X.cell? ⟨lb,lo+n*5+m,none⟩=some v:=fun m v h=>by
       have:=bA m v h;rw[Nat.zero_add]at this;exact(World.cell?_of_block (a:=⟨lb,lo+n*5+m,none⟩) (hX.block lb (PE.out lb mG).1 (by unfold aQ;exact(PE.out lb mG).2))).trans this
      exact⟨cc 0 _ rfl,cc 1 _ rfl,cc 2 _ rfl,cc 3 _ rfl,cc 4 _ rfl⟩
     have HB:Hid (∀b,b=(bad || ((ks.zip ls).take n).any (mU wO))->(b || (!wO (ks.getD n aN) || !uH ke ie))=(bad || ((ks.zip ls).take (n+1)).any (mU wO))):=fun b hb=>by
      rw[hb,HT.out,List.any_append,Bool.or_assoc];simp only[List.any_cons,List.any_nil,Bool.or_false,mU,HE.out.1,HE.out.2]
     have HL:Hid ((((ks.zip ls).take (n+1)).map fun q=>(q.1,q.2.nm))=(((ks.zip ls).take n).map fun q=>(q.1,q.2.nm))++ [(ks.getD n aN,ie)]):=by
      show _=_
      rw[HT.out,List.map_append];simp only[List.map_cons,List.map_nil,HE.out.2]
     have zg:Hid ((((ks.zip ls).take n).map fun q=>(q.1,q.2.nm)).length<=100000):=by
      show _<=_
      simp only[List.length_map,List.length_take];omega
     have Re:=(PE.out lb mG).1;generalize (((ks.zip ls).take n).map fun q=>(q.1,q.2.nm))=L at aL HL zg;obtain⟨bn,Wq⟩:∃b,b=(bad || ((ks.zip ls).take n).any (mU wO)):=⟨_,rfl⟩;rw[<-Wq]at gW;have yh:=(show Hid _ from HB.out bn Wq);clear Wq HB bA ja PG;generalize ks.getD n aN=K at zC PH yh HL;have SA:=Iw (w:=wr) K PH;have hRl:=(aL.lt);have uJ:Hid (wr.ownsRow W1.heap.size 109 2 _ L.length (flatN L)):=aL;have SB:Hid (dV wr Rb (.int .i64 k) (.int .i64 i) (.string t) (.slice pk nk ck) (.slice pl nl cl) bn):=gW;have MC:Hid (av (aQ Rb) W1 wr):=Kv;have hsx:=Kv.size;have PI:Rb<wr.heap.size:=by omega
     clear aL gW Kv hRl
     cases hft:wO K with
     | true=>
      rw[hft]at SA yh;go_wp2_with(first
       | (go_at_call 146;refine SA.mono ?_;rintro e w2 ⟨rfl,aT⟩
          have pO:av (aQ Rb) wr w2:=av.aW aT;have x4:=HF.out w2 (MC.out.then pO);obtain⟨e0,e1,e2,e3,e4⟩:=HC.out w2 (MC.out.then pO);have vX:=mQ ((aT.block Rb PI).trans SB.out) ke ie te pe qe ne ce me de;have Ri:Hid (av (aQ Rb) wr w2):=pO;clear pO aT)
       | (go_at_call 167;refine vX.mono ?_;rintro e w4 ⟨rfl,BP,xS⟩
          have BQ:av (aQ Rb) wr w4:=Ri.out.then xS;have kR:=(aX uJ.out BQ (fun q hq=>by have:=(uJ.out.lt q hq).1;unfold aQ;omega)).alloc (.cells #[.string K,.int .i64 ie] 109);have IA:je (fun _=>True) (w4.alloc (.cells #[.string K,.int .i64 ie] 109)) (some ⟨w4.heap.size,0,none⟩) 1 [(K,ie)]:=mP (l:= [(K,ie)]) trivial (bR _);have IB:W1.heap.size<=(w4.alloc (.cells #[.string K,.int .i64 ie] 109)).heap.size:=by have:=BQ.size;simp;omega
          have Kw:=(show Hid _ from BP);have Ei:Hid (av (aQ Rb) wr w4):=BQ;clear BP xS BQ e0 e1 e2 e3 e4 x4 vX)
       | (refine dW rfl _ _ rfl W1.heap.size _ L rfl kR IA rfl (by have:=zg.out;omega) (by simp) IB ?_;intro v5 w5 bV iw))
      go_roundw
      case rel=>
       have Q8:av (aQ Rb) W1 (w4.alloc (.cells #[.string K,.int .i64 ie] 109)):=(MC.out.then Ei.out).alloc _;have IC:=aO Kw.out;refine⟨n+1,by simp,by omega,by rw[HL.out];exact bV, ?_,Q8.grown iw (fun q hq=>(kR.lt q hq).1)⟩;rw[<-yh.out];refine(iw.block Rb (by simp;omega) (fun e=>by have:=(kR.lt Rb e.symm).1;omega)).trans ?_;rw[Below.heap_alloc _ _ _ IC];simpa using Kw.out
      case measure=>simp[intOf];omega
     | false=>
      rw[hft]at SA yh;go_wp2_with(first
       | (go_at_call 146;refine SA.mono ?_;rintro e w2 ⟨rfl,aT⟩
          have SC:dV w2 Rb _ _ _ _ _ bn:=(aT.block Rb PI).trans SB.out;have r5:=ay SC 5 _ rfl;have rz:=ou SC 5;have DT:av (aQ Rb) wr (w2.setCell ⟨Rb,5,none⟩ (.bool true)):=av.setCell (S:=aQ Rb) (p:=⟨Rb,5,none⟩) (av.aW aT) (fun _=>(rfl:Rb=Rb)) _;have x4:=HF.out _ (MC.out.then DT);obtain⟨e0,e1,e2,e3,e4⟩:=HC.out _ (MC.out.then DT);have vX:=mQ (SC.set true) ke ie te pe qe ne ce me de;have Ri:Hid (av (aQ Rb) wr (w2.setCell ⟨Rb,5,none⟩ (.bool true))):=DT;clear DT aT SC)
       | (go_at_call 167;refine vX.mono ?_;rintro e w4 ⟨rfl,BP,xS⟩
          have BQ:av (aQ Rb) wr w4:=Ri.out.then xS;have kR:=(aX uJ.out BQ (fun q hq=>by have:=(uJ.out.lt q hq).1;unfold aQ;omega)).alloc (.cells #[.string K,.int .i64 ie] 109);have IA:je (fun _=>True) (w4.alloc (.cells #[.string K,.int .i64 ie] 109)) (some ⟨w4.heap.size,0,none⟩) 1 [(K,ie)]:=mP (l:= [(K,ie)]) trivial (bR _);have IB:W1.heap.size<=(w4.alloc (.cells #[.string K,.int .i64 ie] 109)).heap.size:=by have:=BQ.size;simp;omega
          have Kw:=(show Hid _ from BP);have Ei:Hid (av (aQ Rb) wr w4):=BQ;clear BP xS BQ e0 e1 e2 e3 e4 x4 vX r5 rz)
       | (refine dW rfl _ _ rfl W1.heap.size _ L rfl kR IA rfl (by have:=zg.out;omega) (by simp) IB ?_;intro v5 w5 bV iw))
      go_roundw
      case rel=>
       have Q8:av (aQ Rb) W1 (w4.alloc (.cells #[.string K,.int .i64 ie] 109)):=(MC.out.then Ei.out).alloc _;have IC:=aO Kw.out;refine⟨n+1,by simp,by omega,by rw[HL.out];exact bV, ?_,Q8.grown iw (fun q hq=>(kR.lt q hq).1)⟩;rw[<-yh.out];refine(iw.block Rb (by simp;omega) (fun e=>by have:=(kR.lt Rb e.symm).1;omega)).trans ?_;rw[Below.heap_alloc _ _ _ IC];simpa using Kw.out
      case measure=>simp[intOf];omega
    ·obtain rfl:n=nv:=by omega
     have Vx:(ks.zip ls).take n=ks.zip ls:=List.take_of_length_le (by rw[List.length_zip,MB.out];omega);rw[Vx]at aL gW;have uJ:=(show Hid _ from aL);have SB:=(show Hid _ from gW);clear aL gW Vx;go_wp2;go_ret;obtain⟨p',c',Ws,Oz⟩:=BO uJ.out;refine⟨⟨p',c',by first| (rw[Ws];rfl)| (simp only[];rw[<-Ws];rfl),Oz.carry fun q hq=>⟨⟨by have:=vV.size;omega,hq.2⟩,rfl⟩⟩, ?_,(av.aW vV).then Kv⟩;simpa [rowT,J.kd,J.ks,J.ls]using SB.out
  ·have qf:=UM.out CZ;have Wu:nv=0:=by rw[<-MB.out,qf];rfl
   subst Wu;have Pj:Hid (dV (W1.setCell ⟨Rb,5,none⟩ (.bool true)) Rb (.int .i64 k) (.int .i64 i) (.string t) (.slice pk nk ck) (.slice pl nl cl) true):=vW.out.set true;have Wv:Hid (av (aQ Rb) w (W1.setCell ⟨Rb,5,none⟩ (.bool true))):=av.setCell (S:=aQ Rb) (p:=⟨Rb,5,none⟩) (av.aW vV) (fun _=>(rfl:Rb=Rb)) _;have Iz:Hid (W1.heap[w1.heap.size]?=some (.cells #[.int .i64 Pz,.int .i64 PC,.string PD,.slice pv 0 cv,.slice qv mv dv] 25 (0,0))):=hX;have b3':(W1.setCell ⟨Rb,5,none⟩ (.bool true)).cell? ⟨w1.heap.size,3,none⟩=some (.slice pv 0 cv):=by
    rw[World.cell?_of_block (Below.heap_setCell W1 ⟨Rb,5,none⟩ _ w1.heap.size (by simp;omega))];exact b3
   have HRO:Hid (rowT wO (some (.mk Pz PC PD ks ls))=([],true)):=by
    show _=_
    simp[rowT,rowsOf,J.kd,J.ks,J.ls,qf,CZ]
   clear hX qf;go_wp2
   go_loopw [9,29] (fun v x wx=>v=.slice none 0 0/\x=.int .i64 0/\Hid (wx=W1.setCell ⟨Rb,5,none⟩ (.bool true))) (fun _ _ _=>0)
   case atStart=>exact⟨rfl,rfl,rfl⟩
   case round=>
    obtain⟨rfl,rfl,Sm⟩:=hrel;go_wp2;go_ret;rw[HRO.out,Sm.out];exact⟨⟨none,0,rfl,je.nil _ _ _ _ fun _=>rfl⟩,by simpa using Pj.out,Wv.out⟩
theorem ME{O:Nat->Prop}{w:World}{Rb d:Nat}{j:J}{k i:Int}{t:ByteArray}{pk pl:Option Addr}{nk ck nl cl:Nat}{bad:Bool}(hR:dV w Rb (.int .i64 k) (.int .i64 i) (.string t) (.slice pk nk ck) (.slice pl nl cl) bad)
    (hj:isJ O w j [.int .i64 k,.int .i64 i,.string t,.slice pk nk ck,.slice pl nl cl]) (hO:∀x,O x->x<w.heap.size/\x≠Rb) (lU:Il (d+2) j) (s:ByteArray):
    Calls Tryz.prog 145 #[.pointer (some ⟨Rb,0,none⟩),.string s,.func (.func 130) #[] #[]] w fun e w'=>(∃p c,e=.returned (.slice p (rowT zG (lookV j.ks j.ls s)).1.length c)/\je (fun b=>w.heap.size<=b/\b<w'.heap.size) w' p c (rowT zG (lookV j.ks j.ls s)).1)/\dV w' Rb (.int .i64 k) (.int .i64 i) (.string t) (.slice pk nk ck) (.slice pl nl cl) (bad || (rowT zG (lookV j.ks j.ls s)).2)/\av (aQ Rb) w w':=by
 have hU:=uG hR hj (fun x hx=>(hO x hx).1) lU s;have HR:Hid (∀X,Below w.heap.size w X->dV X Rb (.int .i64 k) (.int .i64 i) (.string t) (.slice pk nk ck) (.slice pl nl cl) bad):=fun X hX=>(hX.block Rb (aO hR)).trans hR;have bH:=aO hR;have uI:Hid (∀v,lookV j.ks j.ls s=some v->Il (d+1) v):=fun v hv=>by
  obtain⟨_,_,_,_,_⟩:=j;exact lU.parts.2.2.2.2.2 v (jv hv)
 clear hR hj lU;generalize lookV j.ks j.ls s=o at hU uI
 cases o with
 | none=>
  go_enter Tryz.func145,Tryz.ntmps145;go_wp2_with(go_at_call 166;refine hU.mono ?_;rintro e w1 ⟨he,aP⟩;replace he:e=_:=he;subst he);go_ret;have lD:=ah aP ((Below.refl _ _).alloc (Nat.le_refl _) (.cells #[.int .i64 0,.int .i64 0,.string ⟨#[]⟩,.slice none 0 0,.slice none 0 0] 25));refine⟨⟨none,0,rfl,je.nil _ _ _ _ fun _=>rfl⟩, ?_,av.aW lD⟩;simp only[rowT,Bool.or_false];exact HR.out _ lD
 | some v=>
  have yj:=uI.out v rfl;obtain⟨kv,iv,tv,ks,ls⟩:=v;have sO:=yj.parts.2.2.2.1;have Wo:Hid (∀x∈ks,x.size<=1000000000):=yj.parts.2.2.2.2.1;have UJ:Hid (ks.length<=ls.length):=yj.lens;have UM:Hid (kv≠5->ks= []):=yj.parts.2.2.1;clear yj uI;obtain⟨nv,Py⟩:∃n,ks.length=n:=⟨_,rfl⟩;obtain⟨mv,hmv⟩:∃n,ls.length=n:=⟨_,rfl⟩;have MB:Hid (ks.length=nv):=Py;have Sz:Hid (ls.length=mv):=hmv;rw[Py]at sO;clear Py hmv;go_enter Tryz.func145,Tryz.ntmps145
  go_upto_region 2 with(go_at_call 166;refine hU.mono ?_;rintro e w1 ⟨⟨Pz,PC,PD,pv,nv',cv,qv,mv',dv,rfl,hv⟩,aP⟩;obtain⟨rfl,rfl,rfl,rfl,rfl,uw,hvc,hvs⟩:=eP hv;rw[MB.out,Sz.out];rw[Sz.out]at hvc;clear hv)
  obtain⟨W1,zB⟩:∃W1,W1=w1.alloc (.cells #[.int .i64 Pz,.int .i64 PC,.string PD,.slice pv nv cv,.slice qv mv dv] 25):=⟨_,rfl⟩;have vV:Below w.heap.size w W1:=by rw[zB];exact ah aP ((Below.refl _ _).alloc (Nat.le_refl _) _)
  have Wp:=aP.size;have hX:W1.heap[w1.heap.size]?=some (.cells #[.int .i64 Pz,.int .i64 PC,.string PD,.slice pv nv cv,.slice qv mv dv] 25 (0,0)):=by rw[zB];exact bR _
  have hsW:w1.heap.size<W1.heap.size:=aO hX;have vW:Hid (dV W1 Rb (.int .i64 k) (.int .i64 i) (.string t) (.slice pk nk ck) (.slice pl nl cl) bad):=HR.out W1 vV;have PE:Hid (∀x,O x->x<W1.heap.size/\x≠Rb):=fun x hx=>⟨Nat.lt_of_lt_of_le (hO x hx).1 vV.size,(hO x hx).2⟩;have HVK:Hid (ig O W1 pv cv ks):=uw.carry fun x hx=>⟨hx,(by rw[zB];exact Below.heap_alloc _ _ _ (Nat.lt_of_lt_of_le (hO x hx).1 aP.size))⟩;have HVS:Hid (isJs O W1 qv 0 ls):=isJs.carry (fun x hx=>⟨hx,(by rw[zB];exact Below.heap_alloc _ _ _ (Nat.lt_of_lt_of_le (hO x hx).1 aP.size))⟩) qv 0 ls hvs;have Gz:=uw.1;rw[MB.out]at Gz;have b0:=ay hX 0 _ rfl;have b3:=ay hX 3 _ rfl;have r5:=ay vW.out 5 _ rfl;have rz:=ou vW.out 5;rw[<-zB];clear uw hvs hU zB aP
  by_cases CZ:Pz=5
  ·subst CZ;go_wp2;have Iz:Hid (W1.heap[w1.heap.size]?=some (.cells #[.int .i64 5,.int .i64 PC,.string PD,.slice pv nv cv,.slice qv mv dv] 25 (0,0))):=hX;clear r5 rz b0 b3 hX
   go_loopw [9,29] (fun v x wx=>∃n:Nat,x=.int .i64 n/\n<=nv/\wx.ownsRow W1.heap.size 109 2 v (((ks.zip ls).take n).map fun q=>(q.1,q.2.nm)).length (flatN (((ks.zip ls).take n).map fun q=>(q.1,q.2.nm)))/\dV wx Rb (.int .i64 k) (.int .i64 i) (.string t) (.slice pk nk ck) (.slice pl nl cl) (bad || ((ks.zip ls).take n).any (mU zG))/\av (aQ Rb) W1 wx) (fun _ x _=>nv - (intOf x).toNat)
   case atStart=>exact⟨0,rfl,Nat.zero_le _,World.ownsRow_nil _ _ _ _,by simpa using vW.out,av.refl _ _⟩
   case round=>
    obtain⟨n,rfl,hn,aL,gW,Kv⟩:=hrel;have HF:Hid (∀X,av (aQ Rb) W1 X->X.cell? ⟨w1.heap.size,4,none⟩=some (.slice qv mv dv)):=fun X hX=>(World.cell?_of_block (a:=⟨w1.heap.size,4,none⟩) (hX.block w1.heap.size hsW (by unfold aQ;omega))).trans (ay Iz.out 4 _ rfl)
    by_cases Py:n<nv
    ·have nz:n<ks.length:=by rw[MB.out];exact Py
     have hnm:n<mv:=by have:=UJ.out;rw[MB.out,Sz.out]at this;omega
     have HT:Hid ((ks.zip ls).take (n+1)=(ks.zip ls).take n++ [(ks.getD n aN,ls.getD n J.zero)]):=Px nz UJ.out;obtain⟨ad,rfl,rX,PG⟩:=HVK.out.2 n nz;have zC:wr.cell? (ad.add n)=some (.string (ks.getD n aN)):=(World.cell?_of_block (by rw[bF];exact Kv.block _ (PE.out _ rX).1 (by unfold aQ;exact(PE.out _ rX).2))).trans PG;have PH:(ks.getD n aN).size<=1000000000:=by rw[List.getD_eq_getElem?_getD,List.getElem?_eq_getElem nz];exact Wo.out _ (List.getElem_mem nz)
     obtain⟨lb,lo,cs,vM,mG,bA,ja⟩:=isJs.at ls 0 n HVS.out (by rw[Sz.out];exact hnm);subst vM;obtain⟨ke,ie,te,pe,ne,ce,qe,me,de,rfl⟩:=dI ja;have HE:Hid ((ls.getD n J.zero).kd=ke/\(ls.getD n J.zero).nm=ie):=by
      generalize ls.getD n J.zero=y at ja;obtain⟨_,_,_,_,_⟩:=y;obtain⟨rfl,rfl,_⟩:=eP ja;exact⟨rfl,rfl⟩
     have HC:Hid (∀X,av (aQ Rb) W1 X->X.cell? ⟨lb,lo+n*5,none⟩=some (.int .i64 ke)/\X.cell? ⟨lb,lo+n*5+1,none⟩=some (.int .i64 ie)/\X.cell? ⟨lb,lo+n*5+2,none⟩=some (.string te)/\X.cell? ⟨lb,lo+n*5+3,none⟩=some (.slice pe ne ce)/\X.cell? ⟨lb,lo+n*5+4,none⟩=some (.slice qe me de)):=fun X hX=>by
      have cc:∀m v, [Value.int .i64 ke,.int .i64 ie,.string te,.slice pe ne ce,.slice qe me de][m]?=some v->X.cell? ⟨lb,lo+n*5+m,none⟩=some v:=fun m v h=>by
       have:=bA m v h;rw[Nat.zero_add]at this;exact(World.cell?_of_block (a:=⟨lb,lo+n*5+m,none⟩) (hX.block lb (PE.out lb mG).1 (by unfold aQ;exact(PE.out lb mG).2))).trans this
      exact⟨cc 0 _ rfl,cc 1 _ rfl,cc 2 _ rfl,cc 3 _ rfl,cc 4 _ rfl⟩
     have HB:Hid (∀b,b=(bad || ((ks.zip ls).take n).any (mU zG))->(b || (!zG (ks.getD n aN) || !uH ke ie))=(bad || ((ks.zip ls).take (n+1)).any (mU zG))):=fun b hb=>by
      rw[hb,HT.out,List.any_append,Bool.or_assoc];simp only[List.any_cons,List.any_nil,Bool.or_false,mU,HE.out.1,HE.out.2]
     have HL:Hid ((((ks.zip ls).take (n+1)).map fun q=>(q.1,q.2.nm))=(((ks.zip ls).take n).map fun q=>(q.1,q.2.nm))++ [(ks.getD n aN,ie)]):=by
      show _=_
      rw[HT.out,List.map_append];simp only[List.map_cons,List.map_nil,HE.out.2]
     have zg:Hid ((((ks.zip ls).take n).map fun q=>(q.1,q.2.nm)).length<=100000):=by
      show _<=_
      simp only[List.length_map,List.length_take];omega
     have Re:=(PE.out lb mG).1;generalize (((ks.zip ls).take n).map fun q=>(q.1,q.2.nm))=L at aL HL zg;obtain⟨bn,Wq⟩:∃b,b=(bad || ((ks.zip ls).take n).any (mU zG)):=⟨_,rfl⟩;rw[<-Wq]at gW;have yh:=(show Hid _ from HB.out bn Wq);clear Wq HB bA ja PG;generalize ks.getD n aN=K at zC PH yh HL;have SA:=Iy (w:=wr) K PH;have hRl:=(aL.lt);have uJ:Hid (wr.ownsRow W1.heap.size 109 2 _ L.length (flatN L)):=aL;have SB:Hid (dV wr Rb (.int .i64 k) (.int .i64 i) (.string t) (.slice pk nk ck) (.slice pl nl cl) bn):=gW;have MC:Hid (av (aQ Rb) W1 wr):=Kv;have hsx:=Kv.size;have PI:Rb<wr.heap.size:=by omega
     clear aL gW Kv hRl
     cases hft:zG K with
     | true=>
      rw[hft]at SA yh;go_wp2_with(first
       | (go_at_call 130;refine SA.mono ?_;rintro e w2 ⟨rfl,aT⟩
          have pO:av (aQ Rb) wr w2:=av.aW aT;have x4:=HF.out w2 (MC.out.then pO);obtain⟨e0,e1,e2,e3,e4⟩:=HC.out w2 (MC.out.then pO);have vX:=mQ ((aT.block Rb PI).trans SB.out) ke ie te pe qe ne ce me de;have Ri:Hid (av (aQ Rb) wr w2):=pO;clear pO aT)
       | (go_at_call 167;refine vX.mono ?_;rintro e w4 ⟨rfl,BP,xS⟩
          have BQ:av (aQ Rb) wr w4:=Ri.out.then xS;have kR:=(aX uJ.out BQ (fun q hq=>by have:=(uJ.out.lt q hq).1;unfold aQ;omega)).alloc (.cells #[.string K,.int .i64 ie] 109);have IA:je (fun _=>True) (w4.alloc (.cells #[.string K,.int .i64 ie] 109)) (some ⟨w4.heap.size,0,none⟩) 1 [(K,ie)]:=mP (l:= [(K,ie)]) trivial (bR _);have IB:W1.heap.size<=(w4.alloc (.cells #[.string K,.int .i64 ie] 109)).heap.size:=by have:=BQ.size;simp;omega
          have Kw:=(show Hid _ from BP);have Ei:Hid (av (aQ Rb) wr w4):=BQ;clear BP xS BQ e0 e1 e2 e3 e4 x4 vX)
       | (refine dW rfl _ _ rfl W1.heap.size _ L rfl kR IA rfl (by have:=zg.out;omega) (by simp) IB ?_;intro v5 w5 bV iw))
      go_roundw
      case rel=>
       have Q8:av (aQ Rb) W1 (w4.alloc (.cells #[.string K,.int .i64 ie] 109)):=(MC.out.then Ei.out).alloc _;have IC:=aO Kw.out;refine⟨n+1,by simp,by omega,by rw[HL.out];exact bV, ?_,Q8.grown iw (fun q hq=>(kR.lt q hq).1)⟩;rw[<-yh.out];refine(iw.block Rb (by simp;omega) (fun e=>by have:=(kR.lt Rb e.symm).1;omega)).trans ?_;rw[Below.heap_alloc _ _ _ IC];simpa using Kw.out
      case measure=>simp[intOf];omega
     | false=>
      rw[hft]at SA yh;go_wp2_with(first
       | (go_at_call 130;refine SA.mono ?_;rintro e w2 ⟨rfl,aT⟩
          have SC:dV w2 Rb _ _ _ _ _ bn:=(aT.block Rb PI).trans SB.out;have r5:=ay SC 5 _ rfl;have rz:=ou SC 5;have DT:av (aQ Rb) wr (w2.setCell ⟨Rb,5,none⟩ (.bool true)):=av.setCell (S:=aQ Rb) (p:=⟨Rb,5,none⟩) (av.aW aT) (fun _=>(rfl:Rb=Rb)) _;have x4:=HF.out _ (MC.out.then DT);obtain⟨e0,e1,e2,e3,e4⟩:=HC.out _ (MC.out.then DT);have vX:=mQ (SC.set true) ke ie te pe qe ne ce me de;have Ri:Hid (av (aQ Rb) wr (w2.setCell ⟨Rb,5,none⟩ (.bool true))):=DT;clear DT aT SC)
       | (go_at_call 167;refine vX.mono ?_;rintro e w4 ⟨rfl,BP,xS⟩
          have BQ:av (aQ Rb) wr w4:=Ri.out.then xS;have kR:=(aX uJ.out BQ (fun q hq=>by have:=(uJ.out.lt q hq).1;unfold aQ;omega)).alloc (.cells #[.string K,.int .i64 ie] 109);have IA:je (fun _=>True) (w4.alloc (.cells #[.string K,.int .i64 ie] 109)) (some ⟨w4.heap.size,0,none⟩) 1 [(K,ie)]:=mP (l:= [(K,ie)]) trivial (bR _);have IB:W1.heap.size<=(w4.alloc (.cells #[.string K,.int .i64 ie] 109)).heap.size:=by have:=BQ.size;simp;omega
          have Kw:=(show Hid _ from BP);have Ei:Hid (av (aQ Rb) wr w4):=BQ;clear BP xS BQ e0 e1 e2 e3 e4 x4 vX r5 rz)
       | (refine dW rfl _ _ rfl W1.heap.size _ L rfl kR IA rfl (by have:=zg.out;omega) (by simp) IB ?_;intro v5 w5 bV iw))
      go_roundw
      case rel=>
       have Q8:av (aQ Rb) W1 (w4.alloc (.cells #[.string K,.int .i64 ie] 109)):=(MC.out.then Ei.out).alloc _;have IC:=aO Kw.out;refine⟨n+1,by simp,by omega,by rw[HL.out];exact bV, ?_,Q8.grown iw (fun q hq=>(kR.lt q hq).1)⟩;rw[<-yh.out];refine(iw.block Rb (by simp;omega) (fun e=>by have:=(kR.lt Rb e.symm).1;omega)).trans ?_;rw[Below.heap_alloc _ _ _ IC];simpa using Kw.out
      case measure=>simp[intOf];omega
    ·obtain rfl:n=nv:=by omega
     have Vx:(ks.zip ls).take n=ks.zip ls:=List.take_of_length_le (by rw[List.length_zip,MB.out];omega);rw[Vx]at aL gW;have uJ:=(show Hid _ from aL);have SB:=(show Hid _ from gW);clear aL gW Vx;go_wp2;go_ret;obtain⟨p',c',Ws,Oz⟩:=BO uJ.out;refine⟨⟨p',c',by first| (rw[Ws];rfl)| (simp only[];rw[<-Ws];rfl),Oz.carry fun q hq=>⟨⟨by have:=vV.size;omega,hq.2⟩,rfl⟩⟩, ?_,(av.aW vV).then Kv⟩;simpa [rowT,J.kd,J.ks,J.ls]using SB.out
  ·have qf:=UM.out CZ;have Wu:nv=0:=by rw[<-MB.out,qf];rfl
   subst Wu;have Pj:Hid (dV (W1.setCell ⟨Rb,5,none⟩ (.bool true)) Rb (.int .i64 k) (.int .i64 i) (.string t) (.slice pk nk ck) (.slice pl nl cl) true):=vW.out.set true;have Wv:Hid (av (aQ Rb) w (W1.setCell ⟨Rb,5,none⟩ (.bool true))):=av.setCell (S:=aQ Rb) (p:=⟨Rb,5,none⟩) (av.aW vV) (fun _=>(rfl:Rb=Rb)) _;have Iz:Hid (W1.heap[w1.heap.size]?=some (.cells #[.int .i64 Pz,.int .i64 PC,.string PD,.slice pv 0 cv,.slice qv mv dv] 25 (0,0))):=hX;have b3':(W1.setCell ⟨Rb,5,none⟩ (.bool true)).cell? ⟨w1.heap.size,3,none⟩=some (.slice pv 0 cv):=by
    rw[World.cell?_of_block (Below.heap_setCell W1 ⟨Rb,5,none⟩ _ w1.heap.size (by simp;omega))];exact b3
   have HRO:Hid (rowT zG (some (.mk Pz PC PD ks ls))=([],true)):=by
    show _=_
    simp[rowT,rowsOf,J.kd,J.ks,J.ls,qf,CZ]
   clear hX qf;go_wp2
   go_loopw [9,29] (fun v x wx=>v=.slice none 0 0/\x=.int .i64 0/\Hid (wx=W1.setCell ⟨Rb,5,none⟩ (.bool true))) (fun _ _ _=>0)
   case atStart=>exact⟨rfl,rfl,rfl⟩
   case round=>
    obtain⟨rfl,rfl,Sm⟩:=hrel;go_wp2;go_ret;rw[HRO.out,Sm.out];exact⟨⟨none,0,rfl,je.nil _ _ _ _ fun _=>rfl⟩,by simpa using Pj.out,Wv.out⟩
def oW(j:J):Lv:=⟨(numT 50 (lookV j.ks j.ls BJ)).1,(numT 50 (lookV j.ks j.ls sS)).1,(numT 0 (lookV j.ks j.ls kg)).1,(numT 50 (lookV j.ks j.ls ko)).1,(numT 50 (lookV j.ks j.ls nR)).1,(numT 0 (lookV j.ks j.ls ku)).1,(numT 0 (lookV j.ks j.ls nS)).1,(rowT wO (lookV j.ks j.ls gF)).1,(rowT zG (lookV j.ks j.ls gG)).1⟩
def kS(j:J):Bool:=((((((((!decide (j.kd=5) || (numT 50 (lookV j.ks j.ls BJ)).2) || (numT 50 (lookV j.ks j.ls sS)).2) || (numT 0 (lookV j.ks j.ls kg)).2) || (numT 50 (lookV j.ks j.ls ko)).2) || (numT 50 (lookV j.ks j.ls nR)).2) || (numT 0 (lookV j.ks j.ls ku)).2) || (numT 0 (lookV j.ks j.ls nS)).2) || (rowT wO (lookV j.ks j.ls gF)).2) || (rowT zG (lookV j.ks j.ls gG)).2
abbrev AO:Lv:=⟨0,0,0,0,0,0,0, [], []⟩
def bQ(j:J):Lv×Int:=if kS j then(AO,1)else(oW j,0)
theorem MF{O:Nat->Prop}{w:World}{c:J}{k i:Int}{t:ByteArray}{pk pl:Option Addr}{nk ck nl cl:Nat}(hj:isJ O w c [.int .i64 k,.int .i64 i,.string t,.slice pk nk ck,.slice pl nl cl])(hO:∀x,O x->x<w.heap.size)(fq:szJ 12 c=true):
    Calls Tryz.prog 120 #[.agg #[.int .i64 k,.int .i64 i,.string t,.slice pk nk ck,.slice pl nl cl]] w fun e w'=>(∃p,e=.returned (.tuple #[jc (bQ (eU c)).1 p,.int .i64 (bQ (eU c)).2])/\BK (fun b=>w.heap.size<=b/\b<w'.heap.size) w' (bQ (eU c)).1 p)/\Below w.heap.size w w':=by
 obtain⟨wA,nO⟩:∃wA,wA=(w.alloc (.cells #[.int .i64 k,.int .i64 i,.string t,.slice pk nk ck,.slice pl nl cl] 25)).alloc (.cells #[.int .i64 0,.int .i64 0,.int .i64 0,.int .i64 0,.int .i64 0,.int .i64 0,.int .i64 0,.slice none 0 0,.slice none 0 0] 47):=⟨_,rfl⟩;have bS:Below w.heap.size w wA:=by rw[nO];exact((Below.refl _ _).alloc (Nat.le_refl _) _).alloc (by simp) _
 have hsA:wA.heap.size=w.heap.size+2:=by rw[nO];simp
 have MG:wA.heap[w.heap.size]?=some (.cells #[.int .i64 k,.int .i64 i,.string t,.slice pk nk ck,.slice pl nl cl] 25 (0,0)):=by rw[nO,Below.heap_alloc _ _ _ (by simp)];exact bR _
 have hA1:wA.heap[w.heap.size+1]?=some (.cells #[.int .i64 0,.int .i64 0,.int .i64 0,.int .i64 0,.int .i64 0,.int .i64 0,.int .i64 0,.slice none 0 0,.slice none 0 0] 47 (0,0)):=by
  rw[nO];have:=bR (w:=w.alloc (.cells #[.int .i64 k,.int .i64 i,.string t,.slice pk nk ck,.slice pl nl cl] 25)) (.cells #[.int .i64 0,.int .i64 0,.int .i64 0,.int .i64 0,.int .i64 0,.int .i64 0,.int .i64 0,.slice none 0 0,.slice none 0 0] 47);rw[World.size_alloc]at this;exact this
 have hOr:=Ml (fun x hx=>Nat.lt_of_lt_of_le (hO x hx) bS.size) fq (hj.carry (O':=O) (w':=wA) fun x hx=>⟨hx,bS.block x (hO x hx)⟩);have uI:Hid (Il 12 (eU c)):=Ed fq;have b0:=ay MG 0 _ rfl;have b1:=ay MG 1 _ rfl;have b2:=ay MG 2 _ rfl;have b3:=ay MG 3 _ rfl;have b4:=ay MG 4 _ rfl;generalize eU c=j at hOr uI;have HA1:Hid (∀X,Below wA.heap.size wA X->X.heap[w.heap.size+1]?=some (.cells #[.int .i64 0,.int .i64 0,.int .i64 0,.int .i64 0,.int .i64 0,.int .i64 0,.int .i64 0,.slice none 0 0,.slice none 0 0] 47 (0,0))):=fun X hX=>(hX.block _ (by omega)).trans hA1;clear hj hO fq MG hA1;go_enter Tryz.func120,Tryz.ntmps120
 go_upto_region 1 with fail
 rw[<-nO];clear nO
 go_upto_region 2 with(go_at_call 143;refine hOr.mono ?_;rintro e w1 ⟨⟨kr,ir,tr,pr,nr,cr,qr,mr,dr,rfl,Aq⟩,aP⟩)
 go_upto_region 3 with fail
 have Wp:=aP.size;obtain⟨W2,Rj⟩:∃W2,W2=(w1.alloc (.cells #[.int .i64 kr,.int .i64 ir,.string tr,.slice pr nr cr,.slice qr mr dr] 25)).alloc (.cells #[.int .i64 kr,.int .i64 ir,.string tr,.slice pr nr cr,.slice qr mr dr,.bool (kr !=5)] 155):=⟨_,rfl⟩;have aT:Below w1.heap.size w1 W2:=by rw[Rj];exact((Below.refl _ _).alloc (Nat.le_refl _) _).alloc (by simp) _
 have PK:W2.heap.size=w1.heap.size+2:=by rw[Rj];simp
 have Ky:dV W2 (w1.heap.size+1) (.int .i64 kr) (.int .i64 ir) (.string tr) (.slice pr nr cr) (.slice qr mr dr) (kr !=5):=by
  rw[Rj];have:=bR (w:=w1.alloc (.cells #[.int .i64 kr,.int .i64 ir,.string tr,.slice pr nr cr,.slice qr mr dr] 25)) (.cells #[.int .i64 kr,.int .i64 ir,.string tr,.slice pr nr cr,.slice qr mr dr,.bool (kr !=5)] 155);rw[World.size_alloc]at this;exact this
 have HB0:Hid ((kr !=5)= !decide (j.kd=5)):=by
  show _=_
  obtain⟨_,_,_,_,_⟩:=j;obtain⟨rfl,_⟩:=eP Aq
  show(kr !=5)= !decide (kr=5)
  by_cases h:kr=5<;>simp[h]
 have Rk:isJ (fun b=>b<w1.heap.size) W2 j [.int .i64 kr,.int .i64 ir,.string tr,.slice pr nr cr,.slice qr mr dr]:=Aq.carry fun x hx=>⟨hx,aT.block x hx⟩;have IE:Hid (∀X bad s z,av (aQ (w1.heap.size+1)) W2 X->dV X (w1.heap.size+1) (.int .i64 kr) (.int .i64 ir) (.string tr) (.slice pr nr cr) (.slice qr mr dr) bad->Calls Tryz.prog 144 #[.pointer (some ⟨w1.heap.size+1,0,none⟩),.string s,.int .i64 z] X fun e w'=>e=.returned (.int .i64 (numT z (lookV j.ks j.ls s)).1)/\dV w' (w1.heap.size+1) (.int .i64 kr) (.int .i64 ir) (.string tr) (.slice pr nr cr) (.slice qr mr dr) (bad || (numT z (lookV j.ks j.ls s)).2)/\av (aQ (w1.heap.size+1)) X w'):=fun X bad s z hX hR=>
  Eg (d:=11) hR (Rk.carry (O':=fun b=>b<w1.heap.size) fun x hx=>⟨hx,hX.block x (by omega) (by unfold aQ;omega)⟩) (fun x hx=>by have:=hX.size;omega) uI.out s z
 have zbS:Hid (∀X bad,av (aQ (w1.heap.size+1)) W2 X->dV X (w1.heap.size+1) (.int .i64 kr) (.int .i64 ir) (.string tr) (.slice pr nr cr) (.slice qr mr dr) bad->Calls Tryz.prog 145 #[.pointer (some ⟨w1.heap.size+1,0,none⟩),.string gF,.func (.func 146) #[] #[]] X fun e w'=>(∃p c,e=.returned (.slice p (rowT wO (lookV j.ks j.ls gF)).1.length c)/\je (fun b=>X.heap.size<=b/\b<w'.heap.size) w' p c (rowT wO (lookV j.ks j.ls gF)).1)/\dV w' (w1.heap.size+1) (.int .i64 kr) (.int .i64 ir) (.string tr) (.slice pr nr cr) (.slice qr mr dr) (bad || (rowT wO (lookV j.ks j.ls gF)).2)/\av (aQ (w1.heap.size+1)) X w'):=fun X bad hX hR=>
  Mx (d:=10) hR (Rk.carry (O':=fun b=>b<w1.heap.size) fun x hx=>⟨hx,hX.block x (by omega) (by unfold aQ;omega)⟩) (fun x hx=>⟨by have:=hX.size;omega,by omega⟩) uI.out gF
 have zbT:Hid (∀X bad,av (aQ (w1.heap.size+1)) W2 X->dV X (w1.heap.size+1) (.int .i64 kr) (.int .i64 ir) (.string tr) (.slice pr nr cr) (.slice qr mr dr) bad->Calls Tryz.prog 145 #[.pointer (some ⟨w1.heap.size+1,0,none⟩),.string gG,.func (.func 130) #[] #[]] X fun e w'=>(∃p c,e=.returned (.slice p (rowT zG (lookV j.ks j.ls gG)).1.length c)/\je (fun b=>X.heap.size<=b/\b<w'.heap.size) w' p c (rowT zG (lookV j.ks j.ls gG)).1)/\dV w' (w1.heap.size+1) (.int .i64 kr) (.int .i64 ir) (.string tr) (.slice pr nr cr) (.slice qr mr dr) (bad || (rowT zG (lookV j.ks j.ls gG)).2)/\av (aQ (w1.heap.size+1)) X w'):=fun X bad hX hR=>
  ME (d:=10) hR (Rk.carry (O':=fun b=>b<w1.heap.size) fun x hx=>⟨hx,hX.block x (by omega) (by unfold aQ;omega)⟩) (fun x hx=>⟨by have:=hX.size;omega,by omega⟩) uI.out gG
 rw[<-Rj];have fQ:Hid (Below w.heap.size w W2):=ah bS (ah aP aT);have l_:Hid (Below wA.heap.size wA W2):=ah aP aT;clear Aq Rk hOr Rj b0 b1 b2 b3 b4;have HPB:Hid (kS j=((((((((((kr !=5) || (numT 50 (lookV j.ks j.ls BJ)).2) || (numT 50 (lookV j.ks j.ls sS)).2) || (numT 0 (lookV j.ks j.ls kg)).2) || (numT 50 (lookV j.ks j.ls ko)).2) || (numT 50 (lookV j.ks j.ls nR)).2) || (numT 0 (lookV j.ks j.ls ku)).2) || (numT 0 (lookV j.ks j.ls nS)).2) || (rowT wO (lookV j.ks j.ls gF)).2) || (rowT zG (lookV j.ks j.ls gG)).2)):=by show _=_;unfold kS;rw[HB0.out]
 generalize (kr !=5)=zd9 at Ky HPB ⊢;have UN:=IE.out W2 zd9 BJ 50 (av.refl _ _) Ky
 go_upto_region 4 with(first
  | (go_at_call 144;refine UN.mono ?_;rintro e v1 ⟨rfl,hr1,Rh⟩
     have HK1:Hid (av (aQ (w1.heap.size+1)) W2 v1):=Rh;have PM:=IE.out v1 _ sS 50 HK1.out hr1;clear UN Rh hr1)
  | (go_at_call 144;refine PM.mono ?_;rintro e v2 ⟨rfl,hr2,pO⟩
     have Ri:Hid (av (aQ (w1.heap.size+1)) W2 v2):=HK1.out.then pO;have hN3:=IE.out v2 _ kg 0 Ri.out hr2;clear PM pO hr2)
  | (go_at_call 144;refine hN3.mono ?_;rintro e v3 ⟨rfl,hr3,DT⟩
     have HK3:Hid (av (aQ (w1.heap.size+1)) W2 v3):=Ri.out.then DT;have hN4:=IE.out v3 _ ko 50 HK3.out hr3;clear hN3 DT hr3)
  | (go_at_call 144;refine hN4.mono ?_;rintro e v4 ⟨rfl,BP,xS⟩
     have HK4:Hid (av (aQ (w1.heap.size+1)) W2 v4):=HK3.out.then xS;have hN5:=IE.out v4 _ nR 50 HK4.out BP;clear hN4 xS BP)
  | (go_at_call 144;refine hN5.mono ?_;rintro e v5 ⟨rfl,hr5,CZ⟩
     have dR:Hid (av (aQ (w1.heap.size+1)) W2 v5):=HK4.out.then CZ;have hN6:=IE.out v5 _ ku 0 dR.out hr5;clear hN5 CZ hr5)
  | (go_at_call 144;refine hN6.mono ?_;rintro e v6 ⟨rfl,hr6,Pw⟩
     have NU:Hid (av (aQ (w1.heap.size+1)) W2 v6):=dR.out.then Pw;have hN7:=IE.out v6 _ nS 0 NU.out hr6;clear hN6 Pw hr6)
  | (go_at_call 144;refine hN7.mono ?_;rintro e v7 ⟨rfl,hr7,hk7⟩
     have PN:Hid (av (aQ (w1.heap.size+1)) W2 v7):=NU.out.then hk7;have hN8:=zbS.out v7 _ PN.out hr7;clear hN7 hk7 hr7)
  | (go_at_call 145;refine hN8.mono ?_;rintro e v8 ⟨⟨pu,cu,rfl,hru⟩,hr8,MH⟩
     have HK8:Hid (av (aQ (w1.heap.size+1)) W2 v8):=PN.out.then MH;have HRU:=(show Hid _ from hru);have hN9:=zbT.out v8 _ HK8.out hr8;clear hN8 MH hr8 hru)
  | (go_at_call 145;refine hN9.mono ?_;rintro e v9 ⟨⟨pt,ct,rfl,hrt⟩,hr9,F9⟩
     have HK9:Hid (av (aQ (w1.heap.size+1)) W2 v9):=HK8.out.then F9;have zbU:Hid (av (aQ (w1.heap.size+1)) v8 v9):=F9;have HRT:=(show Hid _ from hrt);have HR9:=(show Hid _ from hr9);clear hN9 F9 hr9 hrt))
 have hR9:=HR9.out;rw[<-HPB.out]at hR9;obtain⟨WE,AP⟩:∃WE,WE=v9.alloc (.cells (aY (oW j) ⟨pu,cu,pt,ct⟩).toArray 47):=⟨_,rfl⟩;have lD:Below v9.heap.size v9 WE:=by rw[AP];exact(Below.refl _ _).alloc (Nat.le_refl _) _
 have hL:WE.heap[v9.heap.size]?=some (.cells (aY (oW j) ⟨pu,cu,pt,ct⟩).toArray 47 (0,0)):=by rw[AP];exact bR _
 have hRE:dV WE (w1.heap.size+1) (.int .i64 kr) (.int .i64 ir) (.string tr) (.slice pr nr cr) (.slice qr mr dr) (kS j):=(lD.block _ (aO hR9)).trans hR9;have h9s:=HK9.out.size;have hZ:WE.heap[w.heap.size+1]?=some (.cells #[.int .i64 0,.int .i64 0,.int .i64 0,.int .i64 0,.int .i64 0,.int .i64 0,.int .i64 0,.slice none 0 0,.slice none 0 0] 47 (0,0)):=
  (lD.block _ (by omega)).trans ((HK9.out.block _ (by omega) (by unfold aQ;omega)).trans (HA1.out W2 l_.out))
 have SE:Below w.heap.size w WE:=ah (fQ.out.trans (HK9.out.below fQ.out.size fun q hq e=>by unfold aQ at e;omega)) lD;have PO:Hid (BK (fun b=>w.heap.size<=b/\b<WE.heap.size/\b≠w.heap.size+1) WE (oW j) ⟨pu,cu,pt,ct⟩):=by
  have h8:=HK8.out.size;have h89:=zbU.out.size;have hE:=lD.size;refine⟨je.carry HRU.out fun b hb=>⟨⟨by have:=hb.1;have:=PN.out.size;omega,by omega,by have:=hb.1;have:=PN.out.size;omega⟩,(lD.block b (by omega)).trans (zbU.out.block b hb.2 (by have:=hb.1;have:=PN.out.size;unfold aQ;omega))⟩,je.carry HRT.out fun b hb=>⟨⟨by have:=hb.1;omega,by omega,by have:=hb.1;omega⟩,lD.block b hb.2⟩⟩
 have r5:=ay hRE 5 _ rfl;have g0:=ay hZ 0 _ rfl;have g1:=ay hZ 1 _ rfl;have g2:=ay hZ 2 _ rfl;have g3:=ay hZ 3 _ rfl;have g4:=ay hZ 4 _ rfl;have g5:=ay hZ 5 _ rfl;have g6:=ay hZ 6 _ rfl;have g7:=ay hZ 7 _ rfl;have g8:=ay hZ 8 _ rfl;have z0:=ou hZ 0;have z1:=ou hZ 1;have z2:=ou hZ 2;have z3:=ou hZ 3;have z4:=ou hZ 4;have z5:=ou hZ 5;have z6:=ou hZ 6;have z7:=ou hZ 7;have z8:=ou hZ 8;have HZ:=(show Hid _ from hZ);have HPT:Hid (bQ j=if kS j then(AO,1)else(oW j,0)):=rfl;have zjL:=aO hZ;change Code.wp _ _ _ _ (v9.alloc (.cells (aY (oW j) ⟨pu,cu,pt,ct⟩).toArray 47));rw[<-AP]
 cases hpb:kS j with
 | true=>
  rw[hpb]at r5 HPT;clear AP hL hRE hR9 HR9 HPB hZ;go_wp2;have h9:=jI (b:=w.heap.size+1) [.int .i64 0,.int .i64 0,.int .i64 0,.int .i64 0,.int .i64 0,.int .i64 0,.int .i64 0,.slice none 0 0,.slice none 0 0] HZ.out rfl;have HK:=gV (w.heap.size+1) [.int .i64 0,.int .i64 0,.int .i64 0,.int .i64 0,.int .i64 0,.int .i64 0,.int .i64 0,.slice none 0 0,.slice none 0 0] WE 0;simp only[setL,Nat.zero_add,Nat.reduceAdd]at h9 HK;refine bodyPost_ret (bL rfl _ _ _ rfl (Ik h9)) rfl ?_;rw[HPT.out];exact⟨⟨⟨none,0,none,0⟩,rfl,je.nil _ _ _ _ fun _=>rfl,je.nil _ _ _ _ fun _=>rfl⟩,SE.trans (HK.below SE.size fun q hq e=>by unfold aQ at e;omega)⟩
 | false=>
  rw[hpb]at r5 HPT;have c0:=ay hL 0 _ rfl;have c1:=ay hL 1 _ rfl;have c2:=ay hL 2 _ rfl;have c3:=ay hL 3 _ rfl;have c4:=ay hL 4 _ rfl;have c5:=ay hL 5 _ rfl;have c6:=ay hL 6 _ rfl;have c7:=ay hL 7 _ rfl;have c8:=ay hL 8 _ rfl;clear AP hRE hR9 HR9 HPB hZ hL;generalize oW j=PL at c0 c1 c2 c3 c4 c5 c6 c7 c8 PO HPT;go_wp2;have h9:=jI (b:=w.heap.size+1) [.int .i64 PL.wN,.int .i64 PL.kX,.int .i64 PL.gN,.int .i64 PL.kQ,.int .i64 PL.state,.int .i64 PL.events,.int .i64 PL.mM,.slice pu PL.lS.length cu,.slice pt PL.lT.length ct] HZ.out rfl;have HK:=gV (w.heap.size+1) [.int .i64 PL.wN,.int .i64 PL.kX,.int .i64 PL.gN,.int .i64 PL.kQ,.int .i64 PL.state,.int .i64 PL.events,.int .i64 PL.mM,.slice pu PL.lS.length cu,.slice pt PL.lT.length ct] WE 0;simp only[setL,Nat.zero_add,Nat.reduceAdd]at h9 HK;refine bodyPost_ret (bL rfl _ _ _ rfl (Ik h9)) rfl ?_;rw[HPT.out];refine⟨⟨⟨pu,cu,pt,ct⟩,rfl,PO.out.carry fun b hb=>⟨⟨hb.1,Nat.lt_of_lt_of_le hb.2.1 HK.size⟩,HK.block b hb.2.1 (by unfold aQ;exact hb.2.2)⟩⟩,SE.trans (HK.below SE.size fun q hq e=>by unfold aQ at e;omega)⟩
end Go.Proofs.YtldegjjaknelgaaGreatDoor

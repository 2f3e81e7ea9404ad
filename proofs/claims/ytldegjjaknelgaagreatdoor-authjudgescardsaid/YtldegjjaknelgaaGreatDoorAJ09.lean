/- A part. -/
import Derived.Test.YtldegjjaknelgaaGreatDoorAJ08
import Derived.Lib.AppendZeros
import Derived.RangeFuncBound
import Derived.RangeFuncCalls
import Derived.RangeFuncLeaves
import Derived.Shelf.Abstract
import Derived.Shelf.RegionOpen
import Derived.OwnWalkIn
import Derived.TacticsInMore
import Derived.LoopNIn
import Derived.LoopIn
import Derived.Laws.StructEq
import Derived.Deep.CutRange
import Derived.Deep.CutBlock
set_option maxRecDepth 100000
set_option maxHeartbeats 64000000
namespace Go.Proofs.YtldegjjaknelgaaGreatDoor
open Go.RowKit Go.Maps
theorem Tryz.Rk:(Tryz.prog.info? 109).map (fun i=>(i.zero,i.size,i.bytes))=some (some (.agg #[.string ⟨#[]⟩,.int .i64 0]),2,24):=by kernel_rfl
theorem Ca:∀(l:jl) (u:Value),u∈flatN l->u.oneCell'=true
 | [],_,h=>by simp[flatN]at h
 | x::r,u,h=>by
  simp only[flatN,List.mem_cons]at h
  rcases h with rfl| rfl| h
  ·rfl
  ·rfl
  ·exact Ca r u h
theorem ib.cells{O:Nat->Prop}{w:World}{a:Addr}{c:Nat}{l:jl}(h:ib O w (some a) c l):∀j u,(flatN l)[j]?=some u->w.cell? (a.add j)=some u:=by
 intro j u hu
 by_cases hl:l= []
 ·subst hl;simp[flatN]at hu
 obtain⟨b,o,hp,_,hc⟩:=h.2 hl
 cases hp
 have hj:j<l.length*2:=by rw[<-nO];exact(List.getElem?_eq_some_iff.1 hu).1
 have hq:j / 2<l.length:=by omega
 have hx:=List.getElem?_eq_getElem hq;have hf:=zA l (j / 2) _ hx;have Oz:=hc (j / 2) _ hx;rw[Ow]
 rcases Nat.mod_two_eq_zero_or_one j with e| e
 ·rw[show j=j / 2*2 by omega]at hu;rw[hf.1]at hu
  cases hu
  rw[show o+j=o+j / 2*2 by omega];exact Oz.1
 ·rw[show j=j / 2*2+1 by omega]at hu;rw[hf.2]at hu
  cases hu
  rw[show o+j=o+j / 2*2+1 by omega];exact Oz.2
theorem bT{w:World}{bZ:Array Oper}{rest:List Oper}{o:Oper}{a:Act}{Q:Exit->Act->World->Prop}(tL:o.guard=none)(s x:Operand)
    (ho:o.op=.call {callee:=.builtin .append,args:=#[s,x],argTypes:=#[45,45]})
    (fB:Nat) (v:Value) (L:jl) (hs:a.eval s=v) (aN:w.ownsRow fB 109 2 v L.length (flatN L)) {O:Nat->Prop} {p:Option Addr} {c:Nat} {l:jl} (iK:ib O w p c l) (hx:a.eval x=.slice p l.length c)
    (fw:L.length<=100000000) (zkZ:l.length<=100000000) (mF:fB<=w.heap.size)
    (h:∀v' w',w'.ownsRow fB 109 2 v' (L++l).length (flatN (L++l))->w.grownBy w' v.ownBlock->wpList Tryz.prog bZ Q rest (a.put o.dst v') w'):wpList Tryz.prog bZ Q (o::rest) a w:=by
 obtain⟨i0,hi,rC,pR,nC⟩:=info_parts Tryz.Rk
 cases p with
 | none=>
  obtain rfl:c=0:=iK.1.2 rfl;have hl0:l= []:=List.eq_nil_of_length_eq_zero (by have:=iK.1.1;omega);subst hl0;refine wpList_append_own_none tL s x 45 ho fB 109 i0 2 Tryz.underlying45 hi v L.length (flatN L) hs aN hx (h v w ?_ ⟨rfl,rfl,rfl,Nat.le_refl _,fun _ _ _=>rfl⟩);rw[List.append_nil];exact aN
 | some ad=>
  refine wpList_append_own w tL s x 45 ho fB 109 i0 _ 2 24 Tryz.underlying45 hi rC pR nC rfl (by decide) v L.length (flatN L) hs aN ad l.length c (flatN l) hx (nO l) iK.cells (Ca l) (by unfold maxLen;omega) (by omega) mF ?_;intro v' w' uh mE _;exact h v' w' (by rw[List.length_append,uF];exact uh) mE
theorem wpList_append_run{w w':World}{bZ:Array Oper}{rest:List Oper}{o:Oper}{a:Act}{Q:Exit->Act->World->Prop}(tL:o.guard=none)(s x:Operand)(t u:TypeId)
    (ho:o.op=.call {callee:=.builtin .append,args:=#[s,x],argTypes:=#[t,u]}) {vs vx v':Value} (hs:a.eval s=vs) (hx:a.eval x=vx) (CL:(Builtin.append_ #[t,u] o.type #[vs,vx]).run Tryz.prog w=.ok v' w')
    (h:wpList Tryz.prog bZ Q rest (a.put o.dst v') w'):wpList Tryz.prog bZ Q (o::rest) a w:=by
 refine wpList_plain tL fun K hK=> ?_;unfold Oper.wp;simp[execOp,ho,resolve,invoke,builtin,hs,hx,CL,Result.andThen];exact hK _ _ h
theorem Rl{w:World}(n:Nat)(hn:n<=1000000):
    Calls Tryz.prog 170 #[.slice none 0 0,.int .i64 n] w fun e w'=>(∃v,e=.returned v/\w'.ownsRow w.heap.size 109 2 v 0 [])/\Below w.heap.size w w':=by
 obtain⟨i0,hi,rC,pR,nC⟩:=info_parts Tryz.Rk
 by_cases h0:n=0
 ·subst h0;go_enter Tryz.func170,Tryz.ntmps170;go_wp2;go_ret;exact⟨⟨_,rfl,World.ownsRow_nil _ _ _ _⟩,Below.refl _ _⟩
 ·have hr:=fun ty=>Lib.run_append_nil_zeros (P:=Tryz.prog) w 45 3 ty 109 i0 _ .i64 .i64 Tryz.underlying45 Tryz.underlying3 hi rC n (by omega) (by rw[pR];decide) (by omega) (by rw[nC];omega);have hge:=grownCap_ge w n 0 109;have Nl:=grownCap_le_maxLen w n 0 109 (by unfold maxLen;omega);have EN:(Builtin.zeroCells (Value.agg #[Value.string ⟨#[]⟩,Value.int .i64 0]).cells n++Builtin.zeroCells (Value.agg #[Value.string ⟨#[]⟩,Value.int .i64 0]).cells (grownCap w n 0 109 - n)).size=grownCap w n 0 109*2:=by
   rw[Array.size_append,size_zeroCells,size_zeroCells]
   show n*2+(grownCap w n 0 109 - n)*2=_
   omega
  have xB:=(show Hid _ from EN);clear EN;generalize (Builtin.zeroCells (Value.agg #[Value.string ⟨#[]⟩,Value.int .i64 0]).cells n++Builtin.zeroCells (Value.agg #[Value.string ⟨#[]⟩,Value.int .i64 0]).cells (grownCap w n 0 109 - n))=Z at hr xB;generalize grownCap w n 0 109=cap at hr hge Nl xB;go_enter Tryz.func170,Tryz.ntmps170;go_wp2_with(refine wpList_append_run rfl _ _ 45 3 rfl rfl rfl (hr _) ?_);go_ret;refine⟨⟨_,rfl,rfl,.inr ⟨w.heap.size,cap,Z,rfl,Nat.le_refl _,heap_alloc_new w.drew _,Nat.zero_le _,Nl,xB.out,by simp⟩⟩,⟨rfl,rfl,rfl,by simp,fun k hk=>Below.heap_alloc w.drew _ k hk⟩⟩
theorem Jw{O:Nat->Prop}{w:World}{p q:Option Addr}{c d g:Nat}{a b:jl}(ha:ib O w p c a)(hb:ib O w q d b)(hO:∀k,O k->k<w.heap.size)(uz:vU a)(xC:vU b)
    (h0:w.cell? ⟨g,0,none⟩=some (.slice p a.length c)) (h1:w.cell? ⟨g,1,none⟩=some (.slice q b.length d)) (hg:g<w.heap.size):
    Calls Tryz.prog 152 #[.slice (some ⟨g,0,none⟩) 2 2] w fun e w'=>(∃v,e=.returned v/\w'.ownsRow w.heap.size 109 2 v (a++b).length (flatN (a++b)))/\Below w.heap.size w w':=by
 obtain⟨na,Ep⟩:∃n,a.length=n:=⟨_,rfl⟩;obtain⟨nb,CO⟩:∃n,b.length=n:=⟨_,rfl⟩;have Jy:Hid (a.length=na):=Ep;have Xj:Hid (b.length=nb):=CO;have zgD:=uz.1;have zgE:=xC.1;rw[Ep]at h0 zgD;rw[CO]at h1 zgE;clear Ep CO;go_enter Tryz.func152,Tryz.ntmps152;go_wp2
 go_loopw [3,11] (fun s i wr=>wr=w/\((s=.int .i64 0/\i=.int .i64 0)\/ (s=.int .i64 na/\i=.int .i64 1)\/ (s=.int .i64 ((na+nb:Nat):Int)/\i=.int .i64 2))) (fun _ i _=>2 - (intOf i).toNat)
 case atStart=>exact⟨rfl,.inl ⟨rfl,rfl⟩⟩
 case round=>
  obtain⟨P_,⟨rfl,rfl⟩| ⟨rfl,rfl⟩| ⟨rfl,rfl⟩⟩:=hrel
  all_goals (rw[P_];clear P_ wr)
  ·go_wp2;go_roundw
   case rel=>exact⟨trivial,.inr (.inl ⟨by simp,rfl⟩)⟩
   case measure=>simp[intOf]
  ·go_wp2;go_roundw
   case rel=>exact⟨trivial,.inr (.inr ⟨by simp,rfl⟩)⟩
   case measure=>simp[intOf]
  ·have hG:=Rl (w:=w) (na+nb) (by omega);go_wp2_with(go_at_call 170;refine hG.mono ?_;rintro e w1 ⟨⟨v0,rfl,Fv⟩,aL⟩);have Xk:Hid (w.cell? ⟨g,0,none⟩=some (.slice p na c)):=h0;have pq:Hid (w.cell? ⟨g,1,none⟩=some (.slice q nb d)):=h1;have HA:Hid (ib O w p c a):=ha;have HB:Hid (ib O w q d b):=hb;clear hG h0 h1 ha hb
   go_loopw [6,27] (fun v i wx=>(∃k:Nat,i=.int .i64 k/\((k=0/\wx.ownsRow w.heap.size 109 2 v ([]:jl).length (flatN []))\/ (k=1/\wx.ownsRow w.heap.size 109 2 v a.length (flatN a))\/ (k=2/\wx.ownsRow w.heap.size 109 2 v (a++b).length (flatN (a++b)))))/\Below w.heap.size w wx) (fun _ i _=>2 - (intOf i).toNat)
   case atStart=>exact⟨⟨0,rfl,.inl ⟨rfl,Fv⟩⟩,aL⟩
   case round=>
    obtain⟨⟨k,rfl,hk⟩,ed⟩:=hrel;have h0r:=(ed.cell (p:=⟨g,0,none⟩) hg).trans Xk.out;have h1r:=(ed.cell (p:=⟨g,1,none⟩) hg).trans pq.out;have hsr:=ed.size
    rcases hk with⟨rfl,aN⟩| ⟨rfl,aN⟩| ⟨rfl,aN⟩
    ·have iK:=HA.out.below hO ed;have hx:=Jy.out;go_wp2_with(refine bT rfl _ _ rfl w.heap.size _ [] rfl aN iK (by rw[Jy.out];rfl) (by simp) (by rw[Jy.out];omega) hsr ?_;intro v2 w2 fe pU);go_roundw
     case rel=>exact⟨⟨1,rfl,.inr (.inl ⟨rfl,fe⟩)⟩,ed.grown pU hsr (fun k e=>(aN.lt k e).1)⟩
     case measure=>simp[intOf]
    ·have iK:=HB.out.below hO ed;go_wp2_with(refine bT rfl _ _ rfl w.heap.size _ a rfl aN iK (by rw[Xj.out];rfl) (by rw[Jy.out];omega) (by rw[Xj.out];omega) hsr ?_;intro v2 w2 fe pU);go_roundw
     case rel=>exact⟨⟨2,rfl,.inr (.inr ⟨rfl,fe⟩)⟩,ed.grown pU hsr (fun k e=>(aN.lt k e).1)⟩
     case measure=>simp[intOf]
    ·go_wp2;go_ret;exact⟨⟨_,rfl,aN⟩,ed⟩
open Go.RowKit Go.Maps Go.Shelf
section
attribute [local go_sem] Oper.semAt_some
structure Lay(W W':World):Prop where
 size:W.heap.size<=W'.heap.size
 same:∀(k:Nat) (o:Obj),W.heap[k]?=some o->(o.isCells=true\/ o.isWalk=true)->W'.heap[k]?=some o
theorem Lay.refl(W:World):Lay W W:=⟨Nat.le_refl _,fun _ _ h _=>h⟩
theorem Lay.trans{A B C:World}(h:Lay A B)(k:Lay B C):Lay A C:=⟨Nat.le_trans h.size k.size,fun i o hi ho=>k.same i o (h.same i o hi ho) ho⟩
theorem Lay.putObj(W:World)(l:Nat)(o o':Obj)(h:W.heap[l]?=some o)(hc:o.isCells=false)(hw:o.isWalk=false):Lay W (W.putObj l o'):=by
 have hg:=grownBy_putObj' W l o';refine⟨hg.size,fun k x hk hx=> ?_⟩
 by_cases e:k=l
 ·subst e;rw[hk]at h
  cases h
  rcases hx with hx| hx
  ·rw[hc]at hx;cases hx
  ·rw[hw]at hx;cases hx
 ·exact(hg.block k (Array.getElem?_eq_some_iff.1 hk).1 (fun h=>e (Option.some.inj h))).trans hk
theorem Lay.bq{W W':World}(h:Below W.heap.size W W'):Lay W W':=⟨h.size,fun k _ hk _=>(h.block k (Array.getElem?_eq_some_iff.1 hk).1).trans hk⟩
theorem Lay.map{W W':World}{M:Nat}{l:jl}(h:iC W M l)(k:Lay W W'):iC W' M l:=by
 obtain⟨o,ho,hw,_⟩:=h.walk;exact h.same ((k.same M o ho (.inr hw)).trans ho.symm)
theorem Lay.rdN{W W':World}{O:Nat->Prop}{p:Option Addr}{c:Nat}{l:jl}(h:ib O W p c l)(k:Lay W W'):ib O W' p c l:=by
 refine⟨h.1,fun hn=> ?_⟩;obtain⟨b,o,hp,hb,hc⟩:=h.2 hn;have key:∀j v,W.cell? ⟨b,j,none⟩=some v->W'.cell? ⟨b,j,none⟩=some v:=fun j v hv=>by
  cases e:W.heap[b]? with
  | none=>simp[World.cell?,e]at hv
  | some ob=>
   cases ob with
   | cells cs t fr=>rw[<-hv];exact World.cell?_of_block ((k.same b _ e (.inl rfl)).trans e.symm)
   | _=>simp[World.cell?,e]at hv
 exact⟨b,o,hp,hb,fun j x hj=>⟨key _ _ (hc j x hj).1,key _ _ (hc j x hj).2⟩⟩
theorem qW{w:World}{B:Nat}{v:Value}{l:jl}(h:w.ownsRow B 109 2 v l.length (flatN l)):∃p c,v=.slice p l.length c/\ib (fun k=>B<=k/\k<w.heap.size) w p c l:=by
 rcases h.2 with⟨rfl,hn⟩| ⟨g,cap,cur,rfl,hb,hg,hnc,_,Io,ht⟩
 ·obtain rfl:l= []:=List.eq_nil_of_length_eq_zero hn;exact⟨none,0,rfl,ib.nil _ _ _ _ fun _=>rfl⟩
 ·refine⟨some ⟨g,0,none⟩,cap,rfl,Q8 (cur:=cur.toList) ⟨hb,aP hg⟩ (by simpa using hg) hnc fun j hj=> ?_⟩;rw[<-ht,List.getElem?_take,Nat.zero_add];rw[if_pos (by rw[nO]at hj;exact hj)]
theorem Jz:Tryz.prog.underlying 141=some (.struct (Tryz.prog.fieldsOf 141)):=by kernel_rfl
theorem OA:Tryz.prog.stoodInHeld 141=false:=by kernel_rfl
theorem Vb:(Tryz.prog.fieldsOf 141).toList= [{name:= "has",type:=4,offset:=0,embedded:=false,tag:= "",pkgPath:= "agora/power",byteOffset:=0},{name:= "level",type:=2,offset:=1,embedded:=false,tag:= "",pkgPath:= "agora/power",byteOffset:=8}]:=by kernel_rfl
theorem Rm(w:World)(x y:Option Int):(binOp .neq 141 (.agg #[.bool x.isSome,.int .i64 (x.getD 0)]) (.agg #[.bool y.isSome,.int .i64 (y.getD 0)])).run Tryz.prog w=.ok (.bool (!(x==y))) w:=by
 have h4:Tryz.prog.underlying 4=some .bool:=by kernel_rfl
 have h2:Tryz.prog.underlying 2=some (.int .i64):=by kernel_rfl
 rw[run_neq_struct,run_equalIn_agg w 9999 141 _ _ Jz OA,Vb];have p0:∀W (b:Bool) (m:Int),(part 4 #[.bool b,.int .i64 m] 0).run Tryz.prog W=.ok (.bool b) W:=fun W b m=>by simp[go_sem,part]
 have p1:∀W (b:Bool) (m:Int),(part 2 #[.bool b,.int .i64 m] 1).run Tryz.prog W=.ok (.int .i64 m) W:=fun W b m=>by simp[go_sem,part]
 have e0:∀(W:World) (a b:Bool),(Op.equalIn 9999 4 (.bool a) (.bool b)).run Tryz.prog W=.ok (a==b) W:=fun W a b=>run_equalIn_bool' W 9998 4 a b h4;have e1:∀(W:World) (a b:Int),(Op.equalIn 9999 2 (.int .i64 a) (.int .i64 b)).run Tryz.prog W=.ok (a==b) W:=fun W a b=>run_equalIn_int W 9998 2 .i64 .i64 a b h2
 cases x with
 | none=>
  cases y with
  | none=>simp[Op.eqFields,p0,p1,e0,e1,Result.andThen]
  | some y=>simp[Op.eqFields,p0,e0,Result.andThen]
 | some x=>
  cases y with
  | none=>simp[Op.eqFields,p0,e0,Result.andThen]
  | some y=>by_cases h:x=y<;>simp[Op.eqFields,p0,p1,e0,e1,Result.andThen,h]
theorem Rn(x:Option Int):heldV x=.agg #[.bool x.isSome,.int .i64 (x.getD 0)]:=by cases x<;>rfl
theorem uJ{w w':World}(h:Below w.heap.size w w'):w.grownBy w' none:=⟨h.os,h.tape,h.output,h.size,fun k hk _=>h.block k hk⟩
theorem Vd{α:Type}(f:α->iw):∀(l:List α) (k:Nat),((l.take k).map f).filter iw.turns<+:(l.map f).filter iw.turns
 | l,k=>by
  conv=>rhs;rw[<-List.take_append_drop k l,List.map_append,List.filter_append]
  exact List.prefix_append _ _
theorem sO{w:World}(p q:Option Addr)(n c m d:Nat):
    Calls Tryz.prog 124 #[.slice p n c,.slice q m d] w fun e w'=>e=.returned (.func (.func 150) #[] #[.pointer (some ⟨w.heap.size,0,none⟩),.pointer (some ⟨w.heap.size+1,0,none⟩)])/\w'=(w.alloc (.cells #[.slice p n c] 45)).alloc (.cells #[.slice q m d] 45):=by
 go_enter Tryz.func124,Tryz.ntmps124;go_wp2;go_ret;exact⟨rfl,rfl⟩
theorem JA(n l B1 B2:Nat)(hn:1<=n){O:Nat->Prop}{a b:jl}{p q:Option Addr}{c d:Nat}(J Jx:List iw->World->Prop)(W:World)(hJ:AbidesFrom W.heap.size J)
    (ha:ib O W p c a) (hb:ib O W q d b) (hO:∀k,O k->k<W.heap.size) (uz:vU a) (xC:vU b)
    (h1:W.cell? ⟨B1,0,none⟩=some (.slice p a.length c)) (h2:W.cell? ⟨B2,0,none⟩=some (.slice q b.length d)) (tQ:B1<W.heap.size) (ko:B2<W.heap.size)
    (hY:∀pre x W1,J pre W1->pre.length<(a++b).length->YieldAt Fence.wide (n - 1) Tryz.prog l #[lC x] W1 fun e W'=>(e=.returned (.bool true)/\J (pre++ [x]) W'/\Lay W1 W')\/ (e=.returned (.bool false)/\Jx (pre++ [x]) W'))
    (h0:J [] W):
    CallsIn Fence.wide n Tryz.prog 150 #[.func (.yield l) #[] #[],.pointer (some ⟨B1,0,none⟩),.pointer (some ⟨B2,0,none⟩)] W fun e W'=>(∃v,e=.returned v)/\((∃xs,xs=yz a b (a++b)/\J xs W')\/ (∃pre,pre<+:yz a b (a++b)/\Jx pre W')):=by
 refine callsIn_wide.2 ?_;have Xl:Hid (∀X,Below W.heap.size W X->Calls Tryz.prog 151 #[.slice p a.length c] X fun e w'=>(∃M,e=.returned (.map (some M))/\X.heap.size<=M/\iC w' M a)/\Below X.heap.size X w'):=fun X hX=>zG (ha.below hO hX) (fun k hk=>Nat.lt_of_lt_of_le (hO k hk) hX.size) uz;have sN:Hid (∀X,Below W.heap.size W X->Calls Tryz.prog 151 #[.slice q b.length d] X fun e w'=>(∃M,e=.returned (.map (some M))/\X.heap.size<=M/\iC w' M b)/\Below X.heap.size X w'):=fun X hX=>zG (hb.below hO hX) (fun k hk=>Nat.lt_of_lt_of_le (hO k hk) hX.size) xC;have MP:Hid (∀X,Below W.heap.size W X->X.cell? ⟨B1,0,none⟩=some (.slice p a.length c)/\X.cell? ⟨B2,0,none⟩=some (.slice q b.length d)):=fun X hX=>⟨(hX.cell (p:=⟨B1,0,none⟩) tQ).trans h1,(hX.cell (p:=⟨B2,0,none⟩) ko).trans h2⟩;have HCo:Hid (∀X g,Below W.heap.size W X->X.heap[g]?=some (.cells #[.slice p a.length c,.slice q b.length d] 45 (0,0))->Calls Tryz.prog 152 #[.slice (some ⟨g,0,none⟩) 2 2] X fun e w'=>(∃v,e=.returned v/\w'.ownsRow X.heap.size 109 2 v (a++b).length (flatN (a++b)))/\Below X.heap.size X w'):=fun X g hX hg=>
  Jw (ha.below hO hX) (hb.below hO hX) (fun k hk=>Nat.lt_of_lt_of_le (hO k hk) hX.size) uz xC (ai hg 0 _ rfl) (ai hg 1 _ rfl) (aP hg)
 obtain⟨na,Ep⟩:∃n,a.length=n:=⟨_,rfl⟩;obtain⟨nb,CO⟩:∃n,b.length=n:=⟨_,rfl⟩;rw[Ep]at Xl MP HCo;rw[CO]at sN MP HCo;have Jy:Hid (a.length=na):=Ep;have Xj:Hid (b.length=nb):=CO;have HAB:Hid (vU a/\vU b):=⟨uz,xC⟩;have HJ0:Hid (J [] W):=h0;have HJ:Hid (AbidesFrom W.heap.size J):=hJ;have HY:Hid (∀pre x W1,J pre W1->pre.length<(a++b).length->YieldAt Fence.wide (n - 1) Tryz.prog l #[lC x] W1 fun e W'=>(e=.returned (.bool true)/\J (pre++ [x]) W'/\Lay W1 W')\/ (e=.returned (.bool false)/\Jx (pre++ [x]) W')):=hY;clear Ep CO ha hb uz xC h1 h2 h0 hJ hY;obtain⟨ab,jQ⟩:∃ab,a++b=ab:=⟨_,rfl⟩;have HZ:Hid (vU a/\vU b):=HAB;have HL:Hid (ab.length=na+nb/\na<=100000/\nb<=100000):=⟨by rw[<-jQ,List.length_append,Jy.out,Xj.out],by have:=HZ.out.1.1;have:=Jy.out;omega,by have:=HZ.out.2.1;have:=Xj.out;omega⟩;have uK:Hid (∀k,k<ab.length->Ub (ab.getD k zN).1):=fun k hk=>by
  apply Ri
  rw[List.getD_eq_getElem?_getD,List.getElem?_eq_getElem hk];have:ab[k]∈a++b:=by rw[jQ];exact List.getElem_mem hk
  rcases List.mem_append.1 this with h| h
  ·exact HZ.out.1.2 _ h
  ·exact HZ.out.2.2 _ h
 rw[jQ]at HCo HY ⊢;clear jQ;go_enter Tryz.func150,Tryz.ntmps150
 go_upto_region 0 with fail
 refine aI (by kernel_rfl) (fun w'=>Below W.heap.size W w') ?_;change wpIn _ _ _ _ _ _ _ _ (World.drew _);have hD:Below W.heap.size W W.drew:=(Below.refl _ _).drew;refine aC (i:=0) (d:=some 9) rfl (by(intro wq hq;obtain⟨z1,z2⟩:=MP.out wq hq;go_simp;first| done| with_reducible rfl)) ?_;refine aC (i:=2) (d:=some 11) rfl (by(intro wq hq;obtain⟨z1,z2⟩:=MP.out wq hq;go_simp;first| done| with_reducible rfl)) ?_;refine ax (i:=1) hD rfl ?_;intro K hK;go_simp;go_wp2_with(go_at_call 151;refine(Xl.out _ hD).mono ?_;rintro e w1 ⟨⟨M,rfl,hM0,hM⟩,aL⟩);have iG:Below W.heap.size W w1:=ag hD aL;refine ax (i:=3) iG rfl ?_;intro K hK;go_simp;go_wp2_with(go_at_call 151;refine(sN.out _ iG).mono ?_;rintro e w2 ⟨⟨N,rfl,hN0,hN⟩,aY⟩);have Ve:Below W.heap.size W w2:=ag iG aY;refine aa (i:=4) (d:=some 4) rfl ?_;refine aa (i:=5) (d:=some 5) rfl ?_;refine aH Ve (by kernel_rfl) ?_ _;obtain⟨z1,z2⟩:=MP.out w2 Ve;have bM:Below W.heap.size W (w2.alloc (.cells #[.slice p na c,.slice q nb d] 45)):=ag Ve ((Below.refl _ _).alloc (Nat.le_refl _) _);have hCo:=HCo.out _ w2.heap.size bM (bz _);have HM:Hid (iC w2 M a):=hM.same (aY.block M hM.lt);have HN:Hid (iC w2 N b):=hN;clear aL aY hM hN Xl sN MP HCo;obtain⟨n',U8⟩:∃m,ab.length=m:=⟨_,rfl⟩;have HN':Hid (ab.length=n'):=U8;have CO:n'<=200000:=by have:=HL.out;omega
 rw[U8]at hCo;clear U8;go_wp2_with(go_at_call 152;refine hCo.mono ?_;rintro e w3 ⟨⟨v,rfl,aN⟩,df⟩;rw[<-HN'.out]at aN;obtain⟨pr,cr,rfl,iK⟩:=qW aN;rw[HN'.out]);have uL:Below W.heap.size W w3:=ag bM df;have Vf:Hid (iC w3 M a):=(HM.out.same (Below.heap_alloc _ _ _ HM.out.lt)).same (df.block M (by have:=HM.out.lt;simp;omega));have HN3:Hid (iC w3 N b):=(HN.out.same (Below.heap_alloc _ _ _ HN.out.lt)).same (df.block N (by have:=HN.out.lt;simp;omega));have HR3:Hid (ib (fun k=>(w2.alloc (.cells #[.slice p na c,.slice q nb d] 45)).heap.size<=k/\k<w3.heap.size) w3 pr cr ab):=iK;have hc3:=iK.1.1;rw[HN'.out]at hc3;clear iK aN z1 z2 hCo hD iG Ve HM HN
 go_loopw [18] (fun i wr=>∃k:Nat,i=.int .i64 k/\k<=n'/\J (yz a b (ab.take k)) wr/\Lay w3 wr) (fun i _=>n' - (intOf i).toNat)
 case atStart=>exact⟨0,rfl,Nat.zero_le _,HJ.out [] W w3 none HJ0.out (uJ uL) (fun r e=>by cases e),Lay.refl _⟩
 case round=>
  obtain⟨k,rfl,hk,hj,Y1⟩:=hrel
  by_cases mW:k<n'
  ·have eQ:k<ab.length:=by rw[HN'.out];exact mW
   obtain⟨rb,ro,rfl,_,g1,g2⟩:=(Lay.rdN HR3.out Y1).at eQ;have jv:=uK.out k eQ;have HT:Hid (ab.take (k+1)=ab.take k++ [ab.getD k zN]):=jZ eQ;generalize ab.getD k zN=x at g1 g2 HT jv;obtain⟨xn,xl⟩:=x;simp only at g1 g2 jv;have zel:=((Lay.map Vf.out Y1).same (w':=wr.alloc (.cells #[.string xn,.int .i64 xl] 109)) (Below.heap_alloc _ _ _ (Lay.map Vf.out Y1).lt)).look jv;have zem:=((Lay.map HN3.out Y1).same (w':=wr.alloc (.cells #[.string xn,.int .i64 xl] 109)) (Below.heap_alloc _ _ _ (Lay.map HN3.out Y1).lt)).look jv;rw[Rn]at zel zem;have HCH:Hid (yz a b (ab.take (k+1))=if(iw.turns ⟨xn,fnd a xn,fnd b xn⟩)=true then yz a b (ab.take k)++ [⟨xn,fnd a xn,fnd b xn⟩]else yz a b (ab.take k)):=by show _=_;rw[HT.out,Q6];rfl
   have HPR:Hid (yz a b (ab.take (k+1))<+:yz a b ab):=Vd _ _ _;have vB:Hid ((yz a b (ab.take k)).length<ab.length):=by
    show _<_
    have:=U7 a b (ab.take k);rw[List.length_take]at this;omega
   generalize fnd a xn=oa at zel HCH;generalize fnd b xn=ob at zem HCH;have zlW:=Rm;have ny:Below wr.heap.size wr ((wr.alloc (.cells #[.string xn,.int .i64 xl] 109)).alloc (.cells #[.string xn,.bool oa.isSome,.int .i64 (oa.getD 0),.bool ob.isSome,.int .i64 (ob.getD 0)] 143)):=((Below.refl _ _).alloc (Nat.le_refl _) _).alloc (by simp) _;have hj5:=HJ.out _ _ _ none hj (uJ ny) (fun r e=>by cases e)
   cases ht:(!(oa==ob))with
   | true=>
    have pq:Hid (yz a b (ab.take (k+1))=yz a b (ab.take k)++ [⟨xn,oa,ob⟩]):=by show _=_;rw[HCH.out,if_pos (show iw.turns ⟨xn,oa,ob⟩=true from ht)]
    obtain⟨fn,tm,asg,bod,hy,hR⟩:=HY.out _ ⟨xn,oa,ob⟩ _ hj5 vB.out;simp only[lC,gD]at hy;refine(wpIn_wide (n:=n)).1 ?_
    gi_wp2
    refine hR.mono ?_;rintro e W6 (⟨rfl,hJ6,hk6⟩| ⟨rfl,zgF⟩)
    ·gi_wp2
     go_roundw
     case rel=>exact⟨k+1,by simp,by omega,by rw[pq.out];exact hJ6,(Y1.trans (Lay.bq ny)).trans hk6⟩
     case measure=>simp[intOf];omega
    ·gi_wp2
     refine bodyPost_ret (results_none rfl _ _ _) rfl ?_;exact⟨⟨_,rfl⟩,.inr ⟨_,HPR.out,by rw[pq.out];exact zgF⟩⟩
   | false=>
    have pq:Hid (yz a b (ab.take (k+1))=yz a b (ab.take k)):=by show _=_;rw[HCH.out,if_neg (by unfold iw.turns;rw[ht];decide)]
    go_wp2;go_roundw
    case rel=>exact⟨k+1,by simp,by omega,by rw[pq.out];exact hj5,Y1.trans (Lay.bq ny)⟩
    case measure=>simp[intOf];omega
  ·obtain rfl:k=n':=by omega
   have HJE:Hid (J (yz a b ab) wr):=by show J _ _;rw[<-List.take_length (l:=ab),HN'.out];exact hj
   clear hj;go_wp2
   go_end0
   exact⟨⟨_,rfl⟩,.inl ⟨_,rfl,HJE.out⟩⟩
theorem Fw(n B1 B2:Nat)(hn:1<=n){O:Nat->Prop}{a b:jl}{p q:Option Addr}{c d:Nat}{w:World}
    (ha:ib O w p c a) (hb:ib O w q d b) (hO:∀k,O k->k<w.heap.size) (uz:vU a) (xC:vU b)
    (h1:w.cell? ⟨B1,0,none⟩=some (.slice p a.length c)) (h2:w.cell? ⟨B2,0,none⟩=some (.slice q b.length d)) (tQ:B1<w.heap.size) (ko:B2<w.heap.size):
    SeqStopsK Fence.wide n Tryz.prog 150 #[.pointer (some ⟨B1,0,none⟩),.pointer (some ⟨B2,0,none⟩)] (fun x:iw=>#[lC x]) Lay (fun ys=>ys=yz a b (a++b)) (fun pre=>pre<+:yz a b (a++b)) (a++b).length w:=fun l J Jx W hW hJ _ hY h0=>
 JA n l B1 B2 hn J Jx W hJ (ha.below hO hW) (hb.below hO hW) (fun k hk=>Nat.lt_of_lt_of_le (hO k hk) hW.size) uz xC ((hW.cell (p:=⟨B1,0,none⟩) tQ).trans h1) ((hW.cell (p:=⟨B2,0,none⟩) ko).trans h2) (Nat.lt_of_lt_of_le tQ hW.size) (Nat.lt_of_lt_of_le ko hW.size) hY h0
end
open Go.RowKit
def kH(s:ByteArray):Bool:=(Id.parts 64 s).2.2
def lZ(s:ByteArray):Bool:=Id.aR s
theorem JB{w:World}(s:ByteArray)(hs:s.size<=1000000000):Calls Tryz.prog 146 #[.string s] w fun e w'=>e=.returned (.bool (kH s))/\Below w.heap.size w w':=by
 have hU:=Id.p_ s w (by omega);unfold kH;generalize Id.parts 64 s=x at hU;obtain⟨x1,x2,x3⟩:=x;simp only[Id.told]at hU;go_enter Tryz.func146,Tryz.ntmps146;go_wp2_with(go_at_call 84;refine hU.mono ?_;rintro e w1 ⟨rfl,aL⟩);go_ret;exact⟨rfl,aL⟩
theorem JC{w:World}(s:ByteArray)(hs:s.size<=1000000000):Calls Tryz.prog 130 #[.string s] w fun e w'=>e=.returned (.bool (lZ s))/\Below w.heap.size w w':=Id.Ex s w (by omega)
def rowsOf(v:J):jl:=(v.ks.zip v.ls).map fun q=>(q.1,q.2.nm)
def fG(fit:ByteArray->Bool)(q:ByteArray×J):Bool:= !fit q.1 || !lu q.2.kd q.2.nm
def rowT(fit:ByteArray->Bool):Option J->jl×Bool
 | none=>([],false)
 | some v=>(rowsOf v, !decide (v.kd=5) || (v.ks.zip v.ls).any (fG fit))
theorem Dc{ks:List ByteArray}{l:List J}{n:Nat}(h:n<ks.length)(hl:ks.length<=l.length):(ks.zip l).take (n+1)=(ks.zip l).take n++ [(ks.getD n aT,l.getD n J.zero)]:=by
 have hz:n<(ks.zip l).length:=by rw[List.length_zip];omega
 rw[jZ (z:=(aT,J.zero)) hz]
 congr 2
 rw[List.getD_eq_getElem?_getD,List.getElem?_eq_getElem hz];simp only[List.getElem_zip,Option.getD_some];rw[List.getD_eq_getElem?_getD,List.getElem?_eq_getElem h,List.getD_eq_getElem?_getD,List.getElem?_eq_getElem (by omega:n<l.length)]
 rfl
theorem OB{O:Nat->Prop}{w:World}{Rb d:Nat}{j:J}{k i:Int}{t:ByteArray}{pk pl:Option Addr}{nk ck nl cl:Nat}{bad:Bool}(hR:eO w Rb (.int .i64 k) (.int .i64 i) (.string t) (.slice pk nk ck) (.slice pl nl cl) bad)
    (hj:isJ O w j [.int .i64 k,.int .i64 i,.string t,.slice pk nk ck,.slice pl nl cl]) (hO:∀x,O x->x<w.heap.size/\x≠Rb) (jv:Ju (d+2) j) (s:ByteArray):
    Calls Tryz.prog 145 #[.pointer (some ⟨Rb,0,none⟩),.string s,.func (.func 146) #[] #[]] w fun e w'=>(∃p c,e=.returned (.slice p (rowT kH (lookV j.ks j.ls s)).1.length c)/\ib (fun b=>w.heap.size<=b/\b<w'.heap.size) w' p c (rowT kH (lookV j.ks j.ls s)).1)/\eO w' Rb (.int .i64 k) (.int .i64 i) (.string t) (.slice pk nk ck) (.slice pl nl cl) (bad || (rowT kH (lookV j.ks j.ls s)).2)/\ay (aJ Rb) w w':=by
 have hU:=vW hR hj (fun x hx=>(hO x hx).1) jv s;have HR:Hid (∀X,Below w.heap.size w X->eO X Rb (.int .i64 k) (.int .i64 i) (.string t) (.slice pk nk ck) (.slice pl nl cl) bad):=fun X hX=>(hX.block Rb (aP hR)).trans hR;have bQ:=aP hR;have uK:Hid (∀v,lookV j.ks j.ls s=some v->Ju (d+1) v):=fun v hv=>by
  obtain⟨_,_,_,_,_⟩:=j;exact jv.parts.2.2.2.2.2 v (j5 hv)
 clear hR hj jv;generalize lookV j.ks j.ls s=o at hU uK
 cases o with
 | none=>
  go_enter Tryz.func145,Tryz.ntmps145;go_wp2_with(go_at_call 166;refine hU.mono ?_;rintro e w1 ⟨he,aL⟩;replace he:e=_:=he;subst he);go_ret;have gU:=ag aL ((Below.refl _ _).alloc (Nat.le_refl _) (.cells #[.int .i64 0,.int .i64 0,.string ⟨#[]⟩,.slice none 0 0,.slice none 0 0] 25));refine⟨⟨none,0,rfl,ib.nil _ _ _ _ fun _=>rfl⟩, ?_,ay.bq gU⟩;simp only[rowT,Bool.or_false];exact HR.out _ gU
 | some v=>
  have zH:=uK.out v rfl;obtain⟨kv,iv,tv,ks,ls⟩:=v;have mW:=zH.parts.2.2.2.1;have Vg:Hid (∀x∈ks,x.size<=1000000000):=zH.parts.2.2.2.2.1;have Fs:Hid (ks.length<=ls.length):=zH.lens;have Xm:Hid (kv≠5->ks= []):=zH.parts.2.2.1;clear zH uK;obtain⟨nv,zI⟩:∃n,ks.length=n:=⟨_,rfl⟩;obtain⟨mv,JD⟩:∃n,ls.length=n:=⟨_,rfl⟩;have Bc:Hid (ks.length=nv):=zI;have JE:Hid (ls.length=mv):=JD;rw[zI]at mW;clear zI JD;go_enter Tryz.func145,Tryz.ntmps145
  go_upto_region 2 with(go_at_call 166;refine hU.mono ?_;rintro e w1 ⟨⟨Ro,Rp,Rq,pv,nv',cv,qv,Vh,dv,rfl,hv⟩,aL⟩;obtain⟨rfl,rfl,rfl,rfl,rfl,vP,hvc,hvs⟩:=bU hv;rw[Bc.out,JE.out];rw[JE.out]at hvc;clear hv)
  obtain⟨W1,pW⟩:∃W1,W1=w1.alloc (.cells #[.int .i64 Ro,.int .i64 Rp,.string Rq,.slice pv nv cv,.slice qv mv dv] 25):=⟨_,rfl⟩;have ny:Below w.heap.size w W1:=by rw[pW];exact ag aL ((Below.refl _ _).alloc (Nat.le_refl _) _)
  have Xn:=aL.size;have hX:W1.heap[w1.heap.size]?=some (.cells #[.int .i64 Ro,.int .i64 Rp,.string Rq,.slice pv nv cv,.slice qv mv dv] 25 (0,0)):=by rw[pW];exact bz _
  have hsW:w1.heap.size<W1.heap.size:=aP hX;have xD:Hid (eO W1 Rb (.int .i64 k) (.int .i64 i) (.string t) (.slice pk nk ck) (.slice pl nl cl) bad):=HR.out W1 ny;have Rs:Hid (∀x,O x->x<W1.heap.size/\x≠Rb):=fun x hx=>⟨Nat.lt_of_lt_of_le (hO x hx).1 ny.size,(hO x hx).2⟩;have Y2:Hid (jP O W1 pv cv ks):=vP.carry fun x hx=>⟨hx,(by rw[pW];exact Below.heap_alloc _ _ _ (Nat.lt_of_lt_of_le (hO x hx).1 aL.size))⟩;have Y3:Hid (isJs O W1 qv 0 ls):=isJs.carry (fun x hx=>⟨hx,(by rw[pW];exact Below.heap_alloc _ _ _ (Nat.lt_of_lt_of_le (hO x hx).1 aL.size))⟩) qv 0 ls hvs;have CU:=vP.1;rw[Bc.out]at CU;have b0:=ai hX 0 _ rfl;have b3:=ai hX 3 _ rfl;have r5:=ai xD.out 5 _ rfl;have rz:=gB xD.out 5;rw[<-pW];clear vP hvs hU pW aL
  by_cases Cb:Ro=5
  ·subst Cb;go_wp2;have yc:Hid (W1.heap[w1.heap.size]?=some (.cells #[.int .i64 5,.int .i64 Rp,.string Rq,.slice pv nv cv,.slice qv mv dv] 25 (0,0))):=hX;clear r5 rz b0 b3 hX
   go_loopw [9,29] (fun v x wx=>∃n:Nat,x=.int .i64 n/\n<=nv/\wx.ownsRow W1.heap.size 109 2 v (((ks.zip ls).take n).map fun q=>(q.1,q.2.nm)).length (flatN (((ks.zip ls).take n).map fun q=>(q.1,q.2.nm)))/\eO wx Rb (.int .i64 k) (.int .i64 i) (.string t) (.slice pk nk ck) (.slice pl nl cl) (bad || ((ks.zip ls).take n).any (fG kH))/\ay (aJ Rb) W1 wx) (fun _ x _=>nv - (intOf x).toNat)
   case atStart=>exact⟨0,rfl,Nat.zero_le _,World.ownsRow_nil _ _ _ _,by simpa using xD.out,ay.refl _ _⟩
   case round=>
    obtain⟨n,rfl,hn,aN,iK,MQ⟩:=hrel;have HF:Hid (∀X,ay (aJ Rb) W1 X->X.cell? ⟨w1.heap.size,4,none⟩=some (.slice qv mv dv)):=fun X hX=>(World.cell?_of_block (a:=⟨w1.heap.size,4,none⟩) (hX.block w1.heap.size hsW (by unfold aJ;omega))).trans (ai yc.out 4 _ rfl)
    by_cases zI:n<nv
    ·have kX:n<ks.length:=by rw[Bc.out];exact zI
     have Xd:n<mv:=by have:=Fs.out;rw[Bc.out,JE.out]at this;omega
     have HT:Hid ((ks.zip ls).take (n+1)=(ks.zip ls).take n++ [(ks.getD n aT,ls.getD n J.zero)]):=Dc kX Fs.out;obtain⟨ad,rfl,qR,zL⟩:=Y2.out.2 n kX;have A9:wr.cell? (ad.add n)=some (.string (ks.getD n aT)):=(World.cell?_of_block (by rw[bK];exact MQ.block _ (Rs.out _ qR).1 (by unfold aJ;exact(Rs.out _ qR).2))).trans zL;have zM:(ks.getD n aT).size<=1000000000:=by rw[List.getD_eq_getElem?_getD,List.getElem?_eq_getElem kX];exact Vg.out _ (List.getElem_mem kX)
     obtain⟨lb,lo,cs,tO,lY,bC,iL⟩:=isJs.at ls 0 n Y3.out (by rw[JE.out];exact Xd);subst tO;obtain⟨ke,ie,te,pe,ne,ce,qe,me,de,rfl⟩:=dw iL;have HE:Hid ((ls.getD n J.zero).kd=ke/\(ls.getD n J.zero).nm=ie):=by
      generalize ls.getD n J.zero=y at iL;obtain⟨_,_,_,_,_⟩:=y;obtain⟨rfl,rfl,_⟩:=bU iL;exact⟨rfl,rfl⟩
     have HC:Hid (∀X,ay (aJ Rb) W1 X->X.cell? ⟨lb,lo+n*5,none⟩=some (.int .i64 ke)/\X.cell? ⟨lb,lo+n*5+1,none⟩=some (.int .i64 ie)/\X.cell? ⟨lb,lo+n*5+2,none⟩=some (.string te)/\X.cell? ⟨lb,lo+n*5+3,none⟩=some (.slice pe ne ce)/\X.cell? ⟨lb,lo+n*5+4,none⟩=some (.slice qe me de)):=fun X hX=>by
      have cc:∀m v, [Value.int .i64 ke,.int .i64 ie,.string te,.slice pe ne ce,.slice qe me de][m]?=some v->X.cell? ⟨lb,lo+n*5+m,none⟩=some v:=fun m v h=>by
       have:=bC m v h;rw[Nat.zero_add]at this;exact(World.cell?_of_block (a:=⟨lb,lo+n*5+m,none⟩) (hX.block lb (Rs.out lb lY).1 (by unfold aJ;exact(Rs.out lb lY).2))).trans this
      exact⟨cc 0 _ rfl,cc 1 _ rfl,cc 2 _ rfl,cc 3 _ rfl,cc 4 _ rfl⟩
     have HB:Hid (∀b,b=(bad || ((ks.zip ls).take n).any (fG kH))->(b || (!kH (ks.getD n aT) || !lu ke ie))=(bad || ((ks.zip ls).take (n+1)).any (fG kH))):=fun b hb=>by
      rw[hb,HT.out,List.any_append,Bool.or_assoc];simp only[List.any_cons,List.any_nil,Bool.or_false,fG,HE.out.1,HE.out.2]
     have HL:Hid ((((ks.zip ls).take (n+1)).map fun q=>(q.1,q.2.nm))=(((ks.zip ls).take n).map fun q=>(q.1,q.2.nm))++ [(ks.getD n aT,ie)]):=by
      show _=_
      rw[HT.out,List.map_append];simp only[List.map_cons,List.map_nil,HE.out.2]
     have vB:Hid ((((ks.zip ls).take n).map fun q=>(q.1,q.2.nm)).length<=100000):=by
      show _<=_
      simp only[List.length_map,List.length_take];omega
     have T_:=(Rs.out lb lY).1;generalize (((ks.zip ls).take n).map fun q=>(q.1,q.2.nm))=L at aN HL vB;obtain⟨bn,Y4⟩:∃b,b=(bad || ((ks.zip ls).take n).any (fG kH)):=⟨_,rfl⟩;rw[<-Y4]at iK;have sN:=(show Hid _ from HB.out bn Y4);clear Y4 HB bC iL zL;generalize ks.getD n aT=K at A9 zM sN HL;have Vi:=JB (w:=wr) K zM;have hRl:=(aN.lt);have mY:Hid (wr.ownsRow W1.heap.size 109 2 _ L.length (flatN L)):=aN;have Vj:Hid (eO wr Rb (.int .i64 k) (.int .i64 i) (.string t) (.slice pk nk ck) (.slice pl nl cl) bn):=iK;have OC:Hid (ay (aJ Rb) W1 wr):=MQ;have hsx:=MQ.size;have Rt:Rb<wr.heap.size:=by omega
     clear aN iK MQ hRl
     cases hft:kH K with
     | true=>
      rw[hft]at Vi sN;go_wp2_with(first
       | (go_at_call 146;refine Vi.mono ?_;rintro e w2 ⟨rfl,aY⟩
          have rM:ay (aJ Rb) wr w2:=ay.bq aY;have x4:=HF.out w2 (OC.out.then rM);obtain⟨e0,e1,e2,e3,e4⟩:=HC.out w2 (OC.out.then rM);have xE:=nP ((aY.block Rb Rt).trans Vj.out) ke ie te pe qe ne ce me de;have Uc:Hid (ay (aJ Rb) wr w2):=rM;clear rM aY)
       | (go_at_call 167;refine xE.mono ?_;rintro e w4 ⟨rfl,zO,zm⟩
          have De:ay (aJ Rb) wr w4:=Uc.out.then zm;have iV:=(bf mY.out De (fun q hq=>by have:=(mY.out.lt q hq).1;unfold aJ;omega)).alloc (.cells #[.string K,.int .i64 ie] 109);have uM:ib (fun _=>True) (w4.alloc (.cells #[.string K,.int .i64 ie] 109)) (some ⟨w4.heap.size,0,none⟩) 1 [(K,ie)]:=jI (l:= [(K,ie)]) trivial (bz _);have JF:W1.heap.size<=(w4.alloc (.cells #[.string K,.int .i64 ie] 109)).heap.size:=by have:=De.size;simp;omega
          have Hw:=(show Hid _ from zO);have Fx:Hid (ay (aJ Rb) wr w4):=De;clear zO zm De e0 e1 e2 e3 e4 x4 xE)
       | (refine bT rfl _ _ rfl W1.heap.size _ L rfl iV uM rfl (by have:=vB.out;omega) (by simp) JF ?_;intro v5 w5 cz jr))
      go_roundw
      case rel=>
       have TV:ay (aJ Rb) W1 (w4.alloc (.cells #[.string K,.int .i64 ie] 109)):=(OC.out.then Fx.out).alloc _;have rF:=aP Hw.out;refine⟨n+1,by simp,by omega,by rw[HL.out];exact cz, ?_,TV.grown jr (fun q hq=>(iV.lt q hq).1)⟩;rw[<-sN.out];refine(jr.block Rb (by simp;omega) (fun e=>by have:=(iV.lt Rb e.symm).1;omega)).trans ?_;rw[Below.heap_alloc _ _ _ rF];simpa using Hw.out
      case measure=>simp[intOf];omega
     | false=>
      rw[hft]at Vi sN;go_wp2_with(first
       | (go_at_call 146;refine Vi.mono ?_;rintro e w2 ⟨rfl,aY⟩
          have Vk:eO w2 Rb _ _ _ _ _ bn:=(aY.block Rb Rt).trans Vj.out;have r5:=ai Vk 5 _ rfl;have rz:=gB Vk 5;have E8:ay (aJ Rb) wr (w2.setCell ⟨Rb,5,none⟩ (.bool true)):=ay.setCell (S:=aJ Rb) (p:=⟨Rb,5,none⟩) (ay.bq aY) (fun _=>(rfl:Rb=Rb)) _;have x4:=HF.out _ (OC.out.then E8);obtain⟨e0,e1,e2,e3,e4⟩:=HC.out _ (OC.out.then E8);have xE:=nP (Vk.set true) ke ie te pe qe ne ce me de;have Uc:Hid (ay (aJ Rb) wr (w2.setCell ⟨Rb,5,none⟩ (.bool true))):=E8;clear E8 aY Vk)
       | (go_at_call 167;refine xE.mono ?_;rintro e w4 ⟨rfl,zO,zm⟩
          have De:ay (aJ Rb) wr w4:=Uc.out.then zm;have iV:=(bf mY.out De (fun q hq=>by have:=(mY.out.lt q hq).1;unfold aJ;omega)).alloc (.cells #[.string K,.int .i64 ie] 109);have uM:ib (fun _=>True) (w4.alloc (.cells #[.string K,.int .i64 ie] 109)) (some ⟨w4.heap.size,0,none⟩) 1 [(K,ie)]:=jI (l:= [(K,ie)]) trivial (bz _);have JF:W1.heap.size<=(w4.alloc (.cells #[.string K,.int .i64 ie] 109)).heap.size:=by have:=De.size;simp;omega
          have Hw:=(show Hid _ from zO);have Fx:Hid (ay (aJ Rb) wr w4):=De;clear zO zm De e0 e1 e2 e3 e4 x4 xE r5 rz)
       | (refine bT rfl _ _ rfl W1.heap.size _ L rfl iV uM rfl (by have:=vB.out;omega) (by simp) JF ?_;intro v5 w5 cz jr))
      go_roundw
      case rel=>
       have TV:ay (aJ Rb) W1 (w4.alloc (.cells #[.string K,.int .i64 ie] 109)):=(OC.out.then Fx.out).alloc _;have rF:=aP Hw.out;refine⟨n+1,by simp,by omega,by rw[HL.out];exact cz, ?_,TV.grown jr (fun q hq=>(iV.lt q hq).1)⟩;rw[<-sN.out];refine(jr.block Rb (by simp;omega) (fun e=>by have:=(iV.lt Rb e.symm).1;omega)).trans ?_;rw[Below.heap_alloc _ _ _ rF];simpa using Hw.out
      case measure=>simp[intOf];omega
    ·obtain rfl:n=nv:=by omega
     have Nw:(ks.zip ls).take n=ks.zip ls:=List.take_of_length_le (by rw[List.length_zip,Bc.out];omega);rw[Nw]at aN iK;have mY:=(show Hid _ from aN);have Vj:=(show Hid _ from iK);clear aN iK Nw;go_wp2;go_ret;obtain⟨p',c',Ru,CQ⟩:=qW mY.out;refine⟨⟨p',c',by first| (rw[Ru];rfl)| (simp only[];rw[<-Ru];rfl),CQ.carry fun q hq=>⟨⟨by have:=ny.size;omega,hq.2⟩,rfl⟩⟩, ?_,(ay.bq ny).then MQ⟩;simpa [rowT,J.kd,J.ks,J.ls]using Vj.out
  ·have sG:=Xm.out Cb;have Y5:nv=0:=by rw[<-Bc.out,sG];rfl
   subst Y5;have Re:Hid (eO (W1.setCell ⟨Rb,5,none⟩ (.bool true)) Rb (.int .i64 k) (.int .i64 i) (.string t) (.slice pk nk ck) (.slice pl nl cl) true):=xD.out.set true;have Y6:Hid (ay (aJ Rb) w (W1.setCell ⟨Rb,5,none⟩ (.bool true))):=ay.setCell (S:=aJ Rb) (p:=⟨Rb,5,none⟩) (ay.bq ny) (fun _=>(rfl:Rb=Rb)) _;have yc:Hid (W1.heap[w1.heap.size]?=some (.cells #[.int .i64 Ro,.int .i64 Rp,.string Rq,.slice pv 0 cv,.slice qv mv dv] 25 (0,0))):=hX;have b3':(W1.setCell ⟨Rb,5,none⟩ (.bool true)).cell? ⟨w1.heap.size,3,none⟩=some (.slice pv 0 cv):=by
    rw[World.cell?_of_block (Below.heap_setCell W1 ⟨Rb,5,none⟩ _ w1.heap.size (by simp;omega))];exact b3
   have HRO:Hid (rowT kH (some (.mk Ro Rp Rq ks ls))=([],true)):=by
    show _=_
    simp[rowT,rowsOf,J.kd,J.ks,J.ls,sG,Cb]
   clear hX sG;go_wp2
   go_loopw [9,29] (fun v x wx=>v=.slice none 0 0/\x=.int .i64 0/\Hid (wx=W1.setCell ⟨Rb,5,none⟩ (.bool true))) (fun _ _ _=>0)
   case atStart=>exact⟨rfl,rfl,rfl⟩
   case round=>
    obtain⟨rfl,rfl,P_⟩:=hrel;go_wp2;go_ret;rw[HRO.out,P_.out];exact⟨⟨none,0,rfl,ib.nil _ _ _ _ fun _=>rfl⟩,by simpa using Re.out,Y6.out⟩
theorem OD{O:Nat->Prop}{w:World}{Rb d:Nat}{j:J}{k i:Int}{t:ByteArray}{pk pl:Option Addr}{nk ck nl cl:Nat}{bad:Bool}(hR:eO w Rb (.int .i64 k) (.int .i64 i) (.string t) (.slice pk nk ck) (.slice pl nl cl) bad)
    (hj:isJ O w j [.int .i64 k,.int .i64 i,.string t,.slice pk nk ck,.slice pl nl cl]) (hO:∀x,O x->x<w.heap.size/\x≠Rb) (jv:Ju (d+2) j) (s:ByteArray):
    Calls Tryz.prog 145 #[.pointer (some ⟨Rb,0,none⟩),.string s,.func (.func 130) #[] #[]] w fun e w'=>(∃p c,e=.returned (.slice p (rowT lZ (lookV j.ks j.ls s)).1.length c)/\ib (fun b=>w.heap.size<=b/\b<w'.heap.size) w' p c (rowT lZ (lookV j.ks j.ls s)).1)/\eO w' Rb (.int .i64 k) (.int .i64 i) (.string t) (.slice pk nk ck) (.slice pl nl cl) (bad || (rowT lZ (lookV j.ks j.ls s)).2)/\ay (aJ Rb) w w':=by
 have hU:=vW hR hj (fun x hx=>(hO x hx).1) jv s;have HR:Hid (∀X,Below w.heap.size w X->eO X Rb (.int .i64 k) (.int .i64 i) (.string t) (.slice pk nk ck) (.slice pl nl cl) bad):=fun X hX=>(hX.block Rb (aP hR)).trans hR;have bQ:=aP hR;have uK:Hid (∀v,lookV j.ks j.ls s=some v->Ju (d+1) v):=fun v hv=>by
  obtain⟨_,_,_,_,_⟩:=j;exact jv.parts.2.2.2.2.2 v (j5 hv)
 clear hR hj jv;generalize lookV j.ks j.ls s=o at hU uK
 cases o with
 | none=>
  go_enter Tryz.func145,Tryz.ntmps145;go_wp2_with(go_at_call 166;refine hU.mono ?_;rintro e w1 ⟨he,aL⟩;replace he:e=_:=he;subst he);go_ret;have gU:=ag aL ((Below.refl _ _).alloc (Nat.le_refl _) (.cells #[.int .i64 0,.int .i64 0,.string ⟨#[]⟩,.slice none 0 0,.slice none 0 0] 25));refine⟨⟨none,0,rfl,ib.nil _ _ _ _ fun _=>rfl⟩, ?_,ay.bq gU⟩;simp only[rowT,Bool.or_false];exact HR.out _ gU
 | some v=>
  have zH:=uK.out v rfl;obtain⟨kv,iv,tv,ks,ls⟩:=v;have mW:=zH.parts.2.2.2.1;have Vg:Hid (∀x∈ks,x.size<=1000000000):=zH.parts.2.2.2.2.1;have Fs:Hid (ks.length<=ls.length):=zH.lens;have Xm:Hid (kv≠5->ks= []):=zH.parts.2.2.1;clear zH uK;obtain⟨nv,zI⟩:∃n,ks.length=n:=⟨_,rfl⟩;obtain⟨mv,JD⟩:∃n,ls.length=n:=⟨_,rfl⟩;have Bc:Hid (ks.length=nv):=zI;have JE:Hid (ls.length=mv):=JD;rw[zI]at mW;clear zI JD;go_enter Tryz.func145,Tryz.ntmps145
  go_upto_region 2 with(go_at_call 166;refine hU.mono ?_;rintro e w1 ⟨⟨Ro,Rp,Rq,pv,nv',cv,qv,Vh,dv,rfl,hv⟩,aL⟩;obtain⟨rfl,rfl,rfl,rfl,rfl,vP,hvc,hvs⟩:=bU hv;rw[Bc.out,JE.out];rw[JE.out]at hvc;clear hv)
  obtain⟨W1,pW⟩:∃W1,W1=w1.alloc (.cells #[.int .i64 Ro,.int .i64 Rp,.string Rq,.slice pv nv cv,.slice qv mv dv] 25):=⟨_,rfl⟩;have ny:Below w.heap.size w W1:=by rw[pW];exact ag aL ((Below.refl _ _).alloc (Nat.le_refl _) _)
  have Xn:=aL.size;have hX:W1.heap[w1.heap.size]?=some (.cells #[.int .i64 Ro,.int .i64 Rp,.string Rq,.slice pv nv cv,.slice qv mv dv] 25 (0,0)):=by rw[pW];exact bz _
  have hsW:w1.heap.size<W1.heap.size:=aP hX;have xD:Hid (eO W1 Rb (.int .i64 k) (.int .i64 i) (.string t) (.slice pk nk ck) (.slice pl nl cl) bad):=HR.out W1 ny;have Rs:Hid (∀x,O x->x<W1.heap.size/\x≠Rb):=fun x hx=>⟨Nat.lt_of_lt_of_le (hO x hx).1 ny.size,(hO x hx).2⟩;have Y2:Hid (jP O W1 pv cv ks):=vP.carry fun x hx=>⟨hx,(by rw[pW];exact Below.heap_alloc _ _ _ (Nat.lt_of_lt_of_le (hO x hx).1 aL.size))⟩;have Y3:Hid (isJs O W1 qv 0 ls):=isJs.carry (fun x hx=>⟨hx,(by rw[pW];exact Below.heap_alloc _ _ _ (Nat.lt_of_lt_of_le (hO x hx).1 aL.size))⟩) qv 0 ls hvs;have CU:=vP.1;rw[Bc.out]at CU;have b0:=ai hX 0 _ rfl;have b3:=ai hX 3 _ rfl;have r5:=ai xD.out 5 _ rfl;have rz:=gB xD.out 5;rw[<-pW];clear vP hvs hU pW aL
  by_cases Cb:Ro=5
  ·subst Cb;go_wp2;have yc:Hid (W1.heap[w1.heap.size]?=some (.cells #[.int .i64 5,.int .i64 Rp,.string Rq,.slice pv nv cv,.slice qv mv dv] 25 (0,0))):=hX;clear r5 rz b0 b3 hX
   go_loopw [9,29] (fun v x wx=>∃n:Nat,x=.int .i64 n/\n<=nv/\wx.ownsRow W1.heap.size 109 2 v (((ks.zip ls).take n).map fun q=>(q.1,q.2.nm)).length (flatN (((ks.zip ls).take n).map fun q=>(q.1,q.2.nm)))/\eO wx Rb (.int .i64 k) (.int .i64 i) (.string t) (.slice pk nk ck) (.slice pl nl cl) (bad || ((ks.zip ls).take n).any (fG lZ))/\ay (aJ Rb) W1 wx) (fun _ x _=>nv - (intOf x).toNat)
   case atStart=>exact⟨0,rfl,Nat.zero_le _,World.ownsRow_nil _ _ _ _,by simpa using xD.out,ay.refl _ _⟩
   case round=>
    obtain⟨n,rfl,hn,aN,iK,MQ⟩:=hrel;have HF:Hid (∀X,ay (aJ Rb) W1 X->X.cell? ⟨w1.heap.size,4,none⟩=some (.slice qv mv dv)):=fun X hX=>(World.cell?_of_block (a:=⟨w1.heap.size,4,none⟩) (hX.block w1.heap.size hsW (by unfold aJ;omega))).trans (ai yc.out 4 _ rfl)
    by_cases zI:n<nv
    ·have kX:n<ks.length:=by rw[Bc.out];exact zI
     have Xd:n<mv:=by have:=Fs.out;rw[Bc.out,JE.out]at this;omega
     have HT:Hid ((ks.zip ls).take (n+1)=(ks.zip ls).take n++ [(ks.getD n aT,ls.getD n J.zero)]):=Dc kX Fs.out;obtain⟨ad,rfl,qR,zL⟩:=Y2.out.2 n kX;have A9:wr.cell? (ad.add n)=some (.string (ks.getD n aT)):=(World.cell?_of_block (by rw[bK];exact MQ.block _ (Rs.out _ qR).1 (by unfold aJ;exact(Rs.out _ qR).2))).trans zL;have zM:(ks.getD n aT).size<=1000000000:=by rw[List.getD_eq_getElem?_getD,List.getElem?_eq_getElem kX];exact Vg.out _ (List.getElem_mem kX)
     obtain⟨lb,lo,cs,tO,lY,bC,iL⟩:=isJs.at ls 0 n Y3.out (by rw[JE.out];exact Xd);subst tO;obtain⟨ke,ie,te,pe,ne,ce,qe,me,de,rfl⟩:=dw iL;have HE:Hid ((ls.getD n J.zero).kd=ke/\(ls.getD n J.zero).nm=ie):=by
      generalize ls.getD n J.zero=y at iL;obtain⟨_,_,_,_,_⟩:=y;obtain⟨rfl,rfl,_⟩:=bU iL;exact⟨rfl,rfl⟩
     have HC:Hid (∀X,ay (aJ Rb) W1 X->X.cell? ⟨lb,lo+n*5,none⟩=some (.int .i64 ke)/\X.cell? ⟨lb,lo+n*5+1,none⟩=some (.int .i64 ie)/\X.cell? ⟨lb,lo+n*5+2,none⟩=some (.string te)/\X.cell? ⟨lb,lo+n*5+3,none⟩=some (.slice pe ne ce)/\X.cell? ⟨lb,lo+n*5+4,none⟩=some (.slice qe me de)):=fun X hX=>by
      have cc:∀m v, [Value.int .i64 ke,.int .i64 ie,.string te,.slice pe ne ce,.slice qe me de][m]?=some v->X.cell? ⟨lb,lo+n*5+m,none⟩=some v:=fun m v h=>by
       have:=bC m v h;rw[Nat.zero_add]at this;exact(World.cell?_of_block (a:=⟨lb,lo+n*5+m,none⟩) (hX.block lb (Rs.out lb lY).1 (by unfold aJ;exact(Rs.out lb lY).2))).trans this
      exact⟨cc 0 _ rfl,cc 1 _ rfl,cc 2 _ rfl,cc 3 _ rfl,cc 4 _ rfl⟩
     have HB:Hid (∀b,b=(bad || ((ks.zip ls).take n).any (fG lZ))->(b || (!lZ (ks.getD n aT) || !lu ke ie))=(bad || ((ks.zip ls).take (n+1)).any (fG lZ))):=fun b hb=>by
      rw[hb,HT.out,List.any_append,Bool.or_assoc];simp only[List.any_cons,List.any_nil,Bool.or_false,fG,HE.out.1,HE.out.2]
     have HL:Hid ((((ks.zip ls).take (n+1)).map fun q=>(q.1,q.2.nm))=(((ks.zip ls).take n).map fun q=>(q.1,q.2.nm))++ [(ks.getD n aT,ie)]):=by
      show _=_
      rw[HT.out,List.map_append];simp only[List.map_cons,List.map_nil,HE.out.2]
     have vB:Hid ((((ks.zip ls).take n).map fun q=>(q.1,q.2.nm)).length<=100000):=by
      show _<=_
      simp only[List.length_map,List.length_take];omega
     have T_:=(Rs.out lb lY).1;generalize (((ks.zip ls).take n).map fun q=>(q.1,q.2.nm))=L at aN HL vB;obtain⟨bn,Y4⟩:∃b,b=(bad || ((ks.zip ls).take n).any (fG lZ)):=⟨_,rfl⟩;rw[<-Y4]at iK;have sN:=(show Hid _ from HB.out bn Y4);clear Y4 HB bC iL zL;generalize ks.getD n aT=K at A9 zM sN HL;have Vi:=JC (w:=wr) K zM;have hRl:=(aN.lt);have mY:Hid (wr.ownsRow W1.heap.size 109 2 _ L.length (flatN L)):=aN;have Vj:Hid (eO wr Rb (.int .i64 k) (.int .i64 i) (.string t) (.slice pk nk ck) (.slice pl nl cl) bn):=iK;have OC:Hid (ay (aJ Rb) W1 wr):=MQ;have hsx:=MQ.size;have Rt:Rb<wr.heap.size:=by omega
     clear aN iK MQ hRl
     cases hft:lZ K with
     | true=>
      rw[hft]at Vi sN;go_wp2_with(first
       | (go_at_call 130;refine Vi.mono ?_;rintro e w2 ⟨rfl,aY⟩
          have rM:ay (aJ Rb) wr w2:=ay.bq aY;have x4:=HF.out w2 (OC.out.then rM);obtain⟨e0,e1,e2,e3,e4⟩:=HC.out w2 (OC.out.then rM);have xE:=nP ((aY.block Rb Rt).trans Vj.out) ke ie te pe qe ne ce me de;have Uc:Hid (ay (aJ Rb) wr w2):=rM;clear rM aY)
       | (go_at_call 167;refine xE.mono ?_;rintro e w4 ⟨rfl,zO,zm⟩
          have De:ay (aJ Rb) wr w4:=Uc.out.then zm;have iV:=(bf mY.out De (fun q hq=>by have:=(mY.out.lt q hq).1;unfold aJ;omega)).alloc (.cells #[.string K,.int .i64 ie] 109);have uM:ib (fun _=>True) (w4.alloc (.cells #[.string K,.int .i64 ie] 109)) (some ⟨w4.heap.size,0,none⟩) 1 [(K,ie)]:=jI (l:= [(K,ie)]) trivial (bz _);have JF:W1.heap.size<=(w4.alloc (.cells #[.string K,.int .i64 ie] 109)).heap.size:=by have:=De.size;simp;omega
          have Hw:=(show Hid _ from zO);have Fx:Hid (ay (aJ Rb) wr w4):=De;clear zO zm De e0 e1 e2 e3 e4 x4 xE)
       | (refine bT rfl _ _ rfl W1.heap.size _ L rfl iV uM rfl (by have:=vB.out;omega) (by simp) JF ?_;intro v5 w5 cz jr))
      go_roundw
      case rel=>
       have TV:ay (aJ Rb) W1 (w4.alloc (.cells #[.string K,.int .i64 ie] 109)):=(OC.out.then Fx.out).alloc _;have rF:=aP Hw.out;refine⟨n+1,by simp,by omega,by rw[HL.out];exact cz, ?_,TV.grown jr (fun q hq=>(iV.lt q hq).1)⟩;rw[<-sN.out];refine(jr.block Rb (by simp;omega) (fun e=>by have:=(iV.lt Rb e.symm).1;omega)).trans ?_;rw[Below.heap_alloc _ _ _ rF];simpa using Hw.out
      case measure=>simp[intOf];omega
     | false=>
      rw[hft]at Vi sN;go_wp2_with(first
       | (go_at_call 130;refine Vi.mono ?_;rintro e w2 ⟨rfl,aY⟩
          have Vk:eO w2 Rb _ _ _ _ _ bn:=(aY.block Rb Rt).trans Vj.out;have r5:=ai Vk 5 _ rfl;have rz:=gB Vk 5;have E8:ay (aJ Rb) wr (w2.setCell ⟨Rb,5,none⟩ (.bool true)):=ay.setCell (S:=aJ Rb) (p:=⟨Rb,5,none⟩) (ay.bq aY) (fun _=>(rfl:Rb=Rb)) _;have x4:=HF.out _ (OC.out.then E8);obtain⟨e0,e1,e2,e3,e4⟩:=HC.out _ (OC.out.then E8);have xE:=nP (Vk.set true) ke ie te pe qe ne ce me de;have Uc:Hid (ay (aJ Rb) wr (w2.setCell ⟨Rb,5,none⟩ (.bool true))):=E8;clear E8 aY Vk)
       | (go_at_call 167;refine xE.mono ?_;rintro e w4 ⟨rfl,zO,zm⟩
          have De:ay (aJ Rb) wr w4:=Uc.out.then zm;have iV:=(bf mY.out De (fun q hq=>by have:=(mY.out.lt q hq).1;unfold aJ;omega)).alloc (.cells #[.string K,.int .i64 ie] 109);have uM:ib (fun _=>True) (w4.alloc (.cells #[.string K,.int .i64 ie] 109)) (some ⟨w4.heap.size,0,none⟩) 1 [(K,ie)]:=jI (l:= [(K,ie)]) trivial (bz _);have JF:W1.heap.size<=(w4.alloc (.cells #[.string K,.int .i64 ie] 109)).heap.size:=by have:=De.size;simp;omega
          have Hw:=(show Hid _ from zO);have Fx:Hid (ay (aJ Rb) wr w4):=De;clear zO zm De e0 e1 e2 e3 e4 x4 xE r5 rz)
       | (refine bT rfl _ _ rfl W1.heap.size _ L rfl iV uM rfl (by have:=vB.out;omega) (by simp) JF ?_;intro v5 w5 cz jr))
      go_roundw
      case rel=>
       have TV:ay (aJ Rb) W1 (w4.alloc (.cells #[.string K,.int .i64 ie] 109)):=(OC.out.then Fx.out).alloc _;have rF:=aP Hw.out;refine⟨n+1,by simp,by omega,by rw[HL.out];exact cz, ?_,TV.grown jr (fun q hq=>(iV.lt q hq).1)⟩;rw[<-sN.out];refine(jr.block Rb (by simp;omega) (fun e=>by have:=(iV.lt Rb e.symm).1;omega)).trans ?_;rw[Below.heap_alloc _ _ _ rF];simpa using Hw.out
      case measure=>simp[intOf];omega
    ·obtain rfl:n=nv:=by omega
     have Nw:(ks.zip ls).take n=ks.zip ls:=List.take_of_length_le (by rw[List.length_zip,Bc.out];omega);rw[Nw]at aN iK;have mY:=(show Hid _ from aN);have Vj:=(show Hid _ from iK);clear aN iK Nw;go_wp2;go_ret;obtain⟨p',c',Ru,CQ⟩:=qW mY.out;refine⟨⟨p',c',by first| (rw[Ru];rfl)| (simp only[];rw[<-Ru];rfl),CQ.carry fun q hq=>⟨⟨by have:=ny.size;omega,hq.2⟩,rfl⟩⟩, ?_,(ay.bq ny).then MQ⟩;simpa [rowT,J.kd,J.ks,J.ls]using Vj.out
  ·have sG:=Xm.out Cb;have Y5:nv=0:=by rw[<-Bc.out,sG];rfl
   subst Y5;have Re:Hid (eO (W1.setCell ⟨Rb,5,none⟩ (.bool true)) Rb (.int .i64 k) (.int .i64 i) (.string t) (.slice pk nk ck) (.slice pl nl cl) true):=xD.out.set true;have Y6:Hid (ay (aJ Rb) w (W1.setCell ⟨Rb,5,none⟩ (.bool true))):=ay.setCell (S:=aJ Rb) (p:=⟨Rb,5,none⟩) (ay.bq ny) (fun _=>(rfl:Rb=Rb)) _;have yc:Hid (W1.heap[w1.heap.size]?=some (.cells #[.int .i64 Ro,.int .i64 Rp,.string Rq,.slice pv 0 cv,.slice qv mv dv] 25 (0,0))):=hX;have b3':(W1.setCell ⟨Rb,5,none⟩ (.bool true)).cell? ⟨w1.heap.size,3,none⟩=some (.slice pv 0 cv):=by
    rw[World.cell?_of_block (Below.heap_setCell W1 ⟨Rb,5,none⟩ _ w1.heap.size (by simp;omega))];exact b3
   have HRO:Hid (rowT lZ (some (.mk Ro Rp Rq ks ls))=([],true)):=by
    show _=_
    simp[rowT,rowsOf,J.kd,J.ks,J.ls,sG,Cb]
   clear hX sG;go_wp2
   go_loopw [9,29] (fun v x wx=>v=.slice none 0 0/\x=.int .i64 0/\Hid (wx=W1.setCell ⟨Rb,5,none⟩ (.bool true))) (fun _ _ _=>0)
   case atStart=>exact⟨rfl,rfl,rfl⟩
   case round=>
    obtain⟨rfl,rfl,P_⟩:=hrel;go_wp2;go_ret;rw[HRO.out,P_.out];exact⟨⟨none,0,rfl,ib.nil _ _ _ _ fun _=>rfl⟩,by simpa using Re.out,Y6.out⟩
def qg(j:J):Lv:=⟨(numT 50 (lookV j.ks j.ls uE)).1,(numT 50 (lookV j.ks j.ls mI)).1,(numT 0 (lookV j.ks j.ls ic)).1,(numT 50 (lookV j.ks j.ls ig)).1,(numT 50 (lookV j.ks j.ls jG)).1,(numT 0 (lookV j.ks j.ls il)).1,(numT 0 (lookV j.ks j.ls jH)).1,(rowT kH (lookV j.ks j.ls gp)).1,(rowT lZ (lookV j.ks j.ls gq)).1⟩
def lT(j:J):Bool:=((((((((!decide (j.kd=5) || (numT 50 (lookV j.ks j.ls uE)).2) || (numT 50 (lookV j.ks j.ls mI)).2) || (numT 0 (lookV j.ks j.ls ic)).2) || (numT 50 (lookV j.ks j.ls ig)).2) || (numT 50 (lookV j.ks j.ls jG)).2) || (numT 0 (lookV j.ks j.ls il)).2) || (numT 0 (lookV j.ks j.ls jH)).2) || (rowT kH (lookV j.ks j.ls gp)).2) || (rowT lZ (lookV j.ks j.ls gq)).2
abbrev qh:Lv:=⟨0,0,0,0,0,0,0, [], []⟩
def dh(j:J):Lv×Int:=if lT j then(qh,1)else(qg j,0)
theorem OE{O:Nat->Prop}{w:World}{c:J}{k i:Int}{t:ByteArray}{pk pl:Option Addr}{nk ck nl cl:Nat}(hj:isJ O w c [.int .i64 k,.int .i64 i,.string t,.slice pk nk ck,.slice pl nl cl])(hO:∀x,O x->x<w.heap.size)(fK:szJ 12 c=true):
    Calls Tryz.prog 120 #[.agg #[.int .i64 k,.int .i64 i,.string t,.slice pk nk ck,.slice pl nl cl]] w fun e w'=>(∃p,e=.returned (.tuple #[fA (dh (eG c)).1 p,.int .i64 (dh (eG c)).2])/\qV (fun b=>w.heap.size<=b/\b<w'.heap.size) w' (dh (eG c)).1 p)/\Below w.heap.size w w':=by
 obtain⟨wA,g_⟩:∃wA,wA=(w.alloc (.cells #[.int .i64 k,.int .i64 i,.string t,.slice pk nk ck,.slice pl nl cl] 25)).alloc (.cells #[.int .i64 0,.int .i64 0,.int .i64 0,.int .i64 0,.int .i64 0,.int .i64 0,.int .i64 0,.slice none 0 0,.slice none 0 0] 47):=⟨_,rfl⟩;have bM:Below w.heap.size w wA:=by rw[g_];exact((Below.refl _ _).alloc (Nat.le_refl _) _).alloc (by simp) _
 have hsA:wA.heap.size=w.heap.size+2:=by rw[g_];simp
 have OG:wA.heap[w.heap.size]?=some (.cells #[.int .i64 k,.int .i64 i,.string t,.slice pk nk ck,.slice pl nl cl] 25 (0,0)):=by rw[g_,Below.heap_alloc _ _ _ (by simp)];exact bz _
 have hA1:wA.heap[w.heap.size+1]?=some (.cells #[.int .i64 0,.int .i64 0,.int .i64 0,.int .i64 0,.int .i64 0,.int .i64 0,.int .i64 0,.slice none 0 0,.slice none 0 0] 47 (0,0)):=by
  rw[g_];have:=bz (w:=w.alloc (.cells #[.int .i64 k,.int .i64 i,.string t,.slice pk nk ck,.slice pl nl cl] 25)) (.cells #[.int .i64 0,.int .i64 0,.int .i64 0,.int .i64 0,.int .i64 0,.int .i64 0,.int .i64 0,.slice none 0 0,.slice none 0 0] 47);rw[World.size_alloc]at this;exact this
 have WM:=Ov (fun x hx=>Nat.lt_of_lt_of_le (hO x hx) bM.size) fK (hj.carry (O':=O) (w':=wA) fun x hx=>⟨hx,bM.block x (hO x hx)⟩);have uK:Hid (Ju 12 (eG c)):=uG fK;have b0:=ai OG 0 _ rfl;have b1:=ai OG 1 _ rfl;have b2:=ai OG 2 _ rfl;have b3:=ai OG 3 _ rfl;have b4:=ai OG 4 _ rfl;generalize eG c=j at WM uK;have HA1:Hid (∀X,Below wA.heap.size wA X->X.heap[w.heap.size+1]?=some (.cells #[.int .i64 0,.int .i64 0,.int .i64 0,.int .i64 0,.int .i64 0,.int .i64 0,.int .i64 0,.slice none 0 0,.slice none 0 0] 47 (0,0))):=fun X hX=>(hX.block _ (by omega)).trans hA1;clear hj hO fK OG hA1;go_enter Tryz.func120,Tryz.ntmps120
 go_upto_region 1 with fail
 rw[<-g_];clear g_
 go_upto_region 2 with(go_at_call 143;refine WM.mono ?_;rintro e w1 ⟨⟨kr,ir,tr,pr,nr,cr,qr,mr,dr,rfl,Ht⟩,aL⟩)
 go_upto_region 3 with fail
 have Xn:=aL.size;obtain⟨W2,Ud⟩:∃W2,W2=(w1.alloc (.cells #[.int .i64 kr,.int .i64 ir,.string tr,.slice pr nr cr,.slice qr mr dr] 25)).alloc (.cells #[.int .i64 kr,.int .i64 ir,.string tr,.slice pr nr cr,.slice qr mr dr,.bool (kr !=5)] 155):=⟨_,rfl⟩;have aY:Below w1.heap.size w1 W2:=by rw[Ud];exact((Below.refl _ _).alloc (Nat.le_refl _) _).alloc (by simp) _
 have Y7:W2.heap.size=w1.heap.size+2:=by rw[Ud];simp
 have qi:eO W2 (w1.heap.size+1) (.int .i64 kr) (.int .i64 ir) (.string tr) (.slice pr nr cr) (.slice qr mr dr) (kr !=5):=by
  rw[Ud];have:=bz (w:=w1.alloc (.cells #[.int .i64 kr,.int .i64 ir,.string tr,.slice pr nr cr,.slice qr mr dr] 25)) (.cells #[.int .i64 kr,.int .i64 ir,.string tr,.slice pr nr cr,.slice qr mr dr,.bool (kr !=5)] 155);rw[World.size_alloc]at this;exact this
 have HB0:Hid ((kr !=5)= !decide (j.kd=5)):=by
  show _=_
  obtain⟨_,_,_,_,_⟩:=j;obtain⟨rfl,_⟩:=bU Ht
  show(kr !=5)= !decide (kr=5)
  by_cases h:kr=5<;>simp[h]
 have Ue:isJ (fun b=>b<w1.heap.size) W2 j [.int .i64 kr,.int .i64 ir,.string tr,.slice pr nr cr,.slice qr mr dr]:=Ht.carry fun x hx=>⟨hx,aY.block x hx⟩;have JG:Hid (∀X bad s z,ay (aJ (w1.heap.size+1)) W2 X->eO X (w1.heap.size+1) (.int .i64 kr) (.int .i64 ir) (.string tr) (.slice pr nr cr) (.slice qr mr dr) bad->Calls Tryz.prog 144 #[.pointer (some ⟨w1.heap.size+1,0,none⟩),.string s,.int .i64 z] X fun e w'=>e=.returned (.int .i64 (numT z (lookV j.ks j.ls s)).1)/\eO w' (w1.heap.size+1) (.int .i64 kr) (.int .i64 ir) (.string tr) (.slice pr nr cr) (.slice qr mr dr) (bad || (numT z (lookV j.ks j.ls s)).2)/\ay (aJ (w1.heap.size+1)) X w'):=fun X bad s z hX hR=>
  Fu (d:=11) hR (Ue.carry (O':=fun b=>b<w1.heap.size) fun x hx=>⟨hx,hX.block x (by omega) (by unfold aJ;omega)⟩) (fun x hx=>by have:=hX.size;omega) uK.out s z
 have zen:Hid (∀X bad,ay (aJ (w1.heap.size+1)) W2 X->eO X (w1.heap.size+1) (.int .i64 kr) (.int .i64 ir) (.string tr) (.slice pr nr cr) (.slice qr mr dr) bad->Calls Tryz.prog 145 #[.pointer (some ⟨w1.heap.size+1,0,none⟩),.string gp,.func (.func 146) #[] #[]] X fun e w'=>(∃p c,e=.returned (.slice p (rowT kH (lookV j.ks j.ls gp)).1.length c)/\ib (fun b=>X.heap.size<=b/\b<w'.heap.size) w' p c (rowT kH (lookV j.ks j.ls gp)).1)/\eO w' (w1.heap.size+1) (.int .i64 kr) (.int .i64 ir) (.string tr) (.slice pr nr cr) (.slice qr mr dr) (bad || (rowT kH (lookV j.ks j.ls gp)).2)/\ay (aJ (w1.heap.size+1)) X w'):=fun X bad hX hR=>
  OB (d:=10) hR (Ue.carry (O':=fun b=>b<w1.heap.size) fun x hx=>⟨hx,hX.block x (by omega) (by unfold aJ;omega)⟩) (fun x hx=>⟨by have:=hX.size;omega,by omega⟩) uK.out gp
 have zeo:Hid (∀X bad,ay (aJ (w1.heap.size+1)) W2 X->eO X (w1.heap.size+1) (.int .i64 kr) (.int .i64 ir) (.string tr) (.slice pr nr cr) (.slice qr mr dr) bad->Calls Tryz.prog 145 #[.pointer (some ⟨w1.heap.size+1,0,none⟩),.string gq,.func (.func 130) #[] #[]] X fun e w'=>(∃p c,e=.returned (.slice p (rowT lZ (lookV j.ks j.ls gq)).1.length c)/\ib (fun b=>X.heap.size<=b/\b<w'.heap.size) w' p c (rowT lZ (lookV j.ks j.ls gq)).1)/\eO w' (w1.heap.size+1) (.int .i64 kr) (.int .i64 ir) (.string tr) (.slice pr nr cr) (.slice qr mr dr) (bad || (rowT lZ (lookV j.ks j.ls gq)).2)/\ay (aJ (w1.heap.size+1)) X w'):=fun X bad hX hR=>
  OD (d:=10) hR (Ue.carry (O':=fun b=>b<w1.heap.size) fun x hx=>⟨hx,hX.block x (by omega) (by unfold aJ;omega)⟩) (fun x hx=>⟨by have:=hX.size;omega,by omega⟩) uK.out gq
 rw[<-Ud];have bX:Hid (Below w.heap.size w W2):=ag bM (ag aL aY);have nu:Hid (Below wA.heap.size wA W2):=ag aL aY;clear Ht Ue WM Ud b0 b1 b2 b3 b4;have yf:Hid (lT j=((((((((((kr !=5) || (numT 50 (lookV j.ks j.ls uE)).2) || (numT 50 (lookV j.ks j.ls mI)).2) || (numT 0 (lookV j.ks j.ls ic)).2) || (numT 50 (lookV j.ks j.ls ig)).2) || (numT 50 (lookV j.ks j.ls jG)).2) || (numT 0 (lookV j.ks j.ls il)).2) || (numT 0 (lookV j.ks j.ls jH)).2) || (rowT kH (lookV j.ks j.ls gp)).2) || (rowT lZ (lookV j.ks j.ls gq)).2)):=by show _=_;unfold lT;rw[HB0.out]
 generalize (kr !=5)=zgG at qi yf ⊢;have hN1:=JG.out W2 zgG uE 50 (ay.refl _ _) qi
 go_upto_region 4 with(first
  | (go_at_call 144;refine hN1.mono ?_;rintro e v1 ⟨rfl,hr1,AJ⟩
     have HK1:Hid (ay (aJ (w1.heap.size+1)) W2 v1):=AJ;have Y8:=JG.out v1 _ mI 50 HK1.out hr1;clear hN1 AJ hr1)
  | (go_at_call 144;refine Y8.mono ?_;rintro e v2 ⟨rfl,hr2,rM⟩
     have Uc:Hid (ay (aJ (w1.heap.size+1)) W2 v2):=HK1.out.then rM;have hN3:=JG.out v2 _ ic 0 Uc.out hr2;clear Y8 rM hr2)
  | (go_at_call 144;refine hN3.mono ?_;rintro e v3 ⟨rfl,Vl,E8⟩
     have HK3:Hid (ay (aJ (w1.heap.size+1)) W2 v3):=Uc.out.then E8;have hN4:=JG.out v3 _ ig 50 HK3.out Vl;clear hN3 E8 Vl)
  | (go_at_call 144;refine hN4.mono ?_;rintro e v4 ⟨rfl,zO,zm⟩
     have HK4:Hid (ay (aJ (w1.heap.size+1)) W2 v4):=HK3.out.then zm;have hN5:=JG.out v4 _ jG 50 HK4.out zO;clear hN4 zm zO)
  | (go_at_call 144;refine hN5.mono ?_;rintro e v5 ⟨rfl,hr5,Cb⟩
     have eD:Hid (ay (aJ (w1.heap.size+1)) W2 v5):=HK4.out.then Cb;have hN6:=JG.out v5 _ il 0 eD.out hr5;clear hN5 Cb hr5)
  | (go_at_call 144;refine hN6.mono ?_;rintro e v6 ⟨rfl,hr6,hk6⟩
     have HK6:Hid (ay (aJ (w1.heap.size+1)) W2 v6):=eD.out.then hk6;have hN7:=JG.out v6 _ jH 0 HK6.out hr6;clear hN6 hk6 hr6)
  | (go_at_call 144;refine hN7.mono ?_;rintro e v7 ⟨rfl,hr7,hk7⟩
     have HK7:Hid (ay (aJ (w1.heap.size+1)) W2 v7):=HK6.out.then hk7;have hN8:=zen.out v7 _ HK7.out hr7;clear hN7 hk7 hr7)
  | (go_at_call 145;refine hN8.mono ?_;rintro e v8 ⟨⟨pu,cu,rfl,hru⟩,hr8,hk8⟩
     have HK8:Hid (ay (aJ (w1.heap.size+1)) W2 v8):=HK7.out.then hk8;have Uf:=(show Hid _ from hru);have hN9:=zeo.out v8 _ HK8.out hr8;clear hN8 hk8 hr8 hru)
  | (go_at_call 145;refine hN9.mono ?_;rintro e v9 ⟨⟨pt,ct,rfl,hrt⟩,hr9,hk9⟩
     have HK9:Hid (ay (aJ (w1.heap.size+1)) W2 v9):=HK8.out.then hk9;have zep:Hid (ay (aJ (w1.heap.size+1)) v8 v9):=hk9;have HRT:=(show Hid _ from hrt);have HR9:=(show Hid _ from hr9);clear hN9 hk9 hr9 hrt))
 have hR9:=HR9.out;rw[<-yf.out]at hR9;obtain⟨WE,Cc⟩:∃WE,WE=v9.alloc (.cells (aG (qg j) ⟨pu,cu,pt,ct⟩).toArray 47):=⟨_,rfl⟩;have gU:Below v9.heap.size v9 WE:=by rw[Cc];exact(Below.refl _ _).alloc (Nat.le_refl _) _
 have hL:WE.heap[v9.heap.size]?=some (.cells (aG (qg j) ⟨pu,cu,pt,ct⟩).toArray 47 (0,0)):=by rw[Cc];exact bz _
 have hRE:eO WE (w1.heap.size+1) (.int .i64 kr) (.int .i64 ir) (.string tr) (.slice pr nr cr) (.slice qr mr dr) (lT j):=(gU.block _ (aP hR9)).trans hR9;have h9s:=HK9.out.size;have hZ:WE.heap[w.heap.size+1]?=some (.cells #[.int .i64 0,.int .i64 0,.int .i64 0,.int .i64 0,.int .i64 0,.int .i64 0,.int .i64 0,.slice none 0 0,.slice none 0 0] 47 (0,0)):=
  (gU.block _ (by omega)).trans ((HK9.out.block _ (by omega) (by unfold aJ;omega)).trans (HA1.out W2 nu.out))
 have Vm:Below w.heap.size w WE:=ag (bX.out.trans (HK9.out.below bX.out.size fun q hq e=>by unfold aJ at e;omega)) gU;have Rv:Hid (qV (fun b=>w.heap.size<=b/\b<WE.heap.size/\b≠w.heap.size+1) WE (qg j) ⟨pu,cu,pt,ct⟩):=by
  have h8:=HK8.out.size;have h89:=zep.out.size;have hE:=gU.size;refine⟨ib.carry Uf.out fun b hb=>⟨⟨by have:=hb.1;have:=HK7.out.size;omega,by omega,by have:=hb.1;have:=HK7.out.size;omega⟩,(gU.block b (by omega)).trans (zep.out.block b hb.2 (by have:=hb.1;have:=HK7.out.size;unfold aJ;omega))⟩,ib.carry HRT.out fun b hb=>⟨⟨by have:=hb.1;omega,by omega,by have:=hb.1;omega⟩,gU.block b hb.2⟩⟩
 have r5:=ai hRE 5 _ rfl;have g0:=ai hZ 0 _ rfl;have g1:=ai hZ 1 _ rfl;have g2:=ai hZ 2 _ rfl;have g3:=ai hZ 3 _ rfl;have g4:=ai hZ 4 _ rfl;have g5:=ai hZ 5 _ rfl;have g6:=ai hZ 6 _ rfl;have g7:=ai hZ 7 _ rfl;have g8:=ai hZ 8 _ rfl;have z0:=gB hZ 0;have z1:=gB hZ 1;have z2:=gB hZ 2;have z3:=gB hZ 3;have z4:=gB hZ 4;have z5:=gB hZ 5;have z6:=gB hZ 6;have z7:=gB hZ 7;have z8:=gB hZ 8;have HZ:=(show Hid _ from hZ);have HPT:Hid (dh j=if lT j then(qh,1)else(qg j,0)):=rfl;have zlX:=aP hZ;change Code.wp _ _ _ _ (v9.alloc (.cells (aG (qg j) ⟨pu,cu,pt,ct⟩).toArray 47));rw[<-Cc]
 cases hpb:lT j with
 | true=>
  rw[hpb]at r5 HPT;clear Cc hL hRE hR9 HR9 yf hZ;go_wp2;have h9:=cZ (b:=w.heap.size+1) [.int .i64 0,.int .i64 0,.int .i64 0,.int .i64 0,.int .i64 0,.int .i64 0,.int .i64 0,.slice none 0 0,.slice none 0 0] HZ.out rfl;have HK:=bS (w.heap.size+1) [.int .i64 0,.int .i64 0,.int .i64 0,.int .i64 0,.int .i64 0,.int .i64 0,.int .i64 0,.slice none 0 0,.slice none 0 0] WE 0;simp only[setL,Nat.zero_add,Nat.reduceAdd]at h9 HK;refine bodyPost_ret (aK rfl _ _ _ rfl (iM h9)) rfl ?_;rw[HPT.out];exact⟨⟨⟨none,0,none,0⟩,rfl,ib.nil _ _ _ _ fun _=>rfl,ib.nil _ _ _ _ fun _=>rfl⟩,Vm.trans (HK.below Vm.size fun q hq e=>by unfold aJ at e;omega)⟩
 | false=>
  rw[hpb]at r5 HPT;have c0:=ai hL 0 _ rfl;have c1:=ai hL 1 _ rfl;have c2:=ai hL 2 _ rfl;have c3:=ai hL 3 _ rfl;have c4:=ai hL 4 _ rfl;have c5:=ai hL 5 _ rfl;have c6:=ai hL 6 _ rfl;have c7:=ai hL 7 _ rfl;have c8:=ai hL 8 _ rfl;clear Cc hRE hR9 HR9 yf hZ hL;generalize qg j=PL at c0 c1 c2 c3 c4 c5 c6 c7 c8 Rv HPT;go_wp2;have h9:=cZ (b:=w.heap.size+1) [.int .i64 PL.nN,.int .i64 PL.h_,.int .i64 PL.dA,.int .i64 PL.fM,.int .i64 PL.state,.int .i64 PL.events,.int .i64 PL.iB,.slice pu PL.dP.length cu,.slice pt PL.dQ.length ct] HZ.out rfl;have HK:=bS (w.heap.size+1) [.int .i64 PL.nN,.int .i64 PL.h_,.int .i64 PL.dA,.int .i64 PL.fM,.int .i64 PL.state,.int .i64 PL.events,.int .i64 PL.iB,.slice pu PL.dP.length cu,.slice pt PL.dQ.length ct] WE 0;simp only[setL,Nat.zero_add,Nat.reduceAdd]at h9 HK;refine bodyPost_ret (aK rfl _ _ _ rfl (iM h9)) rfl ?_;rw[HPT.out];refine⟨⟨⟨pu,cu,pt,ct⟩,rfl,Rv.out.carry fun b hb=>⟨⟨hb.1,Nat.lt_of_lt_of_le hb.2.1 HK.size⟩,HK.block b hb.2.1 (by unfold aJ;exact hb.2.2)⟩⟩,Vm.trans (HK.below Vm.size fun q hq e=>by unfold aJ at e;omega)⟩
end Go.Proofs.YtldegjjaknelgaaGreatDoor

/- A part. -/
import Derived.Test.YtegcgbjjpgjnmaaGreatDoorE20
set_option maxRecDepth 100000
set_option maxHeartbeats 16000000
namespace Go.Proofs.YtegcgbjjpgjnmaaGreatDoor
open Go.RowKit
theorem Ur:∀(n:Nat) (P:List Nat),P.Nodup->(∀i∈P,i<n)->P.length<=n
 | 0,P,_,h=>by
  cases P with
  | nil=>exact Nat.le_refl _
  | cons x r=>exact absurd (h x (by simp)) (by omega)
 | n+1,P,RY,h=>by
  have h1:(P.erase n).length<=n:=Ur n (P.erase n) (RY.erase n) fun i hi=>by
   have h2:=h i (List.mem_of_mem_erase hi);have h3:i≠n:=fun e=>by subst e;exact(RY.not_mem_erase) hi
   omega
  have h4:=List.length_erase (a:=n) (l:=P)
  split at h4<;>omega
theorem Er:∀(n:Nat) (P:List Nat),(∀j,j<n->j∈P)->n<=P.length
 | 0,_,_=>Nat.zero_le _
 | n+1,P,h=>by
  have h1:n<=(P.erase n).length:=Er n (P.erase n) fun j hj=>(List.mem_erase_of_ne (by omega)).2 (h j (by omega));have h2:=List.length_erase_of_mem (h n (by omega));have h3:0<P.length:=List.length_pos_of_mem (h n (by omega));omega
theorem BG:∀(n:Nat) (P:List Nat),P.Nodup->(∀i∈P,i<n)->P.length=n->P.Perm (List.range n)
 | 0,P,_,_,h=>by
  obtain rfl:P= []:=List.eq_nil_of_length_eq_zero h;exact List.Perm.refl _
 | n+1,P,RY,bJ,hl=>by
  have Ff:n∈P:=by
   refine Classical.byContradiction fun hn=> ?_;have:=Ur n P RY fun i hi=>by
    have:=bJ i hi;have:i≠n:=fun e=>hn (e ▸ hi);omega
   omega
  have h1:=BG n (P.erase n) (RY.erase n) (fun i hi=>by
   have h2:=bJ i (List.mem_of_mem_erase hi);have h3:i≠n:=fun e=>by subst e;exact(RY.not_mem_erase) hi
   omega) (by rw[List.length_erase_of_mem Ff];omega)
  rw[List.range_succ];exact(List.perm_cons_erase Ff).trans ((h1.cons n).trans (List.perm_append_singleton n (List.range n)).symm)
structure xW(ks:List ByteArray)(P:List Nat):Prop where
 nd:P.Nodup
 lt:∀i∈P,i<ks.length
 up:P.Pairwise (fun i j=>pE (aN ks i) (aN ks j)=true)
 over:∀i∈P,∀j,j<ks.length->j∉P->pE (aN ks i) (aN ks j)=true
theorem xW.nil(ks:List ByteArray):xW ks []:=⟨List.nodup_nil,fun i h=>(by cases h),List.Pairwise.nil,fun i h=>(by cases h)⟩
theorem xW.snoc{ks:List ByteArray}{P:List Nat}(h:xW ks P){m:Nat}(hm:m<ks.length)(hn:m∉P)(Yw:∀j,j<ks.length->j∉P->j=m\/ pE (aN ks m) (aN ks j)=true):xW ks (P++ [m]):=by
 refine⟨?_,fun i hi=> ?_, ?_,fun i hi j hj hnj=> ?_⟩
 ·unfold List.Nodup;rw[List.pairwise_append];exact⟨h.nd,List.pairwise_singleton _ _,fun a ha b hb=>by rw[List.mem_singleton.1 hb];exact fun e=>hn (e ▸ ha)⟩
 ·rcases List.mem_append.1 hi with hi| hi
  ·exact h.lt i hi
  ·rw[List.mem_singleton.1 hi];exact hm
 ·rw[List.pairwise_append];exact⟨h.up,List.pairwise_singleton _ _,fun a ha b hb=>by rw[List.mem_singleton.1 hb];exact h.over a ha m hm hn⟩
 ·have hnP:j∉P:=fun e=>hnj (List.mem_append_left _ e)
  rcases List.mem_append.1 hi with hi| hi
  ·exact h.over i hi j hj hnP
  ·rw[List.mem_singleton.1 hi]
   rcases Yw j hj hnP with e| e
   ·exact absurd (by rw[e];simp) hnj
   ·exact e
theorem xW.full{ks:List ByteArray}{P:List Nat}{l:List J}(h:xW ks P)(cB:P.length=ks.length)(uI:ks.length=l.length)(hd:ks.Pairwise (· ≠ ·)):BZ ks l P=fA (ks.zip l):=by
 have hp:=BG ks.length P h.nd h.lt cB;have RX:(BZ ks l P).Perm (ks.zip l):=by
  rw[<-Dv ks l uI];exact hp.map _
 have hpw:(ks.zip l).Pairwise fun x y=>x.1≠y.1:=by
  have:((ks.zip l).map (·.1)).Pairwise (· ≠ ·):=by rw[List.map_fst_zip (by omega)];exact hd
  exact List.pairwise_map.1 this
 refine Ao _ _ ?_ (lC _ hpw) (RX.trans (nY _).symm);unfold BZ;rw[List.map_map];exact Ap _ P h.up
def f_(ks:List ByteArray)(P:List Nat)(i:Nat)(v:Int):Prop:=
 (v= -1/\∀j,j<i->j∈P)\/ ∃m:Nat,v=m/\m<i/\m∉P/\∀j,j<i->j∉P->j=m\/ pE (aN ks m) (aN ks j)=true
section
variable {ks : List ByteArray} {P : List Nat} {i : Nat} {v : Int}
theorem f_.zero:f_ ks P 0 (-1):=.inl ⟨rfl,fun j h=>absurd h (by omega)⟩
theorem f_.skip(h:f_ ks P i v)(hi:i∈P):f_ ks P (i+1) v:=by
 rcases h with⟨h1,h2⟩| ⟨m,h1,h2,h3,h4⟩
 ·refine .inl ⟨h1,fun j hj=> ?_⟩
  by_cases e:j=i
  ·rw[e];exact hi
  ·exact h2 j (by omega)
 ·refine .inr ⟨m,h1,by omega,h3,fun j hj hn=> ?_⟩
  by_cases e:j=i
  ·exact absurd (e ▸ hi) hn
  ·exact h4 j (by omega) hn
theorem f_.first(h:f_ ks P i (-1))(hi:i∉P):f_ ks P (i+1) i:=by
 rcases h with⟨_,h2⟩| ⟨m,h1,_⟩
 ·refine .inr ⟨i,rfl,by omega,hi,fun j hj hn=>.inl ?_⟩
  by_cases e:j=i
  ·exact e
  ·exact absurd (h2 j (by omega)) hn
 ·omega
theorem f_.less{m:Nat}(h:f_ ks P i m)(hi:i∉P)(hl:pE (aN ks i) (aN ks m)=true):f_ ks P (i+1) i:=by
 rcases h with⟨h1,_⟩| ⟨m',h1,h2,h3,h4⟩
 ·omega
 ·obtain rfl:m=m':=by omega
  refine .inr ⟨i,rfl,by omega,hi,fun j hj hn=> ?_⟩
  by_cases e:j=i
  ·exact .inl e
  ·right
   rcases h4 j (by omega) hn with e'| e'
   ·rw[e'];exact hl
   ·exact nN hl e'
theorem f_.same{m:Nat}(h:f_ ks P i m)(hl:pE (aN ks i) (aN ks m)=false)(B_:m<i->aN ks m≠aN ks i):f_ ks P (i+1) m:=by
 rcases h with⟨h1,_⟩| ⟨m',h1,h2,h3,h4⟩
 ·omega
 ·obtain rfl:m=m':=by omega
  refine .inr ⟨m,rfl,by omega,h3,fun j hj hn=> ?_⟩
  by_cases e:j=i
  ·right
   rw[e]
   rcases pU (B_ h2)with h'| h'
   ·exact h'
   ·rw[h']at hl;cases hl
  ·exact h4 j (by omega) hn
theorem f_.done(h:f_ ks P ks.length v)(hP:xW ks P)(cB:P.length<ks.length):∃m:Nat,v=m/\m<ks.length/\m∉P/\xW ks (P++ [m]):=by
 rcases h with⟨_,h2⟩| ⟨m,h1,h2,h3,h4⟩
 ·have:=Er ks.length P h2;omega
 ·exact⟨m,h1,h2,h3,hP.snoc h2 h3 h4⟩
end
theorem bytesLess_eq:∀x y:List UInt8,Op.bytesLess x y=lessB x y
 | [], []=>rfl
 | [],_::_=>rfl
 | _::_, []=>rfl
 | a::x,b::y=>by
  unfold Op.bytesLess lessB;rw[bytesLess_eq x y]
  cases h:decide (a=b)<;>simp_all
theorem Ji(a b:ByteArray):Op.bytesLess a.toList b.toList=pE a b:=by
 rw[bytesLess_eq];unfold pE;rw[Lib.toList_data,Lib.toList_data]
def Eb(O:Nat->Prop)(b D:Nat)(vk vl:Value)(w:World):Nat->Prop:=fun k=>O k\/ (b+3<=k/\k<w.heap.size/\vk.ownBlock≠some k/\vl.ownBlock≠some k/\k≠D)
structure OI(O:Nat->Prop)(w:World)(b D:Nat)(dn:List Bool)(qh:Array Value)(c0 c1 c2:Value)(Sk:List ByteArray)(Sv:List J)(vk vl:Value)(W:World):Prop where
 box:W.heap[b]?=some (.cells qh 25 (0,0))
 res:W.heap[b+1]?=some (.cells #[.int .i64 0,.int .i64 0,.string ⟨#[]⟩,.slice none 0 0,.slice none 0 0] 25 (0,0))
 obj:W.heap[b+2]?=some (.cells #[c0,c1,c2,vk,vl] 25 (0,0))
 keys:W.ownsRow (b+3) 9 1 vk Sk.length (Sk.map Value.string)
 dS:∃xs,W.ownsRow (b+3) 25 5 vl Sv.length xs/\isRow (Eb O b D vk vl W) W Sv xs
 WX:D=0\/ (b+3<=D/\W.heap[D]?=some (.cells (dn.map Value.bool).toArray 4 (0,0)))
 ne:∀i,vk.ownBlock=some i->vl.ownBlock≠some i
 nek:vk.ownBlock≠some D
 nel:vl.ownBlock≠some D
 low:∀k,O k->k<b
 below:Below b w W
 at':b=w.heap.size
section
variable {O : Nat -> Prop} {w W W2 W4 : World} {b D : Nat} {dn : List Bool} {qh : Array Value} {c0 c1 c2 : Value} {Sk : List ByteArray} {Sv : List J} {vk vl j_ il : Value}
theorem OI.size(h:OI O w b D dn qh c0 c1 c2 Sk Sv vk vl W):b+2<W.heap.size:=(Array.getElem?_eq_some_iff.1 h.obj).1
theorem OI.more(h:OI O w b D dn qh c0 c1 c2 Sk Sv vk vl W)(hb:Below W.heap.size W W4):OI O w b D dn qh c0 c1 c2 Sk Sv vk vl W4:=by
 have hs:=h.size;have Ti:=hb.size;obtain⟨xs,h1,h2⟩:=h.dS;have kp:aj (fun _=>False) W W4:=aj.fO hb;refine⟨(hb.block b (by omega)).trans h.box,(hb.block (b+1) (by omega)).trans h.res,(hb.block (b+2) (by omega)).trans h.obj,bz h.keys kp fun _ _ h=>h,⟨xs,bz h1 kp fun _ _ h=>h,h2.carry fun k hk=> ?_⟩, ?_,h.ne,h.nek,h.nel,h.low,h.below.trans ⟨hb.os,hb.tape,hb.output,hb.size,fun k hk=>hb.block k (by omega)⟩,h.at'⟩
 ·rcases hk with hk| hk
  ·have:=h.low k hk;exact⟨.inl hk,hb.block k (by omega)⟩
  ·exact⟨.inr ⟨hk.1,by have:=hk.2.1;omega,hk.2.2⟩,hb.block k hk.2.1⟩
 ·rcases h.WX with h'| ⟨h',Ou⟩
  ·exact .inl h'
  ·exact .inr ⟨h',(hb.block D (Array.getElem?_eq_some_iff.1 Ou).1).trans Ou⟩
theorem OI.drew(h:OI O w b D dn qh c0 c1 c2 Sk Sv vk vl W):OI O w b D dn qh c0 c1 c2 Sk Sv vk vl W.drew:=h.more ⟨rfl,rfl,rfl,Nat.le_refl _,fun _ _=>rfl⟩
theorem uq{o:Obj}{row:Option Nat}{f k:Nat}{v:Value}(hg:(W.alloc o).grownBy W2 row)(hk:k<W.heap.size)(hr:row≠some k)(hb:k≠b+2):(W2.setCell ⟨b+2,f,none⟩ v).heap[k]?=W.heap[k]?:=by
 have K3:aj (One (b+2)) W2 (W2.setCell ⟨b+2,f,none⟩ v):=aj.setCell (aj.refl _ _) (fun _=>(rfl:b+2=b+2)) _;have:=hg.size;simp at this;rw[K3.block k (by omega) (by unfold One;exact hb),bP hg hk hr]
theorem OI.key(h:OI O w b D dn qh c0 c1 c2 Sk Sv vk vl W){x:ByteArray}{o:Obj}(aT:W2.ownsRow (b+3) 9 1 j_ (Sk.length+1) (Sk.map Value.string++ [.string x]))(hg:(W.alloc o).grownBy W2 vk.ownBlock)(jB:j_.ownBlock=vk.ownBlock\/ j_.ownBlock=some (W.alloc o).heap.size):
    W2.cell? ⟨b+2,3,none⟩=some vk/\W2.frozen? ⟨b+2,3,none⟩=false/\OI O w b D dn qh c0 c1 c2 (Sk++ [x]) Sv j_ vl (W2.setCell ⟨b+2,3,none⟩ j_):=by
 have hs:=h.size;have qW:=aM h.keys;obtain⟨xs,bW,eZ⟩:=h.dS;have o6:=aM bW;have hgs:=hg.size;simp at hgs;have ob:W2.heap[b+2]?=some (.cells #[c0,c1,c2,vk,vl] 25 (0,0)):=by
  rw[bP hg (by omega) (fun e=>by have:=qW _ e;omega)];exact h.obj
 have K3:aj (One (b+2)) W2 (W2.setCell ⟨b+2,3,none⟩ j_):=aj.setCell (aj.refl _ _) (fun _=>(rfl:b+2=b+2)) _;have RZ:=aM aT;have new:∀i,j_.ownBlock=some i->vk.ownBlock=some i\/ W.heap.size<i:=fun i e=>by
  rcases jB with h1| h1
  ·exact .inl (h1 ▸ e)
  ·rw[h1]at e;have:=Option.some.inj e;simp at this;exact .inr (by omega)
 have carry:∀k,Eb O b D vk vl W k->Eb O b D j_ vl (W2.setCell ⟨b+2,3,none⟩ j_) k/\(W2.setCell ⟨b+2,3,none⟩ j_).heap[k]?=W.heap[k]?:=by
  intro k hk
  rcases hk with hk| hk
  ·have:=h.low k hk;exact⟨.inl hk,uq hg (by omega) (fun e=>by have:=qW _ e;omega) (by omega)⟩
  ·refine⟨.inr ⟨hk.1,by have:=hk.2.1;simp;omega,fun e=> ?_,hk.2.2.2.1,hk.2.2.2.2⟩,uq hg hk.2.1 hk.2.2.1 (by have:=hk.1;omega)⟩
   rcases new k e with h'| h'
   ·exact hk.2.2.1 h'
   ·have:=hk.2.1;omega
 refine⟨fK ob,iI ob 3,⟨?_, ?_, ?_, ?_,⟨xs, ?_,eZ.carry carry⟩, ?_, ?_, ?_,h.nel,h.low, ?_,h.at'⟩⟩
 ·rw[uq hg (by omega) (fun e=>by have:=qW _ e;omega) (by omega)];exact h.box
 ·rw[uq hg (by omega) (fun e=>by have:=qW _ e;omega) (by omega)];exact h.res
 ·rw[heap_setCell_same _ (b+2) 3 _ _ _ ob];rfl
 ·rw[List.length_append,List.map_append];exact bz aT K3 fun k e=>by have:=RZ k e;unfold One;omega
 ·exact bz (bz (bW.alloc o) (S:=fun k=>vk.ownBlock=some k) (aj.dm hg fun _ _ e=>e) fun k e e'=>h.ne k e' e) K3 fun k e=>by have:=o6 k e;unfold One;omega
 ·rcases h.WX with h'| ⟨h',Ou⟩
  ·exact .inl h'
  ·exact .inr ⟨h',by rw[uq hg (Array.getElem?_eq_some_iff.1 Ou).1 h.nek (by omega)];exact Ou⟩
 ·intro i e e'
  rcases new i e with h1| h1
  ·exact h.ne i h1 e'
  ·have:=(o6 i e').2;omega
 ·intro e
  rcases new D e with h1| h1
  ·exact h.nek h1
  ·rcases h.WX with h'| ⟨_,Ou⟩
   ·omega
   ·have:=(Array.getElem?_eq_some_iff.1 Ou).1;omega
 ·refine h.below.trans ⟨hg.os,hg.tape,hg.output,by simp;omega,fun k hk=>uq hg (by omega) (fun e=>by have:=qW _ e;omega) (by omega)⟩
theorem OI.val(h:OI O w b D dn qh c0 c1 c2 Sk Sv vk vl W){y:J}{cs xs:List Value}{o:Obj}(bW:W.ownsRow (b+3) 25 5 vl Sv.length xs)(eZ:isRow (Eb O b D vk vl W) W Sv xs)(hy:isJ (Eb O b D vk vl W) W y cs)(aT:W2.ownsRow (b+3) 25 5 il (Sv.length+1) (xs++cs))(hg:(W.alloc o).grownBy W2 vl.ownBlock)(jB:il.ownBlock=vl.ownBlock\/ il.ownBlock=some (W.alloc o).heap.size):
    W2.cell? ⟨b+2,4,none⟩=some vl/\W2.frozen? ⟨b+2,4,none⟩=false/\OI O w b D dn qh c0 c1 c2 Sk (Sv++ [y]) vk il (W2.setCell ⟨b+2,4,none⟩ il):=by
 have hs:=h.size;have qW:=aM h.keys;have o6:=aM bW;have hgs:=hg.size;simp at hgs;have ob:W2.heap[b+2]?=some (.cells #[c0,c1,c2,vk,vl] 25 (0,0)):=by
  rw[bP hg (by omega) (fun e=>by have:=o6 _ e;omega)];exact h.obj
 have K3:aj (One (b+2)) W2 (W2.setCell ⟨b+2,4,none⟩ il):=aj.setCell (aj.refl _ _) (fun _=>(rfl:b+2=b+2)) _;have Pk:=aM aT;have new:∀i,il.ownBlock=some i->vl.ownBlock=some i\/ W.heap.size<i:=fun i e=>by
  rcases jB with h1| h1
  ·exact .inl (h1 ▸ e)
  ·rw[h1]at e;have:=Option.some.inj e;simp at this;exact .inr (by omega)
 have carry:∀k,Eb O b D vk vl W k->Eb O b D vk il (W2.setCell ⟨b+2,4,none⟩ il) k/\(W2.setCell ⟨b+2,4,none⟩ il).heap[k]?=W.heap[k]?:=by
  intro k hk
  rcases hk with hk| hk
  ·have:=h.low k hk;exact⟨.inl hk,uq hg (by omega) (fun e=>by have:=o6 _ e;omega) (by omega)⟩
  ·refine⟨.inr ⟨hk.1,by have:=hk.2.1;simp;omega,hk.2.2.1,fun e=> ?_,hk.2.2.2.2⟩,uq hg hk.2.1 hk.2.2.2.1 (by have:=hk.1;omega)⟩
   rcases new k e with h'| h'
   ·exact hk.2.2.2.1 h'
   ·have:=hk.2.1;omega
 refine⟨bA ob,iI ob 4,⟨?_, ?_, ?_, ?_,⟨xs++cs, ?_,isRow.snoc hy.pO (hy.carry carry) Sv xs (eZ.carry carry)⟩, ?_, ?_,h.nek, ?_,h.low, ?_,h.at'⟩⟩
 ·rw[uq hg (by omega) (fun e=>by have:=o6 _ e;omega) (by omega)];exact h.box
 ·rw[uq hg (by omega) (fun e=>by have:=o6 _ e;omega) (by omega)];exact h.res
 ·rw[heap_setCell_same _ (b+2) 4 _ _ _ ob];rfl
 ·exact bz (bz (h.keys.alloc o) (S:=fun k=>vl.ownBlock=some k) (aj.dm hg fun _ _ e=>e) fun k e e'=>h.ne k e e') K3 fun k e=>by have:=qW k e;unfold One;omega
 ·rw[List.length_append];exact bz aT K3 fun k e=>by have:=Pk k e;unfold One;omega
 ·rcases h.WX with h'| ⟨h',Ou⟩
  ·exact .inl h'
  ·exact .inr ⟨h',by rw[uq hg (Array.getElem?_eq_some_iff.1 Ou).1 h.nel (by omega)];exact Ou⟩
 ·intro i e e'
  rcases new i e' with h1| h1
  ·exact h.ne i e h1
  ·have:=(qW i e).2;omega
 ·intro e
  rcases new D e with h1| h1
  ·exact h.nel h1
  ·rcases h.WX with h'| ⟨_,Ou⟩
   ·omega
   ·have:=(Array.getElem?_eq_some_iff.1 Ou).1;omega
 ·refine h.below.trans ⟨hg.os,hg.tape,hg.output,by simp;omega,fun k hk=>uq hg (by omega) (fun e=>by have:=o6 _ e;omega) (by omega)⟩
theorem OI.new(h:OI O w b D dn qh c0 c1 c2 Sk Sv vk vl W)(hb:Below W.heap.size W W4){y:J}{cs:List Value}(hy:isJ (fun k=>O k\/ fB W W4 k) W4 y cs):isJ (Eb O b D vk vl W4) W4 y cs:=by
 have hs:=h.size;have Ti:=hb.size;obtain⟨xs,h1,_⟩:=h.dS;refine hy.carry fun k hk=>⟨?_,rfl⟩
 rcases hk with hk| hk
 ·exact .inl hk
 ·have e1:=hk.1;refine .inr ⟨by omega,hk.2,fun e=>by have:=(aM h.keys k e).2;omega,fun e=>by have:=(aM h1 k e).2;omega,fun e=> ?_⟩
  rcases h.WX with h'| ⟨_,Ou⟩
  ·omega
  ·have:=(Array.getElem?_eq_some_iff.1 Ou).1;omega
theorem OI.marks(h:OI O w b 0 dn qh c0 c1 c2 Sk Sv vk vl W)(ds:List Bool):OI O w b W.heap.size ds qh c0 c1 c2 Sk Sv vk vl (W.alloc (.cells (ds.map Value.bool).toArray 4)):=by
 have hs:=h.size;have hb:Below W.heap.size W (W.alloc (.cells (ds.map Value.bool).toArray 4)):=(Below.refl _ _).alloc (Nat.le_refl _) _;obtain⟨xs,h1,h2⟩:=h.dS;have kp:aj (fun _=>False) W (W.alloc (.cells (ds.map Value.bool).toArray 4)):=aj.fO hb;refine⟨(hb.block b (by omega)).trans h.box,(hb.block (b+1) (by omega)).trans h.res,(hb.block (b+2) (by omega)).trans h.obj,bz h.keys kp fun _ _ h=>h,⟨xs,bz h1 kp fun _ _ h=>h,h2.carry fun k hk=> ?_⟩,.inr ⟨by omega,heap_alloc_new _ _⟩,h.ne,fun e=>by have:=(aM h.keys _ e).2;omega,fun e=>by have:=(aM h1 _ e).2;omega,h.low,h.below.trans ⟨hb.os,hb.tape,hb.output,hb.size,fun k hk=>hb.block k (by omega)⟩,h.at'⟩
 rcases hk with hk| hk
 ·have:=h.low k hk;exact⟨.inl hk,hb.block k (by omega)⟩
 ·exact⟨.inr ⟨hk.1,by have:=hk.2.1;simp;omega,hk.2.2.1,hk.2.2.2.1,by have:=hk.2.1;omega⟩,hb.block k hk.2.1⟩
theorem OI.mark(h:OI O w b D dn qh c0 c1 c2 Sk Sv vk vl W)(hD:b+3<=D)(m:Nat):OI O w b D (dn.set m true) qh c0 c1 c2 Sk Sv vk vl (W.setCell ⟨D,m,none⟩ (.bool true)):=by
 have hs:=h.size;obtain⟨xs,h1,h2⟩:=h.dS;have K3:aj (One D) W (W.setCell ⟨D,m,none⟩ (.bool true)):=aj.setCell (aj.refl _ _) (fun _=>(rfl:D=D)) _;obtain⟨_,hd⟩:b+3<=D/\W.heap[D]?=some (.cells (dn.map Value.bool).toArray 4 (0,0)):=by
  rcases h.WX with h'| h'
  ·omega
  ·exact h'
 have QJ:∀k,k<W.heap.size->k≠D->(W.setCell ⟨D,m,none⟩ (.bool true)).heap[k]?=W.heap[k]?:=fun k hk hn=>K3.block k hk (by unfold One;exact hn);refine⟨(QJ b (by omega) (by omega)).trans h.box,(QJ (b+1) (by omega) (by omega)).trans h.res,(QJ (b+2) (by omega) (by omega)).trans h.obj,bz h.keys K3 fun k e=>by unfold One;exact fun e'=>h.nek (e' ▸ e),⟨xs,bz h1 K3 fun k e=>by unfold One;exact fun e'=>h.nel (e' ▸ e),h2.carry fun k hk=> ?_⟩,.inr ⟨hD, ?_⟩,h.ne,h.nek,h.nel,h.low,h.below.trans ⟨rfl,rfl,rfl,by simp,fun k hk=>QJ k (by omega) (by omega)⟩,h.at'⟩
 ·rcases hk with hk| hk
  ·have:=h.low k hk;exact⟨.inl hk,QJ k (by omega) (by omega)⟩
  ·exact⟨.inr ⟨hk.1,by have:=hk.2.1;simp;omega,hk.2.2⟩,QJ k hk.2.1 hk.2.2.2.2⟩
 ·rw[heap_setCell_same _ D m _ _ _ hd]
  congr 2
  rw[<-Array.toList_inj];simp[List.map_set]
end
end Go.Proofs.YtegcgbjjpgjnmaaGreatDoor

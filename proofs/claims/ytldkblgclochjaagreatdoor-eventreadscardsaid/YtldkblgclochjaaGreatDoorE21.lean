/- A part. -/
import Derived.Test.YtldkblgclochjaaGreatDoorE20
set_option maxRecDepth 100000
set_option maxHeartbeats 16000000
namespace Go.Proofs.YtldkblgclochjaaGreatDoor
open Go.RowKit
theorem XD:∀(n:Nat) (P:List Nat),P.Nodup->(∀i∈P,i<n)->P.length<=n
 | 0,P,_,h=>by
  cases P with
  | nil=>exact Nat.le_refl _
  | cons x r=>exact absurd (h x (by simp)) (by omega)
 | n+1,P,UX,h=>by
  have h1:(P.erase n).length<=n:=XD n (P.erase n) (UX.erase n) fun i c=>by
   have h2:=h i (List.mem_of_mem_erase c);have h3:i≠n:=fun e=>by subst e;exact(UX.not_mem_erase) c
   omega
  have h4:=List.length_erase (a:=n) (l:=P)
  split at h4<;>omega
theorem Gb:∀(n:Nat) (P:List Nat),(∀j,j<n->j∈P)->n<=P.length
 | 0,_,_=>Nat.zero_le _
 | n+1,P,h=>by
  have h1:n<=(P.erase n).length:=Gb n (P.erase n) fun j c=>(List.mem_erase_of_ne (by omega)).2 (h j (by omega));have h2:=List.length_erase_of_mem (h n (by omega));have h3:0<P.length:=List.length_pos_of_mem (h n (by omega));omega
theorem Dy:∀(n:Nat) (P:List Nat),P.Nodup->(∀i∈P,i<n)->P.length=n->P.Perm (List.range n)
 | 0,P,_,_,h=>by
  obtain rfl:P= []:=List.eq_nil_of_length_eq_zero h;exact List.Perm.refl _
 | n+1,P,UX,bQ,hl=>by
  have d:n∈P:=by
   refine Classical.byContradiction fun f=> ?_;have:=XD n P UX fun i c=>by
    have:=bQ i c;have:i≠n:=fun e=>f (e ▸ c);omega
   omega
  have h1:=Dy n (P.erase n) (UX.erase n) (fun i c=>by
   have h2:=bQ i (List.mem_of_mem_erase c);have h3:i≠n:=fun e=>by subst e;exact(UX.not_mem_erase) c
   omega) (by rw[List.length_erase_of_mem d];omega)
  rw[List.range_succ];exact(List.perm_cons_erase d).trans ((h1.cons n).trans (List.perm_append_singleton n (List.range n)).symm)
structure zA(ks:List ByteArray)(P:List Nat):Prop where
 nd:P.Nodup
 lt:∀i∈P,i<ks.length
 up:P.Pairwise (fun i j=>pQ (aM ks i) (aM ks j)=true)
 over:∀i∈P,∀j,j<ks.length->j∉P->pQ (aM ks i) (aM ks j)=true
theorem zA.nil(ks:List ByteArray):zA ks []:=⟨List.nodup_nil,fun i h=>(by cases h),List.Pairwise.nil,fun i h=>(by cases h)⟩
theorem zA.snoc{ks:List ByteArray}{P:List Nat}(h:zA ks P){m:Nat}(E:m<ks.length)(A:m∉P)(k:∀j,j<ks.length->j∉P->j=m\/ pQ (aM ks m) (aM ks j)=true):zA ks (P++ [m]):=by
 refine⟨?_,fun i c=> ?_, ?_,fun i c j z d=> ?_⟩
 ·unfold List.Nodup;rw[List.pairwise_append];exact⟨h.nd,List.pairwise_singleton _ _,fun a u b x=>by rw[List.mem_singleton.1 x];exact fun e=>A (e ▸ u)⟩
 ·rcases List.mem_append.1 c with c| c
  ·exact h.lt i c
  ·rw[List.mem_singleton.1 c];exact E
 ·rw[List.pairwise_append];exact⟨h.up,List.pairwise_singleton _ _,fun a u b x=>by rw[List.mem_singleton.1 x];exact h.over a u m E A⟩
 ·have f:j∉P:=fun e=>d (List.mem_append_left _ e)
  rcases List.mem_append.1 c with c| c
  ·exact h.over i c j z f
  ·rw[List.mem_singleton.1 c]
   rcases k j z f with e| e
   ·exact absurd (by rw[e];simp) d
   ·exact e
theorem zA.full{ks:List ByteArray}{P:List Nat}{l:List J}(h:zA ks P)(f:P.length=ks.length)(m:ks.length=l.length)(d:ks.Pairwise (· ≠ ·)):DY ks l P=fT (ks.zip l):=by
 have j:=Dy ks.length P h.nd h.lt f;have k:(DY ks l P).Perm (ks.zip l):=by
  rw[<-EZ ks l m];exact j.map _
 have c:(ks.zip l).Pairwise fun x y=>x.1≠y.1:=by
  have:((ks.zip l).map (·.1)).Pairwise (· ≠ ·):=by rw[List.map_fst_zip (by omega)];exact d
  exact List.pairwise_map.1 this
 refine BQ _ _ ?_ (lK _ c) (k.trans (oG _).symm);unfold DY;rw[List.map_map];exact BR _ P h.up
def gL(ks:List ByteArray)(P:List Nat)(i:Nat)(v:Int):Prop:=
 (v= -1/\∀j,j<i->j∈P)\/ ∃m:Nat,v=m/\m<i/\m∉P/\∀j,j<i->j∉P->j=m\/ pQ (aM ks m) (aM ks j)=true
section
variable {ks : List ByteArray} {P : List Nat} {i : Nat} {v : Int}
theorem gL.zero:gL ks P 0 (-1):=.inl ⟨rfl,fun j h=>absurd h (by omega)⟩
theorem gL.skip(h:gL ks P i v)(c:i∈P):gL ks P (i+1) v:=by
 rcases h with⟨h1,h2⟩| ⟨m,h1,h2,h3,h4⟩
 ·refine .inl ⟨h1,fun j f=> ?_⟩
  by_cases e:j=i
  ·rw[e];exact c
  ·exact h2 j (by omega)
 ·refine .inr ⟨m,h1,by omega,h3,fun j f d=> ?_⟩
  by_cases e:j=i
  ·exact absurd (e ▸ c) d
  ·exact h4 j (by omega) d
theorem gL.first(h:gL ks P i (-1))(c:i∉P):gL ks P (i+1) i:=by
 rcases h with⟨_,h2⟩| ⟨m,h1,_⟩
 ·refine .inr ⟨i,rfl,by omega,c,fun j f d=>.inl ?_⟩
  by_cases e:j=i
  ·exact e
  ·exact absurd (h2 j (by omega)) d
 ·omega
theorem gL.less{m:Nat}(h:gL ks P i m)(k:i∉P)(d:pQ (aM ks i) (aM ks m)=true):gL ks P (i+1) i:=by
 rcases h with⟨h1,_⟩| ⟨f,h1,h2,h3,h4⟩
 ·omega
 ·obtain rfl:m=f:=by omega
  refine .inr ⟨i,rfl,by omega,k,fun j x u=> ?_⟩
  by_cases e:j=i
  ·exact .inl e
  ·right
   rcases h4 j (by omega) u with c| c
   ·rw[c];exact d
   ·exact mE d c
theorem gL.same{m:Nat}(h:gL ks P i m)(d:pQ (aM ks i) (aM ks m)=false)(u:m<i->aM ks m≠aM ks i):gL ks P (i+1) m:=by
 rcases h with⟨h1,_⟩| ⟨f,h1,h2,h3,h4⟩
 ·omega
 ·obtain rfl:m=f:=by omega
  refine .inr ⟨m,rfl,by omega,h3,fun j x k=> ?_⟩
  by_cases e:j=i
  ·right
   rw[e]
   rcases qB (u h2)with c| c
   ·exact c
   ·rw[c]at d;cases d
  ·exact h4 j (by omega) k
theorem gL.done(h:gL ks P ks.length v)(c:zA ks P)(d:P.length<ks.length):∃m:Nat,v=m/\m<ks.length/\m∉P/\zA ks (P++ [m]):=by
 rcases h with⟨_,h2⟩| ⟨m,h1,h2,h3,h4⟩
 ·have:=Gb ks.length P h2;omega
 ·exact⟨m,h1,h2,h3,c.snoc h2 h3 h4⟩
end
theorem bytesLess_eq:∀x y:List UInt8,Op.bytesLess x y=lessB x y
 | [], []=>rfl
 | [],_::_=>rfl
 | _::_, []=>rfl
 | a::x,b::y=>by
  unfold Op.bytesLess lessB;rw[bytesLess_eq x y]
  cases h:decide (a=b)<;>simp_all
theorem KU(a b:ByteArray):Op.bytesLess a.toList b.toList=pQ a b:=by
 rw[bytesLess_eq];unfold pQ;rw[Lib.toList_data,Lib.toList_data]
def Eb(O:Nat->Prop)(b D:Nat)(vk vl:Value)(w:World):Nat->Prop:=fun k=>O k\/ (b+3<=k/\k<w.heap.size/\vk.ownBlock≠some k/\vl.ownBlock≠some k/\k≠D)
structure OI(O:Nat->Prop)(w:World)(b D:Nat)(dn:List Bool)(qN:Array Value)(c0 c1 c2:Value)(Sk:List ByteArray)(Sv:List J)(vk vl:Value)(W:World):Prop where
 box:W.heap[b]?=some (.cells qN 25 (0,0))
 res:W.heap[b+1]?=some (.cells #[.int .i64 0,.int .i64 0,.string ⟨#[]⟩,.slice none 0 0,.slice none 0 0] 25 (0,0))
 obj:W.heap[b+2]?=some (.cells #[c0,c1,c2,vk,vl] 25 (0,0))
 keys:W.ownsRow (b+3) 9 1 vk Sk.length (Sk.map Value.string)
 eD:∃xs,W.ownsRow (b+3) 25 5 vl Sv.length xs/\isRow (Eb O b D vk vl W) W Sv xs
 dnr:D=0\/ (b+3<=D/\W.heap[D]?=some (.cells (dn.map Value.bool).toArray 4 (0,0)))
 ne:∀i,vk.ownBlock=some i->vl.ownBlock≠some i
 nek:vk.ownBlock≠some D
 nel:vl.ownBlock≠some D
 low:∀k,O k->k<b
 below:Below b w W
 at':b=w.heap.size
section
variable {O : Nat -> Prop} {w W W2 W4 : World} {b D : Nat} {dn : List Bool} {qN : Array Value} {c0 c1 c2 : Value} {Sk : List ByteArray} {Sv : List J} {vk vl kG iM : Value}
theorem OI.size(h:OI O w b D dn qN c0 c1 c2 Sk Sv vk vl W):b+2<W.heap.size:=(Array.getElem?_eq_some_iff.1 h.obj).1
theorem OI.more(h:OI O w b D dn qN c0 c1 c2 Sk Sv vk vl W)(c:Below W.heap.size W W4):OI O w b D dn qN c0 c1 c2 Sk Sv vk vl W4:=by
 have u:=h.size;have m:=c.size;obtain⟨xs,h1,h2⟩:=h.eD;have kp:ag (fun _=>False) W W4:=ag.fJ c;refine⟨(c.block b (by omega)).trans h.box,(c.block (b+1) (by omega)).trans h.res,(c.block (b+2) (by omega)).trans h.obj,aX h.keys kp fun _ _ h=>h,⟨xs,aX h1 kp fun _ _ h=>h,h2.carry fun k d=> ?_⟩, ?_,h.ne,h.nek,h.nel,h.low,h.below.trans ⟨c.os,c.tape,c.output,c.size,fun k d=>c.block k (by omega)⟩,h.at'⟩
 ·rcases d with d| d
  ·have:=h.low k d;exact⟨.inl d,c.block k (by omega)⟩
  ·exact⟨.inr ⟨d.1,by have:=d.2.1;omega,d.2.2⟩,c.block k d.2.1⟩
 ·rcases h.dnr with f| ⟨f,j⟩
  ·exact .inl f
  ·exact .inr ⟨f,(c.block D (Array.getElem?_eq_some_iff.1 j).1).trans j⟩
theorem OI.drew(h:OI O w b D dn qN c0 c1 c2 Sk Sv vk vl W):OI O w b D dn qN c0 c1 c2 Sk Sv vk vl W.drew:=h.more ⟨rfl,rfl,rfl,Nat.le_refl _,fun _ _=>rfl⟩
theorem vS{o:Obj}{row:Option Nat}{f k:Nat}{v:Value}(c:(W.alloc o).grownBy W2 row)(h:k<W.heap.size)(d:row≠some k)(j:k≠b+2):(W2.setCell ⟨b+2,f,none⟩ v).heap[k]?=W.heap[k]?:=by
 have K3:ag (One (b+2)) W2 (W2.setCell ⟨b+2,f,none⟩ v):=ag.setCell (ag.refl _ _) (fun _=>(rfl:b+2=b+2)) _;have:=c.size;simp at this;rw[K3.block k (by omega) (by unfold One;exact j),bU c h d]
theorem OI.key(h:OI O w b D dn qN c0 c1 c2 Sk Sv vk vl W){x:ByteArray}{o:Obj}(G:W2.ownsRow (b+3) 9 1 kG (Sk.length+1) (Sk.map Value.string++ [.string x]))(d:(W.alloc o).grownBy W2 vk.ownBlock)(H:kG.ownBlock=vk.ownBlock\/ kG.ownBlock=some (W.alloc o).heap.size):
    W2.cell? ⟨b+2,3,none⟩=some vk/\W2.frozen? ⟨b+2,3,none⟩=false/\OI O w b D dn qN c0 c1 c2 (Sk++ [x]) Sv kG vl (W2.setCell ⟨b+2,3,none⟩ kG):=by
 have N:=h.size;have j:=aJ h.keys;obtain⟨xs,F,K⟩:=h.eD;have E:=aJ F;have z:=d.size;simp at z;have A:W2.heap[b+2]?=some (.cells #[c0,c1,c2,vk,vl] 25 (0,0)):=by
  rw[bU d (by omega) (fun e=>by have:=j _ e;omega)];exact h.obj
 have K3:ag (One (b+2)) W2 (W2.setCell ⟨b+2,3,none⟩ kG):=ag.setCell (ag.refl _ _) (fun _=>(rfl:b+2=b+2)) _;have I:=aJ G;have new:∀i,kG.ownBlock=some i->vk.ownBlock=some i\/ W.heap.size<i:=fun i e=>by
  rcases H with h1| h1
  ·exact .inl (h1 ▸ e)
  ·rw[h1]at e;have:=Option.some.inj e;simp at this;exact .inr (by omega)
 have carry:∀k,Eb O b D vk vl W k->Eb O b D kG vl (W2.setCell ⟨b+2,3,none⟩ kG) k/\(W2.setCell ⟨b+2,3,none⟩ kG).heap[k]?=W.heap[k]?:=by
  intro k c
  rcases c with c| c
  ·have:=h.low k c;exact⟨.inl c,vS d (by omega) (fun e=>by have:=j _ e;omega) (by omega)⟩
  ·refine⟨.inr ⟨c.1,by have:=c.2.1;simp;omega,fun e=> ?_,c.2.2.2.1,c.2.2.2.2⟩,vS d c.2.1 c.2.2.1 (by have:=c.1;omega)⟩
   rcases new k e with f| f
   ·exact c.2.2.1 f
   ·have:=c.2.1;omega
 refine⟨fV A,iU A 3,⟨?_, ?_, ?_, ?_,⟨xs, ?_,K.carry carry⟩, ?_, ?_, ?_,h.nel,h.low, ?_,h.at'⟩⟩
 ·rw[vS d (by omega) (fun e=>by have:=j _ e;omega) (by omega)];exact h.box
 ·rw[vS d (by omega) (fun e=>by have:=j _ e;omega) (by omega)];exact h.res
 ·rw[heap_setCell_same _ (b+2) 3 _ _ _ A];rfl
 ·rw[List.length_append,List.map_append];exact aX G K3 fun k e=>by have:=I k e;unfold One;omega
 ·exact aX (aX (F.alloc o) (S:=fun k=>vk.ownBlock=some k) (ag.dt d fun _ _ e=>e) fun k e u=>h.ne k u e) K3 fun k e=>by have:=E k e;unfold One;omega
 ·rcases h.dnr with f| ⟨f,m⟩
  ·exact .inl f
  ·exact .inr ⟨f,by rw[vS d (Array.getElem?_eq_some_iff.1 m).1 h.nek (by omega)];exact m⟩
 ·intro i e u
  rcases new i e with h1| h1
  ·exact h.ne i h1 u
  ·have:=(E i u).2;omega
 ·intro e
  rcases new D e with h1| h1
  ·exact h.nek h1
  ·rcases h.dnr with f| ⟨_,m⟩
   ·omega
   ·have:=(Array.getElem?_eq_some_iff.1 m).1;omega
 ·refine h.below.trans ⟨d.os,d.tape,d.output,by simp;omega,fun k c=>vS d (by omega) (fun e=>by have:=j _ e;omega) (by omega)⟩
theorem OI.val(h:OI O w b D dn qN c0 c1 c2 Sk Sv vk vl W){y:J}{cs xs:List Value}{o:Obj}(H:W.ownsRow (b+3) 25 5 vl Sv.length xs)(I:isRow (Eb O b D vk vl W) W Sv xs)(A:isJ (Eb O b D vk vl W) W y cs)(E:W2.ownsRow (b+3) 25 5 iM (Sv.length+1) (xs++cs))(d:(W.alloc o).grownBy W2 vl.ownBlock)(G:iM.ownBlock=vl.ownBlock\/ iM.ownBlock=some (W.alloc o).heap.size):
    W2.cell? ⟨b+2,4,none⟩=some vl/\W2.frozen? ⟨b+2,4,none⟩=false/\OI O w b D dn qN c0 c1 c2 Sk (Sv++ [y]) vk iM (W2.setCell ⟨b+2,4,none⟩ iM):=by
 have N:=h.size;have F:=aJ h.keys;have j:=aJ H;have u:=d.size;simp at u;have x:W2.heap[b+2]?=some (.cells #[c0,c1,c2,vk,vl] 25 (0,0)):=by
  rw[bU d (by omega) (fun e=>by have:=j _ e;omega)];exact h.obj
 have K3:ag (One (b+2)) W2 (W2.setCell ⟨b+2,4,none⟩ iM):=ag.setCell (ag.refl _ _) (fun _=>(rfl:b+2=b+2)) _;have K:=aJ E;have new:∀i,iM.ownBlock=some i->vl.ownBlock=some i\/ W.heap.size<i:=fun i e=>by
  rcases G with h1| h1
  ·exact .inl (h1 ▸ e)
  ·rw[h1]at e;have:=Option.some.inj e;simp at this;exact .inr (by omega)
 have carry:∀k,Eb O b D vk vl W k->Eb O b D vk iM (W2.setCell ⟨b+2,4,none⟩ iM) k/\(W2.setCell ⟨b+2,4,none⟩ iM).heap[k]?=W.heap[k]?:=by
  intro k c
  rcases c with c| c
  ·have:=h.low k c;exact⟨.inl c,vS d (by omega) (fun e=>by have:=j _ e;omega) (by omega)⟩
  ·refine⟨.inr ⟨c.1,by have:=c.2.1;simp;omega,c.2.2.1,fun e=> ?_,c.2.2.2.2⟩,vS d c.2.1 c.2.2.2.1 (by have:=c.1;omega)⟩
   rcases new k e with f| f
   ·exact c.2.2.2.1 f
   ·have:=c.2.1;omega
 refine⟨aZ x,iU x 4,⟨?_, ?_, ?_, ?_,⟨xs++cs, ?_,isRow.snoc A.qC (A.carry carry) Sv xs (I.carry carry)⟩, ?_, ?_,h.nek, ?_,h.low, ?_,h.at'⟩⟩
 ·rw[vS d (by omega) (fun e=>by have:=j _ e;omega) (by omega)];exact h.box
 ·rw[vS d (by omega) (fun e=>by have:=j _ e;omega) (by omega)];exact h.res
 ·rw[heap_setCell_same _ (b+2) 4 _ _ _ x];rfl
 ·exact aX (aX (h.keys.alloc o) (S:=fun k=>vl.ownBlock=some k) (ag.dt d fun _ _ e=>e) fun k e z=>h.ne k e z) K3 fun k e=>by have:=F k e;unfold One;omega
 ·rw[List.length_append];exact aX E K3 fun k e=>by have:=K k e;unfold One;omega
 ·rcases h.dnr with f| ⟨f,m⟩
  ·exact .inl f
  ·exact .inr ⟨f,by rw[vS d (Array.getElem?_eq_some_iff.1 m).1 h.nel (by omega)];exact m⟩
 ·intro i e z
  rcases new i z with h1| h1
  ·exact h.ne i e h1
  ·have:=(F i e).2;omega
 ·intro e
  rcases new D e with h1| h1
  ·exact h.nel h1
  ·rcases h.dnr with f| ⟨_,m⟩
   ·omega
   ·have:=(Array.getElem?_eq_some_iff.1 m).1;omega
 ·refine h.below.trans ⟨d.os,d.tape,d.output,by simp;omega,fun k c=>vS d (by omega) (fun e=>by have:=j _ e;omega) (by omega)⟩
theorem OI.new(h:OI O w b D dn qN c0 c1 c2 Sk Sv vk vl W)(d:Below W.heap.size W W4){y:J}{cs:List Value}(f:isJ (fun k=>O k\/ gH W W4 k) W4 y cs):isJ (Eb O b D vk vl W4) W4 y cs:=by
 have z:=h.size;have m:=d.size;obtain⟨xs,h1,_⟩:=h.eD;refine f.carry fun k c=>⟨?_,rfl⟩
 rcases c with c| c
 ·exact .inl c
 ·have u:=c.1;refine .inr ⟨by omega,c.2,fun e=>by have:=(aJ h.keys k e).2;omega,fun e=>by have:=(aJ h1 k e).2;omega,fun e=> ?_⟩
  rcases h.dnr with x| ⟨_,j⟩
  ·omega
  ·have:=(Array.getElem?_eq_some_iff.1 j).1;omega
theorem OI.marks(h:OI O w b 0 dn qN c0 c1 c2 Sk Sv vk vl W)(f:List Bool):OI O w b W.heap.size f qN c0 c1 c2 Sk Sv vk vl (W.alloc (.cells (f.map Value.bool).toArray 4)):=by
 have j:=h.size;have d:Below W.heap.size W (W.alloc (.cells (f.map Value.bool).toArray 4)):=(Below.refl _ _).alloc (Nat.le_refl _) _;obtain⟨xs,h1,h2⟩:=h.eD;have kp:ag (fun _=>False) W (W.alloc (.cells (f.map Value.bool).toArray 4)):=ag.fJ d;refine⟨(d.block b (by omega)).trans h.box,(d.block (b+1) (by omega)).trans h.res,(d.block (b+2) (by omega)).trans h.obj,aX h.keys kp fun _ _ h=>h,⟨xs,aX h1 kp fun _ _ h=>h,h2.carry fun k c=> ?_⟩,.inr ⟨by omega,heap_alloc_new _ _⟩,h.ne,fun e=>by have:=(aJ h.keys _ e).2;omega,fun e=>by have:=(aJ h1 _ e).2;omega,h.low,h.below.trans ⟨d.os,d.tape,d.output,d.size,fun k c=>d.block k (by omega)⟩,h.at'⟩
 rcases c with c| c
 ·have:=h.low k c;exact⟨.inl c,d.block k (by omega)⟩
 ·exact⟨.inr ⟨c.1,by have:=c.2.1;simp;omega,c.2.2.1,c.2.2.2.1,by have:=c.2.1;omega⟩,d.block k c.2.1⟩
theorem OI.mark(h:OI O w b D dn qN c0 c1 c2 Sk Sv vk vl W)(u:b+3<=D)(m:Nat):OI O w b D (dn.set m true) qN c0 c1 c2 Sk Sv vk vl (W.setCell ⟨D,m,none⟩ (.bool true)):=by
 have A:=h.size;obtain⟨xs,h1,h2⟩:=h.eD;have K3:ag (One D) W (W.setCell ⟨D,m,none⟩ (.bool true)):=ag.setCell (ag.refl _ _) (fun _=>(rfl:D=D)) _;obtain⟨_,x⟩:b+3<=D/\W.heap[D]?=some (.cells (dn.map Value.bool).toArray 4 (0,0)):=by
  rcases h.dnr with j| j
  ·omega
  ·exact j
 have d:∀k,k<W.heap.size->k≠D->(W.setCell ⟨D,m,none⟩ (.bool true)).heap[k]?=W.heap[k]?:=fun k c z=>K3.block k c (by unfold One;exact z);refine⟨(d b (by omega) (by omega)).trans h.box,(d (b+1) (by omega) (by omega)).trans h.res,(d (b+2) (by omega) (by omega)).trans h.obj,aX h.keys K3 fun k e=>by unfold One;exact fun f=>h.nek (f ▸ e),⟨xs,aX h1 K3 fun k e=>by unfold One;exact fun f=>h.nel (f ▸ e),h2.carry fun k c=> ?_⟩,.inr ⟨u, ?_⟩,h.ne,h.nek,h.nel,h.low,h.below.trans ⟨rfl,rfl,rfl,by simp,fun k c=>d k (by omega) (by omega)⟩,h.at'⟩
 ·rcases c with c| c
  ·have:=h.low k c;exact⟨.inl c,d k (by omega) (by omega)⟩
  ·exact⟨.inr ⟨c.1,by have:=c.2.1;simp;omega,c.2.2⟩,d k c.2.1 c.2.2.2.2⟩
 ·rw[heap_setCell_same _ D m _ _ _ x]
  congr 2
  rw[<-Array.toList_inj];simp[List.map_set]
end
end Go.Proofs.YtldkblgclochjaaGreatDoor

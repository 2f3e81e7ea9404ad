/- A part. -/
import Derived.WalkKit
import Derived.WalkSpells
import Derived.WalkLawsBesides
import Derived.Laws.BytesArg
import Derived.Lib.Strings
import Derived.Lib.RuneBytes
import Derived.Lib.Bytealg
import Derived.Laws.RangeAny
import Derived.Lib.ItoaNum
import Derived.Orders
import Derived.Tactics2
import Derived.Laws.BitsLemmas
import Derived.Test.YtldegjjaknelgaaGreatDoorRows
import Derived.Lib.Walk
import Derived.BigQuiet
set_option maxRecDepth 100000
set_option maxHeartbeats 64000000
namespace Go.Proofs.YtldegjjaknelgaaGreatDoor
open Go.RowKit
def ints(s:ByteArray):List Int:=s.data.toList.map fun c=>(c.toNat:Int)
theorem aH(s:ByteArray):(ints s).length=s.size:=by simp[ints]
theorem cK(s:ByteArray)(k:Nat)(h:k<s.size):(ints s).getD k 0=(s[k].toNat:Int):=by
 have h':k<s.data.toList.length:=by simpa using h
 simp only[ints,List.getD_eq_getElem?_getD,List.getElem?_map,List.getElem?_eq_getElem h',Option.map_some,Option.getD_some]
 rfl
theorem iM(s:ByteArray)(k:Nat):ints (s.extract k s.size)=(ints s).drop k:=by
 simp only[ints,ByteArray.data_extract,Array.toList_extract,List.extract_eq_take_drop,List.map_take,List.map_drop];rw[List.take_of_length_le];have:(List.drop k (List.map (fun c:UInt8=>(c.toNat:Int)) s.data.toList)).length=s.size - k:=by simp
 omega
theorem N8(l:List Int)(h:∀x∈l,0<=x/\x<=255):ints (strOfNums l)=l:=by
 simp only[ints,strOfNums,List.map_map]
 conv=>rhs;rw[<-List.map_id l]
 refine List.map_congr_left fun x hx=> ?_;have:=h x hx;simp only[Function.comp,id_eq];have hx:x.toNat<256:=by omega
 rw[UInt8.toNat_ofNat_of_lt' hx];omega
theorem N9(s:ByteArray):strOfNums (ints s)=s:=by
 cases s with
 | mk d=>
  simp only[ints,strOfNums,List.map_map];have e:((fun n:Int=>UInt8.ofNat n.toNat)∘fun c:UInt8=>(c.toNat:Int))=id:=by
   funext c
   simp
  rw[e,List.map_id]
theorem N_(l:List Int):(strOfNums l).size=l.length:=by
 show(strOfNums l).data.size=_
 simp[strOfNums]
theorem ai{a b:Bool}(h:a=b):Ending.returned (.bool a)=.returned (.bool b):=by rw[h]
theorem Ry{a b:ByteArray}(h:a=b):Ending.returned (.string a)=.returned (.string b):=by rw[h]
theorem bF(a:Addr)(m:Nat):(a.add m).block=a.block:=by unfold Addr.add;split<;>rfl
theorem a_{w:World}{g t:Nat}{fr:Nat×Nat}{cur:List Value}(h:w.heap[g]?=some (.cells cur.toArray t fr))(j:Nat)(v:Value)(hj:cur[j]?=some v):w.cell? ⟨g,j,none⟩=some v:=by
 simp[World.cell?,h,hj]
theorem kG{w:World}{B e size n:Nat}{v:Value}{xs:List Value}(h:w.ownsRow B e size v n xs):∀k,v.ownBlock=some k->B<=k:=by
 intro k hk
 rcases h.2 with⟨rfl,_⟩| ⟨g,cap,cur,rfl,hg,_⟩
 ·cases hk
 ·cases hk;exact hg
inductive J where
 | mk (kind int:Int) (text:ByteArray) (keys:List ByteArray) (list:List J)
def aN:ByteArray:=⟨#[]⟩
def J.zero:J:=.mk 0 0 aN [] []
def J.kind:J->Int| .mk k _ _ _ _=>k
def J.int:J->Int| .mk _ i _ _ _=>i
def J.text:J->ByteArray| .mk _ _ t _ _=>t
def J.keys:J->List ByteArray| .mk _ _ _ ks _=>ks
def J.list:J->List J| .mk _ _ _ _ l=>l
def ax(t:List Int)(i:Nat):Int:=t.getD i 0
def dC:Int:=9007199254740991
def lessB:List UInt8->List UInt8->Bool
 | [], []=>false
 | [],_::_=>true
 | _::_, []=>false
 | a::x,b::y=>decide (a<b) || (decide (a=b)&&lessB x y)
def putK(k:ByteArray)(v:J):List (ByteArray×J)->List (ByteArray×J)
 | []=> [(k,v)]
 | q::l=>if lessB k.data.toList q.1.data.toList=true then(k,v)::q::l else q::putK k v l
def eT:List (ByteArray×J)->List (ByteArray×J)
 | []=> []
 | q::l=>putK q.1 q.2 (eT l)
def mapOf(ks:List ByteArray)(l:List J):J:=.mk 5 0 aN ((eT (ks.zip l)).map (·.1)) ((eT (ks.zip l)).map (·.2))
theorem KW{t:List Int}{p:Nat}(h:ax t p≠0):p<t.length:=by
 unfold ax at h
 rcases Nat.lt_or_ge p t.length with h'| h'
 ·exact h'
 ·rw[List.getD_eq_getElem?_getD,List.getElem?_eq_none h']at h;exact absurd rfl h
open Go.RowKit
structure av(S:Nat->Prop)(w w':World):Prop where
 os:w'.os=w.os
 tape:w'.tape=w.tape
 output:w'.output=w.output
 size:w.heap.size<=w'.heap.size
 block:∀k,k<w.heap.size->¬S k->w'.heap[k]?=w.heap[k]?
theorem av.refl(S:Nat->Prop)(w:World):av S w w:=⟨rfl,rfl,rfl,Nat.le_refl _,fun _ _ _=>rfl⟩
theorem av.trans{S S':Nat->Prop}{a b c:World}(h:av S a b)(k:av S' b c)(hS:∀i,i<a.heap.size->S' i->S i):av S a c:=
 ⟨k.os.trans h.os,k.tape.trans h.tape,k.output.trans h.output,Nat.le_trans h.size k.size,fun i hi hn=>(k.block i (Nat.lt_of_lt_of_le hi h.size) (fun h'=>hn (hS i hi h'))).trans (h.block i hi hn)⟩
theorem av.then{S:Nat->Prop}{a b c:World}(h:av S a b)(k:av S b c):av S a c:=h.trans k fun _ _ h=>h
theorem av.mono{S S':Nat->Prop}{a b:World}(h:av S a b)(hS:∀i,i<a.heap.size->S i->S' i):av S' a b:=
 ⟨h.os,h.tape,h.output,h.size,fun i hi hn=>h.block i hi fun h'=>hn (hS i hi h')⟩
theorem av.aW{S:Nat->Prop}{a b:World}(h:Below a.heap.size a b):av S a b:=⟨h.os,h.tape,h.output,h.size,fun k hk _=>h.block k hk⟩
theorem av.gp{S:Nat->Prop}{a b:World}{row:Option Nat}(h:a.grownBy b row)(hr:∀k,k<a.heap.size->row=some k->S k):av S a b:=
 ⟨h.os,h.tape,h.output,h.size,fun k hk hn=>h.block k hk fun e=>hn (hr k hk e.symm)⟩
theorem av.below{S:Nat->Prop}{a b:World}(h:av S a b){B:Nat}(hB:B<=a.heap.size)(hS:∀k,k<B->¬S k):Below B a b:=
 ⟨h.os,h.tape,h.output,h.size,fun k hk=>h.block k (Nat.lt_of_lt_of_le hk hB) (hS k hk)⟩
theorem av.cell{S:Nat->Prop}{a b:World}(h:av S a b){p:Addr}(hp:p.block<a.heap.size)(hS:¬S p.block):b.cell? p=a.cell? p:=World.cell?_of_block (h.block _ hp hS)
theorem av.drew{S:Nat->Prop}{a b:World}(h:av S a b):av S a b.drew:=⟨h.os,h.tape,h.output,h.size,h.block⟩
theorem av.drewN{S:Nat->Prop}{a b:World}(h:av S a b)(n:Nat):av S a (b.drewN n):=⟨h.os,h.tape,h.output,h.size,h.block⟩
theorem av.alloc{S:Nat->Prop}{a b:World}(h:av S a b)(o:Obj):av S a (b.alloc o):=
 h.trans (S':=fun _=>False) (av.aW ((Below.refl _ _).alloc (Nat.le_refl _) o)) fun _ _ h=>h.elim
theorem av.setCell{S:Nat->Prop}{a b:World}(h:av S a b){p:Addr}(hp:p.block<a.heap.size->S p.block)(u:Value):av S a (b.setCell p u):=
 ⟨h.os,h.tape,h.output,by rw[show(b.setCell p u).heap.size=b.heap.size by simp];exact h.size,fun k hk hn=>by
  rw[Below.heap_setCell b p u k (fun e=>hn (e ▸ hp (e ▸ hk)))];exact h.block k hk hn⟩
theorem aX{S:Nat->Prop}{w w':World}{B e size n:Nat}{v:Value}{xs:List Value}(h:w.ownsRow B e size v n xs)(hk:av S w w')(hS:∀k,v.ownBlock=some k->¬S k):w'.ownsRow B e size v n xs:=by
 refine⟨h.1, ?_⟩
 rcases h.2 with hn| ⟨g,cap,cur,rfl,hg,xm,rest⟩
 ·exact .inl hn
 ·exact .inr ⟨g,cap,cur,rfl,hg,by rw[hk.block g (Array.getElem?_eq_some_iff.1 xm).1 (hS g rfl)];exact xm,rest⟩
def ig(O:Nat->Prop)(w:World)(p:Option Addr)(c:Nat)(ks:List ByteArray):Prop:=
 ks.length<=c/\∀j,j<ks.length->∃a,p=some a/\O a.block/\w.cell? (a.add j)=some (.string (ks.getD j aN))
theorem ig.nil(O:Nat->Prop)(w:World):ig O w none 0 []:=⟨Nat.le_refl _,fun j hj=>absurd hj (by simp)⟩
theorem ig.carry{O O':Nat->Prop}{w w':World}{p:Option Addr}{c:Nat}{ks:List ByteArray}(h:ig O w p c ks)(hO:∀k,O k->O' k/\w'.heap[k]?=w.heap[k]?):ig O' w' p c ks:=
 ⟨h.1,fun j hj=>by
  obtain⟨a,ha,hB,hc⟩:=h.2 j hj;exact⟨a,ha,(hO _ hB).1,(World.cell?_of_block (by rw[bF];exact(hO _ hB).2)).trans hc⟩⟩
mutual
def isJ(O:Nat->Prop)(w:World):J->List Value->Prop
 | .mk k i t ks l,cs=>∃pk ck pl cl,cs= [.int .i64 k,.int .i64 i,.string t,.slice pk ks.length ck,.slice pl l.length cl]/\ig O w pk ck ks/\l.length<=cl/\isJs O w pl 0 l
def isJs(O:Nat->Prop)(w:World)(p:Option Addr):Nat->List J->Prop
 | _, []=>True
 | n,j::r=>(∃b o cs,p=some ⟨b,o,none⟩/\O b/\(∀i v,cs[i]?=some v->w.cell? ⟨b,o+n*5+i,none⟩=some v)/\isJ O w j cs)/\isJs O w p (n+1) r
end
mutual
theorem isJ.carry{O O':Nat->Prop}{w w':World}(hO:∀k,O k->O' k/\w'.heap[k]?=w.heap[k]?):∀(j:J) (cs:List Value),isJ O w j cs->isJ O' w' j cs
 | .mk k i t ks l,cs,h=>by
  unfold isJ at h ⊢;obtain⟨pk,ck,pl,cl,e,h1,h2,h3⟩:=h;exact⟨pk,ck,pl,cl,e,h1.carry hO,h2,isJs.carry hO pl 0 l h3⟩
theorem isJs.carry{O O':Nat->Prop}{w w':World}(hO:∀k,O k->O' k/\w'.heap[k]?=w.heap[k]?)(p:Option Addr):∀(n:Nat) (l:List J),isJs O w p n l->isJs O' w' p n l
 | _, [],_=>by unfold isJs;trivial
 | n,j::r,h=>by
  unfold isJs at h ⊢;obtain⟨⟨b,o,cs,ha,hB,hc,hj⟩,hr⟩:=h;exact⟨⟨b,o,cs,ha,(hO _ hB).1,fun i v hi=>(World.cell?_of_block (a:=⟨b,o+n*5+i,none⟩) (hO _ hB).2).trans (hc i v hi),isJ.carry hO j cs hj⟩,isJs.carry hO p (n+1) r hr⟩
end
theorem isJs.at{O:Nat->Prop}{w:World}{p:Option Addr}:∀(l:List J) (n i:Nat),isJs O w p n l->i<l.length→
    ∃b o cs,p=some ⟨b,o,none⟩/\O b/\(∀m v,cs[m]?=some v->w.cell? ⟨b,o+(n+i)*5+m,none⟩=some v)/\isJ O w (l.getD i J.zero) cs
 | [],_,_,_,hi=>absurd hi (by simp)
 | j::r,n,0,h,_=>by
  unfold isJs at h;simpa using h.1
 | j::r,n,i+1,h,hi=>by
  unfold isJs at h;have:=isJs.at r (n+1) i h.2 (by simpa using hi);rw[show n+1+i=n+(i+1) by omega]at this;simpa using this
def isRow(O:Nat->Prop)(w:World):List J->List Value->Prop
 | [],xs=>xs= []
 | j::r,xs=>∃cs ys,xs=cs++ys/\cs.length=5/\isJ O w j cs/\isRow O w r ys
theorem isRow.carry{O O':Nat->Prop}{w w':World}(hO:∀k,O k->O' k/\w'.heap[k]?=w.heap[k]?):∀(l:List J) (xs:List Value),isRow O w l xs->isRow O' w' l xs
 | [],_,h=>h
 | _::r,_,⟨cs,ys,e,h5,hj,hr⟩=>⟨cs,ys,e,h5,hj.carry hO,isRow.carry hO r ys hr⟩
theorem isRow.snoc{O:Nat->Prop}{w:World}{j:J}{cs:List Value}(h5:cs.length=5)(hj:isJ O w j cs):∀(l:List J) (xs:List Value),isRow O w l xs->isRow O w (l++ [j]) (xs++cs)
 | [],xs,h=>by
  have h:xs= []:=h;subst h;exact⟨cs, [],by simp,h5,hj,rfl⟩
 | i::r,xs,⟨ds,ys,e,h5',hi,hr⟩=>⟨ds,ys++cs,by rw[e,List.append_assoc],h5',hi,isRow.snoc h5 hj r ys hr⟩
theorem isRow.isJs{O:Nat->Prop}{w:World}{b o:Nat}(ha:O b):∀(l:List J) (xs:List Value) (n:Nat),isRow O w l xs->(∀i v,xs[i]?=some v->w.cell? ⟨b,o+n*5+i,none⟩=some v)->isJs O w (some ⟨b,o,none⟩) n l
 | [],_,_,_,_=>by unfold Go.Proofs.YtldegjjaknelgaaGreatDoor.isJs;trivial
 | j::r,xs,n,⟨cs,ys,e,h5,hj,hr⟩,hc=>by
  unfold Go.Proofs.YtldegjjaknelgaaGreatDoor.isJs;refine⟨⟨b,o,cs,rfl,ha,fun i v hi=>hc i v ?_,hj⟩,isRow.isJs ha r ys (n+1) hr fun i v hi=> ?_⟩
  ·rw[e,List.getElem?_append_left (List.getElem?_eq_some_iff.1 hi).1];exact hi
  ·have:=hc (5+i) v (by rw[e,List.getElem?_append_right (by omega),h5];simpa using hi);rw[show o+(n+1)*5+i=o+n*5+(5+i) by omega];exact this
theorem isJ.zm{O:Nat->Prop}{w:World}{j:J}{cs:List Value}(h:isJ O w j cs):cs.length=5:=by
 cases j
 unfold isJ at h;obtain⟨_,_,_,_,rfl,_⟩:=h
 rfl
theorem xq(O:Nat->Prop)(w:World):isJ O w J.zero [.int .i64 0,.int .i64 0,.string aN,.slice none 0 0,.slice none 0 0]:=by
 unfold J.zero isJ;exact⟨none,0,none,0,rfl,ig.nil _ _,Nat.le_refl _,by unfold isJs;trivial⟩
def bN(t:List Int)(i:Nat):Bool:=decide (ax t i / 64=2)
def cO(c:Int):Bool:=(decide (c<55296) || decide (57344<=c))&&decide (c<=1114111)
def bD(t:List Int)(p:Nat):Int×Nat:=
 if ax t p<128 then(ax t p,1)
 else if(decide (ax t p / 32=6)&&bN t (p+1))=true then
  if 128<=ax t p % 32*64+ax t (p+1) % 64 then(ax t p % 32*64+ax t (p+1) % 64,2)else(0,0)
 else if(decide (ax t p / 16=14)&&bN t (p+1)&&bN t (p+2))=true then
  if(decide (2048<=ax t p % 16*4096+ax t (p+1) % 64*64+ax t (p+2) % 64)&&cO (ax t p % 16*4096+ax t (p+1) % 64*64+ax t (p+2) % 64))=true
  then(ax t p % 16*4096+ax t (p+1) % 64*64+ax t (p+2) % 64,3)else(0,0)
 else if(decide (ax t p / 8=30)&&bN t (p+1)&&bN t (p+2)&&bN t (p+3))=true then
  if(decide (65536<=ax t p % 8*262144+ax t (p+1) % 64*4096+ax t (p+2) % 64*64+ax t (p+3) % 64)&&cO (ax t p % 8*262144+ax t (p+1) % 64*4096+ax t (p+2) % 64*64+ax t (p+3) % 64))=true
  then(ax t p % 8*262144+ax t (p+1) % 64*4096+ax t (p+2) % 64*64+ax t (p+3) % 64,4)else(0,0)
 else(0,0)
def strayL(t:List Int):Nat->Nat->Option Nat
 | 0,_=>none
 | m+1,p=>if p<t.length then(if(bD t p).2=0 then some p else strayL t m (p+(bD t p).2))else none
def gY(t:List Int):Option Nat:=strayL t t.length 0
theorem mf(s:ByteArray)(i:Nat):((s.get! i).toNat:Int)=ax (ints s) i:=by
 unfold ax
 by_cases h:i<s.size
 ·rw[cK s i h];have:s.get! i=s[i]:=by simp[ByteArray.get!,getElem!_pos,h];rfl
  rw[this]
 ·rw[List.getD_eq_getElem?_getD,List.getElem?_eq_none (by rw[aH];omega)];have:s.get! i=0:=by
   have hd:¬i<s.data.size:=h
   show s.data[i]! =0
   rw[getElem!_neg s.data i hd];rfl
  rw[this];rfl
theorem nA(s:ByteArray)(i:Nat):0<=ax (ints s) i/\ax (ints s) i<=255:=by
 rw[<-mf];have:=(s.get! i).toNat_lt;omega
theorem kE(s:ByteArray)(i:Nat)(h:s.size<=i):ax (ints s) i=0:=by
 unfold ax;rw[List.getD_eq_getElem?_getD,List.getElem?_eq_none (by rw[aH];omega)]
 rfl
theorem Bo(s:ByteArray)(i:Nat):(decide (i<s.size)&&((s.get! i).toNat / 64==2))=bN (ints s) i:=by
 unfold bN;have h1:=mf s i
 by_cases h:i<s.size
 ·rw[decide_eq_true h,Bool.true_and,Bool.eq_iff_iff];simp;omega
 ·rw[decide_eq_false h,kE s i (by omega)]
  rfl
theorem valid_eq(c:Nat):Utf8.valid c=cO c:=by
 unfold Utf8.valid cO;rw[Bool.eq_iff_iff];simp;omega
theorem oL(s:ByteArray)(p:Nat):Utf8.decode s p=if(bD (ints s) p).2=0 then(65533,1)else((bD (ints s) p).1.toNat,(bD (ints s) p).2):=by
 have g0:=mf s p;have g1:=mf s (p+1);have g2:=mf s (p+2);have g3:=mf s (p+3);have e1:=Bo s (p+1);have e2:=Bo s (p+2);have e3:=Bo s (p+3);unfold Utf8.decode bD;simp only[Nat.add_zero];rw[e1,e2,e3];obtain⟨b0,h0⟩:∃b,(s.get! p).toNat=b:=⟨_,rfl⟩;obtain⟨b1,h1⟩:∃b,(s.get! (p+1)).toNat=b:=⟨_,rfl⟩;obtain⟨b2,h2⟩:∃b,(s.get! (p+2)).toNat=b:=⟨_,rfl⟩;obtain⟨b3,h3⟩:∃b,(s.get! (p+3)).toNat=b:=⟨_,rfl⟩;simp only[h0,h1,h2,h3]at g0 g1 g2 g3 ⊢;rw[<-g0,<-g1,<-g2,<-g3];generalize bN (ints s) (p+1)=k1;generalize bN (ints s) (p+2)=k2;generalize bN (ints s) (p+3)=k3;have f1:(b0 / 32==6)=decide ((b0:Int) / 32=6):=by rw[Bool.eq_iff_iff];simp;omega
 have f2:(b0 / 16==14)=decide ((b0:Int) / 16=14):=by rw[Bool.eq_iff_iff];simp;omega
 have f3:(b0 / 8==30)=decide ((b0:Int) / 8=30):=by rw[Bool.eq_iff_iff];simp;omega
 rw[f1,f2,f3]
 by_cases c0:b0<128
 ·have c0':(b0:Int)<128:=by omega
  rw[if_pos c0,if_pos c0'];simp
 have c0':¬(b0:Int)<128:=by omega
 rw[if_neg c0,if_neg c0']
 by_cases c1:(decide ((b0:Int) / 32=6)&&k1)=true
 ·rw[if_pos c1,if_pos c1]
  by_cases c2:128<=b0 % 32*64+b1 % 64
  ·have KX:(128:Int)<=(b0:Int) % 32*64+(b1:Int) % 64:=by omega
   rw[if_pos c2,if_pos KX];simp;omega
  ·have KX:¬(128:Int)<=(b0:Int) % 32*64+(b1:Int) % 64:=by omega
   rw[if_neg c2,if_neg KX]
   rfl
 rw[if_neg c1,if_neg c1]
 by_cases c3:(decide ((b0:Int) / 16=14)&&k1&&k2)=true
 ·rw[if_pos c3,if_pos c3];have ec:((b0 % 16*4096+b1 % 64*64+b2 % 64:Nat):Int)=(b0:Int) % 16*4096+(b1:Int) % 64*64+(b2:Int) % 64:=by omega
  rw[<-ec];generalize b0 % 16*4096+b1 % 64*64+b2 % 64=c
  by_cases c4:2048<=c
  ·rw[valid_eq c];have Oa:(2048:Int)<=c:=by omega
   rw[show decide (c≥2048)=true from decide_eq_true c4,decide_eq_true Oa,Bool.true_and]
   split
   ·simp
   ·rfl
  ·have Oa:¬(2048:Int)<=c:=by omega
   rw[show decide (c≥2048)=false from decide_eq_false c4,decide_eq_false Oa]
   rfl
 rw[if_neg c3,if_neg c3]
 by_cases c5:(decide ((b0:Int) / 8=30)&&k1&&k2&&k3)=true
 ·rw[if_pos c5,if_pos c5];have ec:((b0 % 8*262144+b1 % 64*4096+b2 % 64*64+b3 % 64:Nat):Int)=(b0:Int) % 8*262144+(b1:Int) % 64*4096+(b2:Int) % 64*64+(b3:Int) % 64:=by omega
  rw[<-ec];generalize b0 % 8*262144+b1 % 64*4096+b2 % 64*64+b3 % 64=c
  by_cases c4:65536<=c
  ·rw[valid_eq c];have Oa:(65536:Int)<=c:=by omega
   rw[show decide (c≥65536)=true from decide_eq_true c4,decide_eq_true Oa,Bool.true_and]
   split
   ·simp
   ·rfl
  ·have Oa:¬(65536:Int)<=c:=by omega
   rw[show decide (c≥65536)=false from decide_eq_false c4,decide_eq_false Oa]
   rfl
 rw[if_neg c5,if_neg c5]
 rfl
theorem xt(t:List Int)(p:Nat):(bD t p).2<=4:=by
 unfold bD
 (repeat' split);all_goals simp
theorem z_(t:List Int)(p:Nat)(h0:ax t p=239)(h1:ax t (p+1)=191)(h2:ax t (p+2)=189):bD t p=(65533,3):=by
 unfold bD bN;rw[h0,h1,h2,if_neg (by decide),if_neg (by decide),if_pos (by decide),if_pos (by decide)]
 rfl
theorem J2(t:List Int)(p:Nat)(hb:∀i,0<=ax t i/\ax t i<=255)(h:(bD t p).2≠0)(hr:(bD t p).1=65533):ax t p=239/\ax t (p+1)=191/\ax t (p+2)=189:=by
 have q0:=hb p;have q1:=hb (p+1);have q2:=hb (p+2);have q3:=hb (p+3);unfold bD bN at h hr;generalize ax t p=b0 at*;generalize ax t (p+1)=b1 at*;generalize ax t (p+2)=b2 at*;generalize ax t (p+3)=b3 at*
 repeat' split at hr
 all_goals simp_all
 all_goals omega
def noKeyTwice:List ByteArray->Bool
 | []=>true
 | k::r=> !(r.any fun x=>decide (x.data=k.data))&&noKeyTwice r
def letters(s:ByteArray):Bool:=(gY (ints s)).isNone
def bare:J->Bool
 | .mk k i t ks l=>(decide (i=0) || decide (k=1) || decide (k=2))&&(decide (t.size=0) || decide (k=3))&&(decide (ks.length=0) || decide (k=5))&&(decide (l.length=0) || decide (k=4) || decide (k=5))
def goodJ:Nat->J->Bool
 | 0,_=>false
 | d+1,.mk k i t ks l=>bare (.mk k i t ks l)&&
  (if k=0 then true
   else if k=1 then decide (i=0) || decide (i=1)
   else if k=2 then decide (-dC<=i)&&decide (i<=dC)
   else if k=3 then letters t
   else if k=4 then l.all (goodJ d)
   else if k=5 then decide (ks.length=l.length)&&(ks.all letters&&noKeyTwice ks)&&l.all (goodJ d)
   else false)
mutual
def ord:J->J
 | .mk k i t ks l=>if k=5 then mapOf ks (ordL l)else .mk k i t [] (ordL l)
def ordL:List J->List J
 | []=> []
 | j::r=>ord j::ordL r
end
def Vp(n:Int):Int:=if n<10 then 48+n else 87+n
def aV(c:Int):List Int:=
 if c=34 then [92,34]else if c=92 then [92,92]else if c=8 then [92,98]else if c=9 then [92,116]else if c=10 then [92,110]
 else if c=12 then [92,102]else if c=13 then [92,114]else if c<32 then [92,117,48,48,Vp (c / 16),Vp (c % 16)]else [c]
def quote(t:List Int):List Int:=34::(t.flatMap aV++ [34])
def zaY(n:Int):List Int:=(Lib.itoa n).map fun c=>(c.toNat:Int)
mutual
def kH:J->List Int
 | .mk k i t ks l=>
  if k=0 then [110,117,108,108]
  else if k=1 then(if i=1 then [116,114,117,101]else [102,97,108,115,101])
  else if k=2 then zaY i
  else if k=3 then quote (ints t)
  else if k=4 then 91::(zn true l++ [93])
  else if k=5 then 123::(zo true ks l++ [125])
  else []
def zn(first:Bool):List J->List Int
 | []=> []
 | j::r=>(if first then []else [44])++(kH j++zn false r)
def zo(first:Bool)(ks:List ByteArray):List J->List Int
 | []=> []
 | j::r=>(if first then []else [44])++(quote (ints (ks.headD aN))++(58::(kH j++zo false ks.tail r)))
end
def C_(o s o':List Int):Prop:=((o++s).length<=16384/\o'=o++s)\/ (16384<(o++s).length/\16384<o'.length)
theorem C_.nil(o:List Int):C_ o [] o:=by
 unfold C_;rw[List.append_nil]
 rcases Nat.lt_or_ge 16384 o.length with h| h
 ·exact .inr ⟨h,h⟩
 ·exact .inl ⟨h,rfl⟩
theorem C_.trans{o s o' s' o'':List Int}(h:C_ o s o')(h':C_ o' s' o''):C_ o (s++s') o'':=by
 unfold C_ at h h' ⊢;rw[<-List.append_assoc]
 rcases h with⟨h1,rfl⟩| ⟨h1,h2⟩
 ·exact h'
 ·rcases h' with⟨h3,rfl⟩| ⟨_,h3⟩
  ·right
   simp only[List.length_append]at h1 h3 ⊢;omega
  ·right
   simp only[List.length_append]at h1 ⊢;exact⟨by omega,h3⟩
theorem C_.one(o s:List Int):C_ o s (if 16384<o.length then o else o++s):=by
 unfold C_
 split
 ·rename_i h
  right
  simp only[List.length_append];exact⟨by omega,h⟩
 ·rcases Nat.lt_or_ge 16384 (o++s).length with h| h
  ·exact .inr ⟨h,h⟩
  ·exact .inl ⟨h,rfl⟩
theorem r_:∀x:List UInt8,lessB x x=false
 | []=>rfl
 | a::x=>by unfold lessB;rw[r_ x];simp
theorem vE:∀x y z:List UInt8,lessB x y=true->lessB y z=true->lessB x z=true
 | [], [],_,h,_=>by cases h
 | [],_::_, [],_,h=>by cases h
 | [],_::_,_::_,_,_=>rfl
 | _::_, [],_,h,_=>by cases h
 | _::_,_::_, [],_,h=>by cases h
 | a::x,b::y,c::z,h,h'=>by
  unfold lessB at h h' ⊢;simp only[Bool.or_eq_true,Bool.and_eq_true,decide_eq_true_eq]at h h' ⊢
  rcases h with h| ⟨rfl,h⟩
  ·rcases h' with h'| ⟨rfl,h'⟩
   ·exact .inl (UInt8.lt_trans h h')
   ·exact .inl h
  ·rcases h' with h'| ⟨rfl,h'⟩
   ·exact .inl h'
   ·exact .inr ⟨rfl,vE x y z h h'⟩
theorem vF:∀x y:List UInt8,x≠y->lessB x y=true\/ lessB y x=true
 | [], [],h=>absurd rfl h
 | [],_::_,_=>.inl rfl
 | _::_, [],_=>.inr rfl
 | a::x,b::y,h=>by
  unfold lessB;simp only[Bool.or_eq_true,Bool.and_eq_true,decide_eq_true_eq]
  rcases UInt8.lt_or_lt_of_ne (a:=a) (b:=b) |>fun f=>(Classical.em (a=b)).imp id f with rfl| h'| h'
  ·rcases vF x y (fun e=>h (by rw[e]))with h'| h'
   ·exact .inl (.inr ⟨rfl,h'⟩)
   ·exact .inr (.inr ⟨rfl,h'⟩)
  ·exact .inl (.inl h')
  ·exact .inr (.inl h')
def iN(a b:ByteArray):Bool:=lessB a.data.toList b.data.toList
theorem kI(a:ByteArray):iN a a=false:=r_ _
theorem iB{a b c:ByteArray}(h:iN a b=true)(h':iN b c=true):iN a c=true:=vE _ _ _ h h'
theorem mg{a b:ByteArray}(h:a≠b):iN a b=true\/ iN b a=true:=by
 refine vF _ _ fun e=>h ?_
 cases a;cases b
 simp only at e;rw[Array.toList_inj.1 e]
def rises:List ByteArray->Bool
 | []=>true
 | k::r=>r.all (iN k)&&rises r
theorem vG:∀(q:List (ByteArray×J)),rises (q.map (·.1))=true->eT q=q
 | [],_=>rfl
 | x::q,h=>by
  simp only[List.map_cons,rises,Bool.and_eq_true]at h;unfold eT;rw[vG q h.2]
  cases q with
  | nil=>rfl
  | cons y q=>
   have h1:=h.1;simp only[List.map_cons,List.all_cons,Bool.and_eq_true]at h1;have:lessB x.1.data.toList y.1.data.toList=true:=h1.1;unfold putK;rw[if_pos this]
mutual
def inOrd:J->Bool
 | .mk _ _ _ ks l=>rises ks&&inOrdL l
def inOrdL:List J->Bool
 | []=>true
 | j::r=>inOrd j&&inOrdL r
end
theorem xu{k:ByteArray}{v:J}{x:ByteArray×J}:∀(q:List (ByteArray×J)),x∈putK k v q↔x=(k,v)\/ x∈q
 | []=>by simp[putK]
 | y::q=>by
  unfold putK
  split
  ·simp
  ·rw[List.mem_cons,xu q,List.mem_cons]
   constructor
   ·rintro(h| h| h)
    ·exact .inr (.inl h)
    ·exact .inl h
    ·exact .inr (.inr h)
   ·rintro(h| h| h)
    ·exact .inr (.inl h)
    ·exact .inl h
    ·exact .inr (.inr h)
theorem Aa{x:ByteArray×J}:∀(q:List (ByteArray×J)),x∈eT q↔x∈q
 | []=>Iff.rfl
 | y::q=>by
  unfold eT;rw[xu,Aa q,List.mem_cons]
theorem xw{k:ByteArray}{v:J}:∀(q:List (ByteArray×J)),rises (q.map (·.1))=true->(∀x∈q,x.1≠k)->rises ((putK k v q).map (·.1))=true
 | [],_,_=>rfl
 | y::q,h,hn=>by
  simp only[List.map_cons,rises,Bool.and_eq_true]at h;unfold putK
  split
  ·rename_i hl;simp only[List.map_cons,rises,Bool.and_eq_true,List.all_cons];refine⟨⟨hl,List.all_eq_true.2 fun z hz=>iB hl (List.all_eq_true.1 h.1 z hz)⟩,h.1,h.2⟩
  ·rename_i hl;have hyk:iN y.1 k=true:=by
    rcases mg (hn y (by simp))with h'| h'
    ·exact h'
    ·exact absurd h' hl
   simp only[List.map_cons,rises,Bool.and_eq_true];refine⟨List.all_eq_true.2 fun z hz=> ?_,xw q h.2 fun x hx=>hn x (by simp[hx])⟩;obtain⟨x,hx,rfl⟩:=List.mem_map.1 hz
   rcases(xu q).1 hx with rfl| hx
   ·exact hyk
   ·exact List.all_eq_true.1 h.1 _ (List.mem_map.2 ⟨x,hx,rfl⟩)
def Vq(q:List (ByteArray×J)):Prop:=q.Pairwise fun x y=>x.1≠y.1
theorem j6:∀(q:List (ByteArray×J)),Vq q->rises ((eT q).map (·.1))=true
 | [],_=>rfl
 | y::q,h=>by
  unfold eT;have h':=List.pairwise_cons.1 h;exact xw _ (j6 q h'.2) fun x hx=>(h'.1 x ((Aa q).1 hx)).symm
theorem vH{k:ByteArray}{v:J}:∀(q:List (ByteArray×J)),(putK k v q).length=q.length+1
 | []=>rfl
 | y::q=>by
  unfold putK
  split
  ·rfl
  ·simp[vH q]
theorem nC:∀(q:List (ByteArray×J)),(eT q).length=q.length
 | []=>rfl
 | y::q=>by unfold eT;rw[vH,nC q];rfl
open Go
section
variable {P : Program} {bT : Array Oper} {Q : Exit -> Act -> World -> Prop} {md : Region.Mode} {C : World -> Prop}
theorem KY{x y:Oper}{v:Value}{a:Act}{K:Act->World->Prop}{r:Result Next}(NK:∀d,x.dst=some d->y.dst≠some d)
    (hQ:∀c a w,Q (.panic c) (a.put x.dst v) w->Q (.panic c) a w) (R:Act->Prop) (hR:∀u,R (a.put y.dst u)) (hD:∀d u,R ({a with defers:=d::a.defers}.put y.dst u))
    (h:y.upon P (a.put x.dst v) K Q r):y.upon P a (fun a' w'=>R a'/\K (a'.put x.dst v) w') Q r:=by
 match r with
 | .ok (.value u) w'=>exact⟨hR u,(Act.put_comm a v u NK) ▸ h⟩
 | .ok .skip w'=>exact⟨hR _,(Act.put_comm a v undef NK) ▸ h⟩
 | .ok (.defer d) w'=>
  refine⟨hD d _, ?_⟩;rw[<-Act.put_comm _ v undef NK,<-Act.put_defers];exact h
 | .ok (.enter f args) w'=>
  refine Calls.mono h fun e w'' he=> ?_
  match e with
  | .returned u=>exact⟨hR u,(Act.put_comm a v u NK) ▸ he⟩
  | .panicked c=>exact hQ _ _ _ he
  | .outgrown=>exact he
 | .ok (.row row args) w'=>exact Rows.mono h fun u w'' he=>⟨hR u,(Act.put_comm a v u NK) ▸ he⟩
 | .halt (.panic u) w'=>exact hQ _ _ _ h
 | .halt .blocked _=>exact h
 | .halt .waiting _=>exact h
 | .halt (.stuck _) _=>exact h
 | .halt (.unsupported _) _=>exact h
theorem KZ{j:Nat}{x y:Oper}{v:Value}(hj:bT[j]?=some y)(hap:x.apart bT y=true)(hx:∀cs b,x.op≠ .select cs b)(hy:∀cs b,y.op≠ .select cs b)
    (hQ:∀c a w,Q (.panic c) (a.put x.dst v) w->Q (.panic c) a w) {K:Act->World->Prop} {a:Act} {w:World} (h:wpOp P bT Q j K (a.put x.dst v) w):
    wpOp P bT Q j (fun a' w'=>(execOp a'.eval x=execOp a.eval x/\Region.wanted x (yielded bT a'.tmps)=Region.wanted x (yielded bT a.tmps))/\K (a'.put x.dst v) w') a w:=by
 obtain⟨h1,h2,h3⟩:=Oper.apart_spec hap;have hR:∀u,execOp (a.put y.dst u).eval x=execOp a.eval x/\Region.wanted x (yielded bT (a.put y.dst u).tmps)=Region.wanted x (yielded bT a.tmps):=
  fun u=>⟨execOp_put x hx a y.dst u h3,wanted_put x a y.dst u h3⟩
 have hD:∀(d:Deferred) u,execOp ({a with defers:=d::a.defers}.put y.dst u:Act).eval x=execOp a.eval x/\Region.wanted x (yielded bT ({a with defers:=d::a.defers}.put y.dst u:Act).tmps)=Region.wanted x (yielded bT a.tmps):=
  fun d u=>⟨execOp_put x hx {a with defers:=d::a.defers} y.dst u h3,wanted_put x {a with defers:=d::a.defers} y.dst u h3⟩
 have e1:=wanted_put y a x.dst v h1;have e2:=execOp_put y hy a x.dst v h1;unfold wpOp at h ⊢;simp only[hj]at h ⊢;rw[e1]at h
 by_cases hw:Region.wanted y (yielded bT a.tmps)=true
 ·rw[if_pos hw]at h ⊢
  rcases h with h| ⟨ha,hl⟩
  ·left
   unfold Oper.wp at h ⊢;rw[e2]at h;exact KY h2 hQ (fun a'=>execOp a'.eval x=execOp a.eval x/\Region.wanted x (yielded bT a'.tmps)=Region.wanted x (yielded bT a.tmps)) hR hD h
  ·right
   unfold Oper.asks at ha ⊢;rw[e2]at ha;exact⟨ha,hl⟩
 ·rw[if_neg hw]at h ⊢;exact⟨hR _,(Act.put_comm a v undef h2) ▸ h⟩
def wpIn(P:Program)(md:Region.Mode)(bT:Array Oper)(Q:Exit->Act->World->Prop)(C:World->Prop):Nat->Array Bool->Act->World->Prop
 | 0,listed,a,w=>C w/\Region.ready md bT listed= []/\Q .normal a w
 | n+1,listed,a,w=>C w/\(Region.ready md bT listed= []->Q .normal a w)/\∀i∈Region.ready md bT listed,wpOp P bT Q i (wpIn P md bT Q C n (listed.setIfInBounds i true)) a w
theorem wpIn.any:∀{n:Nat} {listed:Array Bool} {a:Act} {w:World},wpIn P md bT Q C n listed a w->wpAny P md bT Q n listed a w
 | 0,_,_,_,h=>h.2
 | _+1,_,_,_,h=>⟨h.2.1,fun i hi=>wpOp_mono (fun _ _ h'=>wpIn.any h') (h.2.2 i hi)⟩
def Quiet(P:Program)(bT:Array Oper)(C:World->Prop)(o:Oper)(v:Value)(a:Act):Prop:=
 (Region.wanted o (yielded bT a.tmps)=true/\∀w,C w->(execOp a.eval o).run P w=.ok (.value v) w)\/ (Region.wanted o (yielded bT a.tmps)=false/\v=undef)
theorem Quiet.op{i:Nat}{o:Oper}{v:Value}{a:Act}(hi:bT[i]?=some o)(hy:Quiet P bT C o v a){K:Act->World->Prop}{w:World}(hC:C w)(h:K (a.put o.dst v) w):wpOp P bT Q i K a w:=by
 unfold wpOp;rw[hi];simp only
 rcases hy with⟨hw,hv⟩| ⟨hw,rfl⟩
 ·rw[if_pos hw]
  left
  unfold Oper.wp;rw[hv w hC];exact h
 ·rw[if_neg (by rw[hw];exact Bool.false_ne_true)];exact h
theorem Gd{i:Nat}{o:Oper}{v:Value}(hi:bT[i]?=some o)(hs:Region.noSelect bT=true)(hQ:∀c a w,Q (.panic c) (a.put o.dst v) w->Q (.panic c) a w):
    ∀(n:Nat) (listed:Array Bool) (a:Act) (w:World),
     (∀j y,bT[j]?=some y->j≠i->listed.getD j true=false->(∀e∈y.after,Region.binds md e=true->e.on≠i)->o.apart bT y=true)→
     i∈Region.ready md bT listed->Quiet P bT C o v a->wpIn P md bT Q C n (listed.setIfInBounds i true) (a.put o.dst v) w->wpIn P md bT Q C (n+1) listed a w:=by
 intro n
 induction n with
 | zero=>
  intro listed a w _ hr hy H;refine⟨H.1,fun h=>(by rw[h]at hr;cases hr),fun j hj=> ?_⟩
  by_cases Un:j=i
  ·subst Un;exact hy.op hi H.1 H
  ·have h':=ready_mono hj Un;rw[H.2.1]at h'
   cases h'
 | succ n ih=>
  intro listed a w Uo hr hy H;refine⟨H.1,fun h=>(by rw[h]at hr;cases hr),fun j hj=> ?_⟩
  by_cases Un:j=i
  ·subst Un;exact hy.op hi H.1 H
  ·obtain⟨zaZ,y,hoy,eF⟩:=mem_ready.1 hj;have zdK:∀e∈y.after,Region.binds md e=true->e.on≠i:=by
    intro e he hb heq;have g1:=eF e he hb;have g0:=(mem_ready.1 hr).1;rw[heq]at g1
    by_cases FW:i<listed.size
    ·simp[FW]at g0 g1;rw[g0]at g1
     cases g1
    ·simp[FW]at g1
   have h2:=KZ hoy (Uo j y hoy Un zaZ zdK) (fun cs b=>Region.noSelect_spec hs i o cs b hi) (fun cs b=>Region.noSelect_spec hs j y cs b hoy) hQ (H.2.2 j (ready_mono hj Un));refine wpOp_mono (fun a' w' h3=>ih (listed.setIfInBounds j true) a' w' ?_ (ready_mono hr (Ne.symm Un)) ?_ ?_) h2
   ·intro k z hk Ob hun hno;refine Uo k z hk Ob ?_ hno
    by_cases hjk:j=k
    ·subst hjk;exact zaZ
    ·rw[getD_set_ne true hjk]at hun;exact hun
   ·unfold Quiet at hy ⊢;rw[h3.1.1,h3.1.2];exact hy
   ·rw[Array.setIfInBounds_comm _ _ Un];exact h3.2
theorem ae{i:Nat}{o:Oper}{v:Value}{d:Option Tmp}{n:Nat}{listed:Array Bool}{a a':Act}{w:World}(hi:bT[i]?=some o)(hd:o.dst=d)
    (hs:Region.noSelect bT=true) (hf:Region.free md bT listed i=true) (hr:(Region.ready md bT listed).contains i=true)
    (hQ:∀c a w,Q (.panic c) (a.put d v) w->Q (.panic c) a w) (hy:Quiet P bT C o v a) (ha:a.put d v=a')
    (h:wpIn P md bT Q C n (listed.setIfInBounds i true) a' w):wpIn P md bT Q C (n+1) listed a w:=by
 subst hd ha;exact Gd hi hs hQ n listed a w (Region.free_spec hi hf) (by simpa using hr) hy h
theorem aa{i:Nat}{o:Oper}{v:Value}{d:Option Tmp}{n:Nat}{listed:Array Bool}{a a':Act}{w:World}(hi:bT[i]?=some o)
    (h:wpIn P md bT Q C n (listed.setIfInBounds i true) a' w) (hd:o.dst=d:=by rfl) (hw:Region.wanted o (yielded bT a.tmps)=true:=by rfl) (hy:∀w,C w->(execOp a.eval o).run P w=.ok (.value v) w:=by(intro wq hq;go_simp;first| done| with_reducible rfl)) (ha:a.put d v=a':=by(go_frame;rfl))
    (hs:Region.noSelect bT=true:=by kernel_rfl) (hf:Region.free md bT listed i=true:=by kernel_rfl) (hr:(Region.ready md bT listed).contains i=true:=by kernel_rfl)
    (hQ:∀c a w,Q (.panic c) (a.put d v) w->Q (.panic c) a w:=by exact fun _ _ _ h=>h):wpIn P md bT Q C (n+1) listed a w:=
 ae hi hd hs hf hr hQ (Or.inl ⟨hw,hy⟩) ha h
theorem az{i:Nat}{o:Oper}{v:Value}{d:Option Tmp}{n:Nat}{listed:Array Bool}{a a':Act}{w:World}(hi:bT[i]?=some o)
    (hy:∀w,C w->(execOp a.eval o).run P w=.ok (.value v) w) (h:wpIn P md bT Q C n (listed.setIfInBounds i true) a' w)
    (ha:a.put d v=a':=by(go_frame;rfl)) (hd:o.dst=d:=by rfl) (hw:Region.wanted o (yielded bT a.tmps)=true:=by rfl)
    (hs:Region.noSelect bT=true:=by kernel_rfl) (hf:Region.free md bT listed i=true:=by kernel_rfl) (hr:(Region.ready md bT listed).contains i=true:=by kernel_rfl)
    (hQ:∀c a w,Q (.panic c) (a.put d v) w->Q (.panic c) a w:=by exact fun _ _ _ h=>h):wpIn P md bT Q C (n+1) listed a w:=
 ae hi hd hs hf hr hQ (Or.inl ⟨hw,hy⟩) ha h
theorem K_{i:Nat}{n:Nat}{listed:Array Bool}{a:Act}{w:World}(hC:C w)(hr:Region.ready md bT listed= [i])
    (h:wpOp P bT Q i (wpIn P md bT Q C n (listed.setIfInBounds i true)) a w):wpIn P md bT Q C (n+1) listed a w:=
 ⟨hC,fun h0=>(by rw[hr]at h0;cases h0),fun j hj=>by rw[hr]at hj;rw[List.mem_singleton.1 hj];exact h⟩
theorem Rz{i:Nat}{o:Oper}{n:Nat}{listed:Array Bool}{a:Act}{w:World}(hC:C w)(hr:Region.ready md bT listed= [i])(hi:bT[i]?=some o)(hw:Region.wanted o (yielded bT a.tmps)=true)
    (h:∀K':Act->World->Prop,(∀a w,wpIn P md bT Q C n (listed.setIfInBounds i true) a w->K' a w)->Oper.wp P o a w K' Q):wpIn P md bT Q C (n+1) listed a w:=by
 refine K_ hC hr ?_;unfold wpOp;rw[hi];simp only;rw[if_pos hw];exact .inl (h _ fun _ _ h'=>h')
theorem ak{i:Nat}{o:Oper}{n:Nat}{listed:Array Bool}{a:Act}{w:World}(hC:C w)(hi:bT[i]?=some o)
    (h:∀K':Act->World->Prop,(∀a w,wpIn P md bT Q C n (listed.setIfInBounds i true) a w->K' a w)->Oper.wp P o a w K' Q) (hr:Region.ready md bT listed= [i]:=by kernel_rfl) (hw:Region.wanted o (yielded bT a.tmps)=true:=by rfl):wpIn P md bT Q C (n+1) listed a w:=Rz hC hr hi hw h
theorem aD{listed:Array Bool}{a:Act}{w:World}(hC:C w)(hr:Region.ready md bT listed= [])(h:Q .normal a w):∀n,wpIn P md bT Q C n listed a w
 | 0=>⟨hC,hr,h⟩
 | _+1=>⟨hC,fun _=>h,fun i hi=>by rw[hr]at hi;cases hi⟩
theorem aF{id:Nat}{a:Act}{w:World}(hm:P.follows .mixedOrders=true)(C:World->Prop)
    (h:wpIn P .any bT Q C bT.size (Array.replicate bT.size false) a {w with drawn:=w.drawn+1}):(Code.region id bT true).wp P Q a w:=
 wp_region_any hm h.any
end
end Go.Proofs.YtldegjjaknelgaaGreatDoor
namespace Go.Proofs.YtldegjjaknelgaaGreatDoor.Id
def num(c:Int):Int:=
 if 65<=c/\c<=90 then c - 65 else if 97<=c/\c<=122 then c - 71 else if 48<=c/\c<=57 then c+4
 else if c=43 then 62 else if c=47 then 63 else -1
def bq(c:Int):Int:=if 0<=num c then num c else 0
def isLet(c:Int):Bool:=decide (0<=num c)
def J3(n:Int):Int:=
 if n<26 then n+65 else if n<52 then n+71 else if n<62 then n - 4 else if n=62 then 43 else 47
theorem Gf(c:Int):num c<=63:=by unfold num;(repeat' split);all_goals omega
theorem Vr(c:Int): -1<=num c:=by unfold num;(repeat' split);all_goals omega
theorem df(c:Int):0<=bq c:=by unfold bq;split<;>omega
theorem dh(c:Int):bq c<=63:=by have:=Gf c;unfold bq;split<;>omega
theorem RA(c:Int)(h:0<=num c):J3 (num c)=c:=by
 unfold num at h ⊢;unfold J3
 (repeat' split);all_goals omega
theorem RB(n:Int)(h0:0<=n)(h1:n<=63):num (J3 n)=n:=by
 unfold J3 num
 (repeat' split);all_goals omega
def qb(n:Int):Int:=if n<=1 then 0 else n - 1
theorem RD(n:Int)(h1:n<=4):0<=qb n/\qb n<=3:=by unfold qb;split<;>omega
def ints(s:ByteArray):List Int:=s.data.toList.map fun c=>(c.toNat:Int)
theorem aH(s:ByteArray):(ints s).length=s.size:=by simp[ints]
theorem cK(s:ByteArray)(k:Nat)(h:k<s.size):(ints s).getD k 0=(s[k].toNat:Int):=by
 have h':k<s.data.toList.length:=by simpa using h
 simp only[ints,List.getD_eq_getElem?_getD,List.getElem?_map,List.getElem?_eq_getElem h',Option.map_some,Option.getD_some]
 rfl
theorem pG(s:ByteArray):∀x∈ints s,0<=x/\x<=255:=by
 intro x hx;simp only[ints,List.mem_map]at hx;obtain⟨c,_,rfl⟩:=hx;have:=c.toNat_lt;omega
theorem iM(s:ByteArray)(k:Nat):ints (s.extract k s.size)=(ints s).drop k:=by
 simp only[ints,ByteArray.data_extract,Array.toList_extract,List.extract_eq_take_drop,List.map_take,List.map_drop];rw[List.take_of_length_le];have:(List.drop k (List.map (fun c:UInt8=>(c.toNat:Int)) s.data.toList)).length=s.size - k:=by simp
 omega
def oF(zs:List Int):Int:=
 if zs.length % 4=2 then bq (zs.getD (zs.length - 1) 0) % 16 else if zs.length % 4=3 then bq (zs.getD (zs.length - 1) 0) % 4 else 0
def xy(zs:List Int):Nat:=(zs.takeWhile isLet).length
def lM(zs:List Int):Int×Int:=
 if xy zs<zs.length then(20,xy zs)else if zs.length % 4=1 then(22,zs.length)else if oF zs≠0 then(21,zs.length - 1)else(0,0)
theorem Oc(zs:List Int)(h:(lM zs).1=0):xy zs=zs.length/\zs.length % 4≠1/\oF zs=0:=by
 have hl:xy zs<=zs.length:=(List.takeWhile_sublist _).length_le;unfold lM at h
 split at h
 ·simp at h
 split at h
 ·simp at h
 split at h
 ·simp at h
 ·exact⟨by omega,by assumption,by simp_all⟩
theorem J4(zs:List Int)(k:Nat)(hk:k<zs.length)(h:∀j,j<k->isLet (zs.getD j 0)=true)(hb:isLet (zs.getD k 0)=false):xy zs=k:=by
 induction zs generalizing k with
 | nil=>simp at hk
 | cons z r ih=>
  cases k with
  | zero=>simp at hb;simp[xy,hb]
  | succ k=>
   have h0:=h 0 (by omega);simp at h0;have:=ih k (by simpa using hk) (fun j hj=>by have:=h (j+1) (by omega);simpa using this) (by simpa using hb);simp only[xy,List.takeWhile_cons,h0,if_true,List.length_cons]at this ⊢;omega
theorem Da(zs:List Int)(h:∀j,j<zs.length->isLet (zs.getD j 0)=true):xy zs=zs.length:=by
 induction zs with
 | nil=>rfl
 | cons z r ih=>
  have h0:=h 0 (by simp);simp at h0;have:=ih (fun j hj=>by have:=h (j+1) (by simpa using hj);simpa using this);simp only[xy,List.takeWhile_cons,h0,if_true,List.length_cons]at this ⊢;omega
def dec:List Int->List Int
 | []=> []
 | [_]=> []
 | [a,b]=> [bq a*4+bq b / 16]
 | [a,b,c]=> [bq a*4+bq b / 16,bq b % 16*16+bq c / 4]
 | a::b::c::d::r=>(bq a*4+bq b / 16)::(bq b % 16*16+bq c / 4)::(bq c % 4*64+bq d)::dec r
theorem Od(rs:List Int)(m:Nat)(a b c d:Int)(Gg:1<=m)(hm:m+1=min rs.length 4)(ha:rs.getD 0 0=a)(hb:rs.getD 1 0=b)(hc:rs.getD 2 0=c)(hd:rs.getD 3 0=d):
    dec rs= [bq a*4+bq b / 16,bq b % 16*16+bq c / 4,bq c % 4*64+bq d].take m++dec (rs.drop (m+1)):=by
 match rs with
 | []=>simp at hm
 | [_]=>simp at hm;omega
 | [x,y]=>simp at ha hb hc hd hm;subst ha hb hc hd hm;simp[dec]
 | [x,y,z]=>simp at ha hb hc hd hm;subst ha hb hc hd hm;simp[dec]
 | x::y::z::u::r=>
  simp at ha hb hc hd;have hm3:m=3:=by simp at hm;omega
  subst ha hb hc hd hm3;simp[dec]
theorem qN(zs:List Int):((dec zs).length:Int)=(zs.length:Int) / 4*3+qb ((zs.length:Int) % 4):=by
 induction zs using dec.induct with
 | case1=>rfl
 | case2 a=>simp[dec,qb]
 | case3 a b=>simp[dec,qb]
 | case4 a b c=>simp[dec,qb]
 | case5 a b c d r ih=>
  simp only[dec,List.length_cons,qb]at ih ⊢
  repeat' split at ih
  all_goals (repeat' split);all_goals omega
theorem RF(zs:List Int)(h:zs.length % 4≠1):0<(dec zs).length↔0<zs.length:=by
 have h1:=qN zs;unfold qb at h1
 split at h1<;>omega
theorem Vs(zs:List Int):∀x∈dec zs,0<=x/\x<=255:=by
 induction zs using dec.induct with
 | case1=>intro x hx;simp[dec]at hx
 | case2 a=>intro x hx;simp[dec]at hx
 | case3 a b=>
  have:=df a;have:=dh a;have:=df b;have:=dh b;intro x hx;simp only[dec,List.mem_cons,List.not_mem_nil,or_false]at hx;omega
 | case4 a b c=>
  have:=df a;have:=dh a;have:=df b;have:=dh b;have:=df c;have:=dh c;intro x hx;simp only[dec,List.mem_cons,List.not_mem_nil,or_false]at hx;omega
 | case5 a b c d r ih=>
  have:=df a;have:=dh a;have:=df b;have:=dh b;have:=df c;have:=dh c;have:=df d;have:=dh d;intro x hx;simp only[dec,List.mem_cons]at hx
  rcases hx with hx| hx| hx| hx
  ·omega
  ·omega
  ·omega
  ·exact ih x hx
end Go.Proofs.YtldegjjaknelgaaGreatDoor.Id
namespace Go.Proofs.YtldegjjaknelgaaGreatDoor.Id
open Go.RowKit
theorem pI{k:IntKind}{a b:Int}(h:a=b):Ending.returned (.int k a)=.returned (.int k b):=by rw[h]
theorem RG{a b:Int}{p q:Bool}(h:a=b)(hp:p=q):Ending.returned (.tuple #[.int .u32 a,.bool p])=.returned (.tuple #[.int .u32 b,.bool q]):=by rw[h,hp]
theorem vI(n:Int)(w:World)(h0:0<=n)(h1:n<=4):
    Calls Tryz.prog 174 #[.int .i64 n] w fun e w'=>e=.returned (.int .i64 (qb n))/\w=w':=by
 go_enter Tryz.func174,Tryz.ntmps174;go_wp2
 all_goals
  go_ret;exact⟨pI (by unfold qb;split<;>omega),rfl⟩
theorem Db(m:Int)(w:World)(h0:1<=m)(h1:m<=3):
    Calls Tryz.prog 174 #[.int .i64 (m+1)] w fun e w'=>e=.returned (.int .i64 m)/\w=w':=by
 have h:=vI (m+1) w (by omega) (by omega);have e:qb (m+1)=m:=by unfold qb;rw[if_neg (by omega)];omega
 rw[e]at h;exact h
theorem zdL(c:Int)(n:Int)(b:Bool)(h:num c=if b then n else -1)(h0:0<=n)(hz:b=false->n=0):n=bq c/\b=isLet c:=by
 cases b
 ·simp[bq,isLet,h,hz rfl]
 ·simp[bq,isLet,h,h0]
theorem kJ(c:Int)(w:World)(h0:0<=c)(h1:c<=255):
    Calls Tryz.prog 187 #[.int .u8 c] w fun e w'=>e=.returned (.tuple #[.int .u32 (bq c),.bool (isLet c)])/\w=w':=by
 by_cases e43:c=43
 ·subst e43;go_enter Tryz.func187,Tryz.ntmps187;go_wp2;go_ret2;exact⟨rfl,rfl⟩
 by_cases e47:c=47
 ·subst e47;go_enter Tryz.func187,Tryz.ntmps187;go_wp2;go_ret2;exact⟨rfl,rfl⟩
 go_enter Tryz.func187,Tryz.ntmps187;go_wp2
 all_goals
  go_ret2;refine⟨(fun h=>RG h.1 h.2) (zdL c _ _ (by unfold num;(repeat' split);all_goals first| omega| (simp_all;done)| (simp_all;omega)) (by first| omega| simp) (by simp)),rfl⟩
theorem ai{a b:Bool}(h:a=b):Ending.returned (.bool a)=.returned (.bool b):=by rw[h]
theorem lg(s:ByteArray)(c:Int)(w:World):
    Calls Tryz.prog 186 #[.string s,.int .u8 c] w fun e w'=>e=.returned (.int .i64 (Lib.indexByte s.data.toList c.toNat.toUInt8))/\w=w':=by
 go_enter Tryz.func186,Tryz.ntmps186;go_wp2;rw[run_callFunc_extern Tryz.func202 (by kernel_rfl) (by kernel_rfl) (by kernel_rfl) (e:=Extern.BytealgIndexByte.indexByte) (by kernel_rfl),Lib.run_indexByteString];simp only[Result.andThen];rw[Oper.upon_value];go_wp2;go_ret;exact⟨rfl,rfl⟩
theorem zq(s:ByteArray)(c:Int)(w:World):
    Calls Tryz.prog 172 #[.string s,.int .u8 c] w fun e w'=>e=.returned (.int .i64 (Lib.indexByte s.data.toList c.toNat.toUInt8))/\w=w':=by
 go_enter Tryz.func172,Tryz.ntmps172;go_wp2_with(go_at_call 186;refine(lg _ _ _).mono ?_;rintro e w' ⟨rfl,rfl⟩);go_ret;exact⟨rfl,rfl⟩
def kind(o:List UInt8)(c:Int):Bool:=(decide (97<=c)&&decide (c<=122)) || (decide (48<=c)&&decide (c<=57)) || decide (0<=Lib.indexByte o c.toNat.toUInt8)
theorem xz(o:ByteArray)(c:Int)(B:Nat)(w:World)(hc:w.cell? ⟨B,0,none⟩=some (.string o))(h0:0<=c)(h1:c<=255):
    Calls Tryz.prog 171 #[.int .u8 c,.pointer (some ⟨B,0,none⟩)] w fun e w'=>e=.returned (.bool (kind o.data.toList c))/\w=w':=by
 go_enter Tryz.func171,Tryz.ntmps171;go_wp2_with(go_at_call 172;refine(zq _ _ _).mono ?_;rintro e w' ⟨rfl,rfl⟩)
 all_goals
  go_ret;refine⟨ai ?_,rfl⟩;unfold kind;rw[Bool.eq_iff_iff];simp;omega
def gK(k:Int->Bool)(m:Int)(s:ByteArray):Bool:=decide (1<=s.size)&&decide ((s.size:Int)<=m)&&(ints s).all k
theorem lh(k:Int->Bool)(m:Int)(s:ByteArray)(h:m<s.size):gK k m s=false:=by
 unfold gK;simp;omega
theorem ll(k:Int->Bool)(m:Int)(s:ByteArray)(h:s.size=0):gK k m s=false:=by
 unfold gK;simp[h]
theorem nD(k:Int->Bool)(m:Int)(s:ByteArray)(h:1<=s.size)(h':(s.size:Int)<=m)(ha:∀j,j<s.size->k ((ints s).getD j 0)=true):gK k m s=true:=by
 unfold gK;simp only[h,h',decide_true,Bool.true_and,List.all_eq_true];intro x hx;obtain⟨i,hi,rfl⟩:=List.mem_iff_getElem.1 hx;have:=ha i (by rw[<-aH];exact hi);rw[List.getD_eq_getElem?_getD,List.getElem?_eq_getElem hi]at this;exact this
theorem nE(k:Int->Bool)(m:Int)(s:ByteArray)(j:Nat)(hj:j<s.size)(ha:k ((ints s).getD j 0)=false):gK k m s=false:=by
 unfold gK;have Gh:j<(ints s).length:=by rw[aH];exact hj
 have:(ints s).all k=false:=by
  rw[List.all_eq_false];refine⟨(ints s)[j],List.getElem_mem Gh, ?_⟩;rw[List.getD_eq_getElem?_getD,List.getElem?_eq_getElem Gh]at ha;simpa using ha
 rw[this];simp
theorem xA(s o:ByteArray)(m:Int)(B:Nat)(w:World)(hs:s.size<=140737488351232)(hc:w.cell? ⟨B,0,none⟩=some (.string o)):
    Calls Tryz.prog 153 #[.string s,.int .i64 m,.func (.func 171) #[] #[.pointer (some ⟨B,0,none⟩)]] w fun e w'=>e=.returned (.bool (gK (kind o.data.toList) m s))/\w=w':=by
 by_cases he:s.size=0
 ·have he':(s.size:Int)=0:=by omega
  go_enter Tryz.func153,Tryz.ntmps153;go_wp2;go_ret;exact⟨ai (ll _ _ _ he).symm,rfl⟩
 by_cases hm:m<(s.size:Int)
 ·go_enter Tryz.func153,Tryz.ntmps153;go_wp2;go_ret;exact⟨ai (lh _ _ _ hm).symm,rfl⟩
 go_enter Tryz.func153,Tryz.ntmps153;go_wp2
 go_loop [19] (fun i=>∃k:Nat,k<=s.size/\i=.int .i64 k/\∀j,j<k->kind o.data.toList ((ints s).getD j 0)=true) (fun i=>s.size - (intOf i).toNat)
 case atStart=>exact⟨0,Nat.zero_le _,rfl,fun j hj=>by omega⟩
 case round=>
  obtain⟨k,hk,rfl,eF⟩:=hrel;have HA:Hid (∀j,j<k->kind o.data.toList ((ints s).getD j 0)=true):=eF;clear eF
  by_cases bH:k<s.size
  ·have HG:Hid ((ints s).getD k 0=(s[k].toNat:Int)):=cK s k bH;have aP:(s[k].toNat:Int)<=255:=by have:=s[k].toNat_lt;omega
   by_cases hb:kind o.data.toList (s[k].toNat:Int)=true
   ·go_wp2_with(go_at_call 171;refine(xz o _ B _ hc (by omega) (by omega)).mono ?_;rintro e w' ⟨rfl,rfl⟩)
    go_round
    case rel=>exact⟨k+1,by omega,by go_num,fun j hj=>by
                          by_cases e:j=k
                          ·rw[e,HG.out];exact hb
                          ·exact HA.out j (by omega)⟩
    case measure=>simp[intOf];omega
   ·have FX:kind o.data.toList (s[k].toNat:Int)=false:=by simpa using hb
    clear hb;go_wp2_with(go_at_call 171;refine(xz o _ B _ hc (by omega) (by omega)).mono ?_;rintro e w' ⟨rfl,rfl⟩);go_ret;exact⟨ai (nE _ _ _ k bH (by rw[HG.out];exact FX)).symm,rfl⟩
  ·obtain rfl:k=s.size:=by omega
   go_wp2;go_ret;exact⟨ai (nD _ _ _ (by omega) (by omega) HA.out).symm,rfl⟩
def small(c:Int):Bool:=(decide (97<=c)&&decide (c<=122)) || (decide (48<=c)&&decide (c<=57)) || decide (c=46)
def xB(c:Int):Bool:=small c || decide (c=45)
def um(c:Int):Bool:=small c || decide (c=45) || decide (c=95)
def xC(c:Int):Bool:=small c || decide (c=95)
def Bp(s:ByteArray):Bool:=gK xB 32 s
def loc(s:ByteArray):Bool:=gK um 32 s
def aK(s:ByteArray):Bool:=gK xC 64 s
theorem Oe:∀n:Fin 256,kind [46,45] (n.val:Int)=xB n.val:=by decide+kernel
theorem Og:∀n:Fin 256,kind [46,95,45] (n.val:Int)=um n.val:=by decide+kernel
theorem Oh:∀n:Fin 256,kind [46,95] (n.val:Int)=xC n.val:=by decide+kernel
theorem nG{k k':Int->Bool}(h:∀n:Fin 256,k (n.val:Int)=k' n.val)(m:Int)(s:ByteArray):gK k m s=gK k' m s:=by
 unfold gK
 congr 1
 rw[Bool.eq_iff_iff,List.all_eq_true,List.all_eq_true]
 constructor<;>intro ha x hx
 ·have hb:=pG s x hx;have:=h ⟨x.toNat,by omega⟩;have e:((x.toNat:Nat):Int)=x:=by omega
  rw[e]at this;rw[<-this];exact ha x hx
 ·have hb:=pG s x hx;have:=h ⟨x.toNat,by omega⟩;have e:((x.toNat:Nat):Int)=x:=by omega
  rw[e]at this;rw[this];exact ha x hx
theorem xD(w:World)(v:Value)(t:Nat):(w.alloc (.cells #[v] t)).cell? ⟨w.heap.size,0,none⟩=some v:=
 World.cell?_alloc_at _ _ _ _ rfl
theorem nH(o:ByteArray)(w:World):
    Calls Tryz.prog 154 #[.string o] w fun e w'=>e=.returned (.func (.func 171) #[] #[.pointer (some ⟨w.heap.size,0,none⟩)])/\w'=w.alloc (.cells #[.string o] 9):=by
 go_enter Tryz.func154,Tryz.ntmps154;go_wp2;go_ret;exact⟨rfl,rfl⟩
theorem qO(s:ByteArray)(w:World)(hs:s.size<=140737488351232):
    Calls Tryz.prog 134 #[.string s] w fun e w'=>e=.returned (.bool (Bp s))/\Below w.heap.size w w':=by
 have hc:=xD w (.string ⟨#[46,45]⟩) 9;go_enter Tryz.func134,Tryz.ntmps134;go_wp2_with(first
  | (go_at_call 154;refine(nH _ _).mono ?_;rintro e w' ⟨rfl,rfl⟩)
  | (go_at_call 153;refine(xA s _ 32 _ _ hs hc).mono ?_;rintro e w' ⟨rfl,rfl⟩))
 go_ret;exact⟨ai (nG Oe 32 s),(Below.refl _ _).alloc (Nat.le_refl _) _⟩
theorem uo(s:ByteArray)(w:World)(hs:s.size<=140737488351232):
    Calls Tryz.prog 149 #[.string s] w fun e w'=>e=.returned (.bool (loc s))/\Below w.heap.size w w':=by
 have hc:=xD w (.string ⟨#[46,95,45]⟩) 9;go_enter Tryz.func149,Tryz.ntmps149;go_wp2_with(first
  | (go_at_call 154;refine(nH _ _).mono ?_;rintro e w' ⟨rfl,rfl⟩)
  | (go_at_call 153;refine(xA s _ 32 _ _ hs hc).mono ?_;rintro e w' ⟨rfl,rfl⟩))
 go_ret;exact⟨ai (nG Og 32 s),(Below.refl _ _).alloc (Nat.le_refl _) _⟩
theorem Dc(s:ByteArray)(w:World)(hs:s.size<=140737488351232):
    Calls Tryz.prog 130 #[.string s] w fun e w'=>e=.returned (.bool (aK s))/\Below w.heap.size w w':=by
 have hc:=xD w (.string ⟨#[46,95]⟩) 9;go_enter Tryz.func130,Tryz.ntmps130;go_wp2_with(first
  | (go_at_call 154;refine(nH _ _).mono ?_;rintro e w' ⟨rfl,rfl⟩)
  | (go_at_call 153;refine(xA s _ 64 _ _ hs hc).mono ?_;rintro e w' ⟨rfl,rfl⟩))
 go_ret;exact⟨ai (nG Oh 64 s),(Below.refl _ _).alloc (Nat.le_refl _) _⟩
theorem gy(c:Int)(w:World):
    Calls Tryz.prog 68 #[.int .u8 c] w fun e w'=>e=.returned (.bool (small c))/\w=w':=by
 go_enter Tryz.func68,Tryz.ntmps68;go_wp2
 all_goals
  go_ret;refine⟨ai ?_,rfl⟩;unfold small;rw[Bool.eq_iff_iff];simp;omega
def aN:ByteArray:=⟨#[]⟩
def parts(c:Int)(s:ByteArray):ByteArray×ByteArray×Bool:=
 if 0<s.size/\(ints s).getD 0 0=c/\((ints s).drop 1).findIdx (· ==58)+1<s.size/\loc (s.extract 1 (((ints s).drop 1).findIdx (· ==58)+1))=true/\Bp (s.extract (((ints s).drop 1).findIdx (· ==58)+2) s.size)=true
 then(s.extract 1 (((ints s).drop 1).findIdx (· ==58)+1),s.extract (((ints s).drop 1).findIdx (· ==58)+2) s.size,true)else(aN,aN,false)
theorem jg(l:List Int)(j:Nat):(l.drop 1).getD j 0=l.getD (j+1) 0:=by
 simp[List.getD_eq_getElem?_getD]
theorem xE(l:List Int)(k:Nat)(hk:k<l.length)(hc:l.getD k 0=58)(ha:∀j,j<k->l.getD j 0≠58):l.findIdx (· ==58)=k:=by
 induction l generalizing k with
 | nil=>simp at hk
 | cons a l ih=>
  rw[List.findIdx_cons]
  match k with
  | 0=>simp at hc;simp[hc]
  | k+1=>
   have h0:=ha 0 (by omega);simp only[List.getD_cons_zero]at h0;have h1:(a==58)=false:=by simp[h0]
   rw[h1];simp only[cond_false];rw[ih k (by simpa using hk) (by simpa using hc) (fun j hj=>by simpa using ha (j+1) (by omega))]
theorem uq(l:List Int)(ha:∀j,j<l.length->l.getD j 0≠58):l.findIdx (· ==58)=l.length:=by
 induction l with
 | nil=>rfl
 | cons a l ih=>
  have h0:=ha 0 (by simp);simp only[List.getD_cons_zero]at h0;have h1:(a==58)=false:=by simp[h0]
  rw[List.findIdx_cons,h1];simp only[cond_false];rw[ih (fun j hj=>by simpa using ha (j+1) (by simpa using hj))];simp
theorem RH(l:List UInt8)(k:Nat)(hk:k<l.length)(hc:(l.map fun c=>(c.toNat:Int)).getD k 0=58)(ha:∀j,j<k->(l.map fun c=>(c.toNat:Int)).getD j 0≠58):Lib.indexByte l 58=k:=by
 induction l generalizing k with
 | nil=>simp at hk
 | cons a l ih=>
  unfold Lib.indexByte
  match k with
  | 0=>
   have:a=58:=by
    simp at hc;exact UInt8.toNat_inj.1 (by simpa using(by omega:a.toNat=58))
   simp[this]
  | k+1=>
   have h0:=ha 0 (by omega);have h1:(a==58)=false:=by
    simp only[List.map_cons,List.getD_cons_zero]at h0;simp only[beq_eq_false_iff_ne,ne_eq];intro h;subst h;exact h0 rfl
   rw[h1,ih k (by simpa using hk) (by simpa using hc) (fun j hj=>by simpa using ha (j+1) (by omega))];have h2:((k:Int)== -1)=false:=by simp
   simp[h2]
theorem Oi(l:List UInt8)(ha:∀j,j<l.length->(l.map fun c=>(c.toNat:Int)).getD j 0≠58):Lib.indexByte l 58= -1:=by
 induction l with
 | nil=>rfl
 | cons a l ih=>
  unfold Lib.indexByte;have h0:=ha 0 (by simp);have h1:(a==58)=false:=by
   simp only[List.map_cons,List.getD_cons_zero]at h0;simp only[beq_eq_false_iff_ne,ne_eq];intro h;subst h;exact h0 rfl
  rw[h1,ih (fun j hj=>by simpa using ha (j+1) (by simpa using hj))];simp
theorem Ab(c:Int)(s:ByteArray)(k:Nat)(h0:(ints s).getD 0 0=c)(h1:1<=k)(hk:k<s.size)(hc:(ints s).getD k 0=58)(ha:∀j,1<=j->j<k->(ints s).getD j 0≠58):
    parts c s=if loc (s.extract 1 k)=true/\Bp (s.extract (k+1) s.size)=true then(s.extract 1 k,s.extract (k+1) s.size,true)else(aN,aN,false):=by
 have hf:((ints s).drop 1).findIdx (· ==58)=k - 1:=by
  refine xE _ _ (by simp[aH];omega) ?_ fun j hj=> ?_
  ·rw[jg,Nat.sub_add_cancel h1];exact hc
  ·rw[jg];exact ha (j+1) (by omega) (by omega)
 unfold parts;rw[hf];have e1:k - 1+1=k:=by omega
 have e2:k - 1+2=k+1:=by omega
 rw[e1,e2]
 by_cases hl:loc (s.extract 1 k)=true/\Bp (s.extract (k+1) s.size)=true
 ·rw[if_pos hl,if_pos ⟨by omega,h0,hk,hl.1,hl.2⟩]
 ·rw[if_neg hl,if_neg fun h=>hl ⟨h.2.2.2.1,h.2.2.2.2⟩]
theorem lq(c:Int)(s:ByteArray)(h:s.size=0\/ (ints s).getD 0 0≠c\/ ∀j,1<=j->j<s.size->(ints s).getD j 0≠58):parts c s=(aN,aN,false):=by
 unfold parts;rw[if_neg];intro⟨g0,g1,g2,_⟩
 rcases h with h| h| h
 ·omega
 ·exact h g1
 ·have:((ints s).drop 1).findIdx (· ==58)=((ints s).drop 1).length:=uq _ fun j hj=>by
    rw[jg];exact h (j+1) (by omega) (by simp[aH]at hj;omega)
  rw[this]at g2;simp[aH]at g2;omega
theorem De(s:ByteArray):(∃k,1<=k/\k<s.size/\(ints s).getD k 0=58/\∀j,1<=j->j<k->(ints s).getD j 0≠58)\/ ∀j,1<=j->j<s.size->(ints s).getD j 0≠58:=by
 have:∀n,(∃k,1<=k/\k<n/\(ints s).getD k 0=58/\∀j,1<=j->j<k->(ints s).getD j 0≠58)\/ ∀j,1<=j->j<n->(ints s).getD j 0≠58:=by
  intro n
  induction n with
  | zero=>exact .inr fun j _ hj=>by omega
  | succ n ih=>
   rcases ih with⟨k,h1,h2,h3,h4⟩| h
   ·exact .inl ⟨k,h1,by omega,h3,h4⟩
   ·by_cases hn:1<=n/\(ints s).getD n 0=58
    ·exact .inl ⟨n,hn.1,by omega,hn.2,h⟩
    ·refine .inr fun j h1 h2=> ?_
     by_cases e:j=n
     ·subst e;exact fun he=>hn ⟨h1,he⟩
     ·exact h j h1 (by omega)
 exact this s.size
theorem Oj(s:ByteArray)(k:Nat)(h1:1<=k)(hk:k<=s.size):(s.extract 1 s.size).extract 0 (k - 1)=s.extract 1 k:=by
 rw[ByteArray.extract_extract]
 congr 1
 omega
theorem Gi(s:ByteArray)(k:Nat):(s.extract 1 s.size).extract k (s.extract 1 s.size).size=s.extract (k+1) s.size:=by
 rw[ByteArray.extract_extract];simp
 congr 1
 all_goals omega
theorem below_drewN(w:World):∀n,Below w.heap.size w (w.drewN n)
 | 0=>by rw[World.drewN_zero];exact Below.refl _ _
 | n+1=>by rw[<-World.drew_drewN];exact(below_drewN w n).drew
theorem La(l:List UInt8)(h:0<l.length):l.take 1= [l[0]]:=by
 cases l with
 | nil=>simp at h
 | cons a l=>simp
theorem Df(s:ByteArray)(h:0<s.size):(s.extract 0 1).toList= [s[0]]:=by
 rw[Lib.toList_data,ByteArray.data_extract,Array.toList_extract];simp only[List.extract_eq_take_drop,List.drop_zero,Nat.sub_zero];rw[La _ (by simpa using h)];simp[ByteArray.getElem_eq_getElem_data]
theorem zt(s:ByteArray)(c:UInt8)(w:World)(hs:s.size<=140737488351232)(h:0<s.size)(hc:s[0]=c):
    Calls Tryz.prog 92 #[.string s,.string ⟨#[c]⟩] w fun e w'=>e=.returned (.bool true)/\w=w':=by
 have h1:((s.extract 0 1).toList== [c])=true:=by rw[Df s h,hc];simp
 go_enter Tryz.func92,Tryz.ntmps92;go_wp2;go_ret;exact⟨rfl,rfl⟩
theorem Bq(s:ByteArray)(c:UInt8)(w:World)(hs:s.size<=140737488351232)(h:∀h:0<s.size,s[0]≠c):
    Calls Tryz.prog 92 #[.string s,.string ⟨#[c]⟩] w fun e w'=>e=.returned (.bool false)/\w=w':=by
 by_cases h0:0<s.size
 ·have h1:((s.extract 0 1).toList== [c])=false:=by rw[Df s h0];simp[h h0]
  go_enter Tryz.func92,Tryz.ntmps92;go_wp2;go_ret;exact⟨rfl,rfl⟩
 ·go_enter Tryz.func92,Tryz.ntmps92;go_wp2;go_ret;exact⟨rfl,rfl⟩
theorem se(s:ByteArray)(c:UInt8)(w:World)(hs:s.size<=140737488351232)(h:0<s.size)(hc:s[0]=c):
    Calls Tryz.prog 168 #[.string s,.string ⟨#[c]⟩] w fun e w'=>e=.returned (.tuple #[.string (s.extract 1 s.size),.bool true])/\w=w':=by
 go_enter Tryz.func168,Tryz.ntmps168;go_wp2_with(go_at_call 92;refine(zt s c _ hs h hc).mono ?_;rintro e w' ⟨rfl,rfl⟩);go_ret2;exact⟨rfl,rfl⟩
theorem uu(s:ByteArray)(c:UInt8)(w:World)(hs:s.size<=140737488351232)(h:∀h:0<s.size,s[0]≠c):
    Calls Tryz.prog 168 #[.string s,.string ⟨#[c]⟩] w fun e w'=>e=.returned (.tuple #[.string s,.bool false])/\w=w':=by
 go_enter Tryz.func168,Tryz.ntmps168;go_wp2_with(go_at_call 92;refine(Bq s c _ hs h).mono ?_;rintro e w' ⟨rfl,rfl⟩);go_ret2;exact⟨rfl,rfl⟩
theorem gZ(s:ByteArray)(c:UInt8)(w:World)(hs:s.size<=140737488351232)(h:0<s.size)(hc:s[0]=c):
    Calls Tryz.prog 147 #[.string s,.string ⟨#[c]⟩] w fun e w'=>e=.returned (.tuple #[.string (s.extract 1 s.size),.bool true])/\w=w':=by
 go_enter Tryz.func147,Tryz.ntmps147;go_wp2_with(go_at_call 168;refine(se s c _ hs h hc).mono ?_;rintro e w' ⟨rfl,rfl⟩);go_ret2;exact⟨rfl,rfl⟩
theorem si(s:ByteArray)(c:UInt8)(w:World)(hs:s.size<=140737488351232)(h:∀h:0<s.size,s[0]≠c):
    Calls Tryz.prog 147 #[.string s,.string ⟨#[c]⟩] w fun e w'=>e=.returned (.tuple #[.string s,.bool false])/\w=w':=by
 go_enter Tryz.func147,Tryz.ntmps147;go_wp2_with(go_at_call 168;refine(uu s c _ hs h).mono ?_;rintro e w' ⟨rfl,rfl⟩);go_ret2;exact⟨rfl,rfl⟩
theorem index_one(s:ByteArray)(w:World):
    Calls Tryz.prog 185 #[.string s,.string ⟨#[58]⟩] w fun e w'=>e=.returned (.int .i64 (Lib.indexByte s.data.toList 58))/\w=w':=by
 go_enter Tryz.func185,Tryz.ntmps185;go_wp2_with(go_at_call 186;refine(lg _ _ _).mono ?_;rintro e w' ⟨rfl,rfl⟩)
 ·have h:([58]==s.toList)=true:=by assumption
  go_ret;refine⟨?_,rfl⟩;have e:s.data.toList= [58]:=by rw[<-Lib.toList_data];exact(beq_iff_eq.1 h).symm
  rw[e];simp[Lib.indexByte]
 ·go_ret;exact⟨rfl,rfl⟩
theorem Gj(t:ByteArray)(w:World)(hi:Lib.indexByte t.data.toList 58= -1):
    Calls Tryz.prog 169 #[.string t,.string ⟨#[58]⟩] w fun e w'=>e=.returned (.tuple #[.string t,.string ⟨#[]⟩,.bool false])/\Below w.heap.size w w':=by
 go_enter Tryz.func169,Tryz.ntmps169;go_wp2_with(go_at_call 185;refine(index_one t _).mono ?_;rw[hi];rintro e w' ⟨rfl,rfl⟩)
 go_ret3
 exact⟨rfl,Below.refl _ _⟩
theorem Vt(t:ByteArray)(w:World)(hi:Lib.indexByte t.data.toList 58= -1):
    Calls Tryz.prog 148 #[.string t,.string ⟨#[58]⟩] w fun e w'=>e=.returned (.tuple #[.string t,.string ⟨#[]⟩,.bool false])/\Below w.heap.size w w':=by
 go_enter Tryz.func148,Tryz.ntmps148;go_wp2_with(go_at_call 169;refine(Gj t _ hi).mono ?_;rintro e w' ⟨rfl,hb⟩)
 go_ret3
 exact⟨rfl,hb⟩
theorem Dg(t:ByteArray)(k:Nat)(w:World)(hs:t.size<=140737488351232)(hk:k<t.size)(hi:Lib.indexByte t.data.toList 58=k):
    Calls Tryz.prog 169 #[.string t,.string ⟨#[58]⟩] w fun e w'=>e=.returned (.tuple #[.string (t.extract 0 k),.string (t.extract (k+1) t.size),.bool true])/\Below w.heap.size w w':=by
 go_enter Tryz.func169,Tryz.ntmps169;go_wp2_with(go_at_call 185;refine(index_one t _).mono ?_;rw[hi];rintro e w' ⟨rfl,rfl⟩);go_quiet (fail);go_wp2
 go_ret3
 exact⟨rfl,below_drewN _ _⟩
theorem RI(t:ByteArray)(k:Nat)(w:World)(hs:t.size<=140737488351232)(hk:k<t.size)(hi:Lib.indexByte t.data.toList 58=k):
    Calls Tryz.prog 148 #[.string t,.string ⟨#[58]⟩] w fun e w'=>e=.returned (.tuple #[.string (t.extract 0 k),.string (t.extract (k+1) t.size),.bool true])/\Below w.heap.size w w':=by
 go_enter Tryz.func148,Tryz.ntmps148;go_wp2_with(go_at_call 169;refine(Dg t k _ hs hk hi).mono ?_;rintro e w' ⟨rfl,hb⟩)
 go_ret3
 exact⟨rfl,hb⟩
def told(p:ByteArray×ByteArray×Bool):Value:=.tuple #[.string p.1,.string p.2.1,.bool p.2.2]
theorem g_{a b:ByteArray}{t:Bool}{p:ByteArray×ByteArray×Bool}(h:p=(a,b,t)):Ending.returned (.tuple #[.string a,.string b,.bool t])=.returned (told p):=by rw[h];rfl
theorem Ol(a c:UInt8):(a.toNat:Int)=(c.toNat:Int)↔a=c:=by
 constructor
 ·intro h;exact UInt8.toNat_inj.1 (by omega)
 ·intro h;rw[h]
theorem Ac(s:ByteArray)(c:UInt8)(w:World)(hs:s.size<=140737488351232):
    Calls Tryz.prog 121 #[.string s,.string ⟨#[c]⟩] w fun e w'=>e=.returned (told (parts (c.toNat:Int) s))/\Below w.heap.size w w':=by
 by_cases hp:∀h:0<s.size,s[0]≠c
 ·have HP:Hid (parts (c.toNat:Int) s=(aN,aN,false)):=by
    refine lq _ _ ?_
    by_cases h0:s.size=0
    ·exact .inl h0
    ·refine .inr (.inl ?_);rw[cK s 0 (by omega),ne_eq,Ol];exact hp (by omega)
  go_enter Tryz.func121,Tryz.ntmps121;go_wp2_with(go_at_call 147;refine(si s c _ hs hp).mono ?_;rintro e w' ⟨rfl,rfl⟩)
  go_ret3
  exact⟨g_ HP.out,Below.refl _ _⟩
 ·obtain⟨h0,hc⟩:∃h:0<s.size,s[0]=c:=by simpa using hp
  clear hp;have hg:(ints s).getD 0 0=(c.toNat:Int):=by rw[cK s 0 h0,hc]
  have fq:(s.extract 1 s.size).size<=140737488351232:=by simp;omega
  have hii:(s.extract 1 s.size).data.toList.map (fun c=>(c.toNat:Int))=(ints s).drop 1:=iM s 1
  rcases De s with⟨k,h1,hk,Vu,hka⟩| hno
  ·have hi:Lib.indexByte (s.extract 1 s.size).data.toList 58=((k - 1:Nat):Int):=by
     refine RH _ _ ?_ ?_ fun j hj=> ?_
     ·rw[<-Lib.size_eq];simp;omega
     ·rw[hii,jg,Nat.sub_add_cancel h1];exact Vu
     ·rw[hii,jg];exact hka (j+1) (by omega) (by omega)
   have hcut:=fun wx:World=>RI (s.extract 1 s.size) (k - 1) wx fq (by simp;omega) hi;rw[Oj s k h1 (by omega),Nat.sub_add_cancel h1,Gi s k]at hcut;have HP:Hid (parts (c.toNat:Int) s=if loc (s.extract 1 k)=true/\Bp (s.extract (k+1) s.size)=true then(s.extract 1 k,s.extract (k+1) s.size,true)else(aN,aN,false)):=Ab _ s k hg h1 hk Vu hka;have FY:(s.extract 1 k).size<=140737488351232:=by simp;omega
   have FZ:(s.extract (k+1) s.size).size<=140737488351232:=by simp;omega
   obtain⟨t1,ht1⟩:∃t,t=s.extract 1 k:=⟨_,rfl⟩;obtain⟨t2,ht2⟩:∃t,t=s.extract (k+1) s.size:=⟨_,rfl⟩;rw[<-ht1,<-ht2]at HP hcut;rw[<-ht1]at FY;rw[<-ht2]at FZ;clear ht1 ht2 hi hii hka Vu
   by_cases hL:loc t1=true
   ·by_cases hS:Bp t2=true
    ·go_enter Tryz.func121,Tryz.ntmps121;go_wp2_with(first
      | (go_at_call 147;refine(gZ s c _ hs h0 hc).mono ?_;rintro e w' ⟨rfl,rfl⟩)
      | (go_at_call 148;refine(hcut _).mono ?_;rintro e w1 ⟨rfl,aP⟩)
      | (go_at_call 149;refine(uo t1 _ FY).mono ?_;rintro e w2 ⟨rfl,aT⟩)
      | (go_at_call 134;refine(qO t2 _ FZ).mono ?_;rintro e w3 ⟨rfl,dA⟩))
     go_ret3
     have c2:=aP.trans (aT.mono aP.size);exact⟨g_ (by rw[HP.out,if_pos ⟨hL,hS⟩]),c2.trans (dA.mono c2.size)⟩
    ·have hS':Bp t2=false:=by simpa using hS
     go_enter Tryz.func121,Tryz.ntmps121;go_wp2_with(first
      | (go_at_call 147;refine(gZ s c _ hs h0 hc).mono ?_;rintro e w' ⟨rfl,rfl⟩)
      | (go_at_call 148;refine(hcut _).mono ?_;rintro e w1 ⟨rfl,aP⟩)
      | (go_at_call 149;refine(uo t1 _ FY).mono ?_;rintro e w2 ⟨rfl,aT⟩)
      | (go_at_call 134;refine(qO t2 _ FZ).mono ?_;rintro e w3 ⟨rfl,dA⟩))
     go_ret3
     have c2:=aP.trans (aT.mono aP.size);exact⟨g_ (by rw[HP.out,if_neg (by simp[hS'])];rfl),c2.trans (dA.mono c2.size)⟩
   ·have hL':loc t1=false:=by simpa using hL
    clear hL;go_enter Tryz.func121,Tryz.ntmps121;go_wp2_with(first
     | (go_at_call 147;refine(gZ s c _ hs h0 hc).mono ?_;rintro e w' ⟨rfl,rfl⟩)
     | (go_at_call 148;refine(hcut _).mono ?_;rintro e w1 ⟨rfl,aP⟩)
     | (go_at_call 149;refine(uo t1 _ FY).mono ?_;rintro e w2 ⟨rfl,aT⟩))
    go_ret3
    exact⟨g_ (by rw[HP.out,if_neg (by simp[hL'])];rfl),aP.trans (aT.mono aP.size)⟩
  ·have hi:Lib.indexByte (s.extract 1 s.size).data.toList 58= -1:=by
     refine Oi _ fun j hj=> ?_;rw[<-Lib.size_eq]at hj;simp at hj;rw[hii,jg];exact hno (j+1) (by omega) (by omega)
   have HP:Hid (parts (c.toNat:Int) s=(aN,aN,false)):=lq _ _ (.inr (.inr hno));have hcut:=fun wx:World=>Vt (s.extract 1 s.size) wx hi;go_enter Tryz.func121,Tryz.ntmps121;go_wp2_with(first
    | (go_at_call 147;refine(gZ s c _ hs h0 hc).mono ?_;rintro e w' ⟨rfl,rfl⟩)
    | (go_at_call 148;refine(hcut _).mono ?_;rintro e w1 ⟨rfl,aP⟩))
   go_ret3
   exact⟨g_ HP.out,aP⟩
theorem oM(s:ByteArray)(w:World)(hs:s.size<=140737488351232):
    Calls Tryz.prog 84 #[.string s] w fun e w'=>e=.returned (told (parts 64 s))/\Below w.heap.size w w':=by
 go_enter Tryz.func84,Tryz.ntmps84;go_wp2_with(go_at_call 121;refine(Ac s 64 _ hs).mono ?_;rintro e w1 ⟨rfl,aP⟩;unfold told)
 go_ret3
 exact⟨rfl,aP⟩
theorem Dh(s:ByteArray)(w:World)(hs:s.size<=140737488351232):
    Calls Tryz.prog 119 #[.string s] w fun e w'=>e=.returned (told (parts 33 s))/\Below w.heap.size w w':=by
 go_enter Tryz.func119,Tryz.ntmps119;go_wp2_with(go_at_call 121;refine(Ac s 33 _ hs).mono ?_;rintro e w1 ⟨rfl,aP⟩;unfold told)
 go_ret3
 exact⟨rfl,aP⟩
end Go.Proofs.YtldegjjaknelgaaGreatDoor.Id

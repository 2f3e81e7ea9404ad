/- A part. -/
import Derived.WalkKit
import Derived.WalkSpells
import Derived.WalkLawsBesides
import Derived.Laws.BytesArg
import Derived.Lib.Strings
import Derived.Lib.RuneBytes
import Derived.Lib.Bytealg
import Derived.Laws.RangeAny
import Derived.Lib.ItoaNum
import Derived.Orders
import Derived.Tactics2
import Derived.Laws.BitsLemmas
import Derived.Test.YtldegjjaknelgaaGreatDoorRows
import Derived.Lib.Walk
import Derived.BigQuiet
set_option maxRecDepth 100000
set_option maxHeartbeats 64000000
namespace Go.Proofs.YtldegjjaknelgaaGreatDoor
open Go.RowKit
def ints(s:ByteArray):List Int:=s.data.toList.map fun c=>(c.toNat:Int)
theorem aM(s:ByteArray):(ints s).length=s.size:=by simp[ints]
theorem dt(s:ByteArray)(k:Nat)(h:k<s.size):(ints s).getD k 0=(s[k].toNat:Int):=by
 have h':k<s.data.toList.length:=by simpa using h
 simp only[ints,List.getD_eq_getElem?_getD,List.getElem?_map,List.getElem?_eq_getElem h',Option.map_some,Option.getD_some]
 rfl
theorem jA(s:ByteArray)(k:Nat):ints (s.extract k s.size)=(ints s).drop k:=by
 simp only[ints,ByteArray.data_extract,Array.toList_extract,List.extract_eq_take_drop,List.map_take,List.map_drop];rw[List.take_of_length_le];have:(List.drop k (List.map (fun c:UInt8=>(c.toNat:Int)) s.data.toList)).length=s.size - k:=by simp
 omega
theorem Qg(l:List Int)(h:∀x∈l,0<=x/\x<=255):ints (strOfNums l)=l:=by
 simp only[ints,strOfNums,List.map_map]
 conv=>rhs;rw[<-List.map_id l]
 refine List.map_congr_left fun x hx=> ?_;have:=h x hx;simp only[Function.comp,id_eq];have hx:x.toNat<256:=by omega
 rw[UInt8.toNat_ofNat_of_lt' hx];omega
theorem Qh(s:ByteArray):strOfNums (ints s)=s:=by
 cases s with
 | mk d=>
  simp only[ints,strOfNums,List.map_map];have e:((fun n:Int=>UInt8.ofNat n.toNat)∘fun c:UInt8=>(c.toNat:Int))=id:=by
   funext c
   simp
  rw[e,List.map_id]
theorem Qi(l:List Int):(strOfNums l).size=l.length:=by
 show(strOfNums l).data.size=_
 simp[strOfNums]
theorem aj{a b:Bool}(h:a=b):Ending.returned (.bool a)=.returned (.bool b):=by rw[h]
theorem Ux{a b:ByteArray}(h:a=b):Ending.returned (.string a)=.returned (.string b):=by rw[h]
theorem bK(a:Addr)(m:Nat):(a.add m).block=a.block:=by unfold Addr.add;split<;>rfl
theorem bB{w:World}{g t:Nat}{fr:Nat×Nat}{cur:List Value}(h:w.heap[g]?=some (.cells cur.toArray t fr))(j:Nat)(v:Value)(hj:cur[j]?=some v):w.cell? ⟨g,j,none⟩=some v:=by
 simp[World.cell?,h,hj]
theorem lJ{w:World}{B e size n:Nat}{v:Value}{xs:List Value}(h:w.ownsRow B e size v n xs):∀k,v.ownBlock=some k->B<=k:=by
 intro k hk
 rcases h.2 with⟨rfl,_⟩| ⟨g,cap,cur,rfl,hg,_⟩
 ·cases hk
 ·cases hk;exact hg
inductive J where
 | mk (kind int:Int) (text:ByteArray) (keys:List ByteArray) (list:List J)
def aT:ByteArray:=⟨#[]⟩
def J.zero:J:=.mk 0 0 aT [] []
def J.kind:J->Int| .mk k _ _ _ _=>k
def J.int:J->Int| .mk _ i _ _ _=>i
def J.text:J->ByteArray| .mk _ _ t _ _=>t
def J.keys:J->List ByteArray| .mk _ _ _ ks _=>ks
def J.list:J->List J| .mk _ _ _ _ l=>l
def aB(t:List Int)(i:Nat):Int:=t.getD i 0
def dN:Int:=9007199254740991
def lessB:List UInt8->List UInt8->Bool
 | [], []=>false
 | [],_::_=>true
 | _::_, []=>false
 | a::x,b::y=>decide (a<b) || (decide (a=b)&&lessB x y)
def putK(k:ByteArray)(v:J):List (ByteArray×J)->List (ByteArray×J)
 | []=> [(k,v)]
 | q::l=>if lessB k.data.toList q.1.data.toList=true then(k,v)::q::l else q::putK k v l
def fQ:List (ByteArray×J)->List (ByteArray×J)
 | []=> []
 | q::l=>putK q.1 q.2 (fQ l)
def mapOf(ks:List ByteArray)(l:List J):J:=.mk 5 0 aT ((fQ (ks.zip l)).map (·.1)) ((fQ (ks.zip l)).map (·.2))
theorem Nn{t:List Int}{p:Nat}(h:aB t p≠0):p<t.length:=by
 unfold aB at h
 rcases Nat.lt_or_ge p t.length with h'| h'
 ·exact h'
 ·rw[List.getD_eq_getElem?_getD,List.getElem?_eq_none h']at h;exact absurd rfl h
open Go.RowKit
structure ay(S:Nat->Prop)(w w':World):Prop where
 os:w'.os=w.os
 tape:w'.tape=w.tape
 output:w'.output=w.output
 size:w.heap.size<=w'.heap.size
 block:∀k,k<w.heap.size->¬S k->w'.heap[k]?=w.heap[k]?
theorem ay.refl(S:Nat->Prop)(w:World):ay S w w:=⟨rfl,rfl,rfl,Nat.le_refl _,fun _ _ _=>rfl⟩
theorem ay.trans{S S':Nat->Prop}{a b c:World}(h:ay S a b)(k:ay S' b c)(hS:∀i,i<a.heap.size->S' i->S i):ay S a c:=
 ⟨k.os.trans h.os,k.tape.trans h.tape,k.output.trans h.output,Nat.le_trans h.size k.size,fun i hi hn=>(k.block i (Nat.lt_of_lt_of_le hi h.size) (fun h'=>hn (hS i hi h'))).trans (h.block i hi hn)⟩
theorem ay.then{S:Nat->Prop}{a b c:World}(h:ay S a b)(k:ay S b c):ay S a c:=h.trans k fun _ _ h=>h
theorem ay.mono{S S':Nat->Prop}{a b:World}(h:ay S a b)(hS:∀i,i<a.heap.size->S i->S' i):ay S' a b:=
 ⟨h.os,h.tape,h.output,h.size,fun i hi hn=>h.block i hi fun h'=>hn (hS i hi h')⟩
theorem ay.bq{S:Nat->Prop}{a b:World}(h:Below a.heap.size a b):ay S a b:=⟨h.os,h.tape,h.output,h.size,fun k hk _=>h.block k hk⟩
theorem ay.gQ{S:Nat->Prop}{a b:World}{row:Option Nat}(h:a.grownBy b row)(hr:∀k,k<a.heap.size->row=some k->S k):ay S a b:=
 ⟨h.os,h.tape,h.output,h.size,fun k hk hn=>h.block k hk fun e=>hn (hr k hk e.symm)⟩
theorem ay.below{S:Nat->Prop}{a b:World}(h:ay S a b){B:Nat}(hB:B<=a.heap.size)(hS:∀k,k<B->¬S k):Below B a b:=
 ⟨h.os,h.tape,h.output,h.size,fun k hk=>h.block k (Nat.lt_of_lt_of_le hk hB) (hS k hk)⟩
theorem ay.cell{S:Nat->Prop}{a b:World}(h:ay S a b){p:Addr}(hp:p.block<a.heap.size)(hS:¬S p.block):b.cell? p=a.cell? p:=World.cell?_of_block (h.block _ hp hS)
theorem ay.drew{S:Nat->Prop}{a b:World}(h:ay S a b):ay S a b.drew:=⟨h.os,h.tape,h.output,h.size,h.block⟩
theorem ay.drewN{S:Nat->Prop}{a b:World}(h:ay S a b)(n:Nat):ay S a (b.drewN n):=⟨h.os,h.tape,h.output,h.size,h.block⟩
theorem ay.alloc{S:Nat->Prop}{a b:World}(h:ay S a b)(o:Obj):ay S a (b.alloc o):=
 h.trans (S':=fun _=>False) (ay.bq ((Below.refl _ _).alloc (Nat.le_refl _) o)) fun _ _ h=>h.elim
theorem ay.setCell{S:Nat->Prop}{a b:World}(h:ay S a b){p:Addr}(hp:p.block<a.heap.size->S p.block)(u:Value):ay S a (b.setCell p u):=
 ⟨h.os,h.tape,h.output,by rw[show(b.setCell p u).heap.size=b.heap.size by simp];exact h.size,fun k hk hn=>by
  rw[Below.heap_setCell b p u k (fun e=>hn (e ▸ hp (e ▸ hk)))];exact h.block k hk hn⟩
theorem bf{S:Nat->Prop}{w w':World}{B e size n:Nat}{v:Value}{xs:List Value}(h:w.ownsRow B e size v n xs)(hk:ay S w w')(hS:∀k,v.ownBlock=some k->¬S k):w'.ownsRow B e size v n xs:=by
 refine⟨h.1, ?_⟩
 rcases h.2 with hn| ⟨g,cap,cur,rfl,hg,yK,rest⟩
 ·exact .inl hn
 ·exact .inr ⟨g,cap,cur,rfl,hg,by rw[hk.block g (Array.getElem?_eq_some_iff.1 yK).1 (hS g rfl)];exact yK,rest⟩
def jP(O:Nat->Prop)(w:World)(p:Option Addr)(c:Nat)(ks:List ByteArray):Prop:=
 ks.length<=c/\∀j,j<ks.length->∃a,p=some a/\O a.block/\w.cell? (a.add j)=some (.string (ks.getD j aT))
theorem jP.nil(O:Nat->Prop)(w:World):jP O w none 0 []:=⟨Nat.le_refl _,fun j hj=>absurd hj (by simp)⟩
theorem jP.carry{O O':Nat->Prop}{w w':World}{p:Option Addr}{c:Nat}{ks:List ByteArray}(h:jP O w p c ks)(hO:∀k,O k->O' k/\w'.heap[k]?=w.heap[k]?):jP O' w' p c ks:=
 ⟨h.1,fun j hj=>by
  obtain⟨a,ha,hB,hc⟩:=h.2 j hj;exact⟨a,ha,(hO _ hB).1,(World.cell?_of_block (by rw[bK];exact(hO _ hB).2)).trans hc⟩⟩
mutual
def isJ(O:Nat->Prop)(w:World):J->List Value->Prop
 | .mk k i t ks l,cs=>∃pk ck pl cl,cs= [.int .i64 k,.int .i64 i,.string t,.slice pk ks.length ck,.slice pl l.length cl]/\jP O w pk ck ks/\l.length<=cl/\isJs O w pl 0 l
def isJs(O:Nat->Prop)(w:World)(p:Option Addr):Nat->List J->Prop
 | _, []=>True
 | n,j::r=>(∃b o cs,p=some ⟨b,o,none⟩/\O b/\(∀i v,cs[i]?=some v->w.cell? ⟨b,o+n*5+i,none⟩=some v)/\isJ O w j cs)/\isJs O w p (n+1) r
end
mutual
theorem isJ.carry{O O':Nat->Prop}{w w':World}(hO:∀k,O k->O' k/\w'.heap[k]?=w.heap[k]?):∀(j:J) (cs:List Value),isJ O w j cs->isJ O' w' j cs
 | .mk k i t ks l,cs,h=>by
  unfold isJ at h ⊢;obtain⟨pk,ck,pl,cl,e,h1,h2,h3⟩:=h;exact⟨pk,ck,pl,cl,e,h1.carry hO,h2,isJs.carry hO pl 0 l h3⟩
theorem isJs.carry{O O':Nat->Prop}{w w':World}(hO:∀k,O k->O' k/\w'.heap[k]?=w.heap[k]?)(p:Option Addr):∀(n:Nat) (l:List J),isJs O w p n l->isJs O' w' p n l
 | _, [],_=>by unfold isJs;trivial
 | n,j::r,h=>by
  unfold isJs at h ⊢;obtain⟨⟨b,o,cs,ha,hB,hc,hj⟩,hr⟩:=h;exact⟨⟨b,o,cs,ha,(hO _ hB).1,fun i v hi=>(World.cell?_of_block (a:=⟨b,o+n*5+i,none⟩) (hO _ hB).2).trans (hc i v hi),isJ.carry hO j cs hj⟩,isJs.carry hO p (n+1) r hr⟩
end
theorem isJs.at{O:Nat->Prop}{w:World}{p:Option Addr}:∀(l:List J) (n i:Nat),isJs O w p n l->i<l.length→
    ∃b o cs,p=some ⟨b,o,none⟩/\O b/\(∀m v,cs[m]?=some v->w.cell? ⟨b,o+(n+i)*5+m,none⟩=some v)/\isJ O w (l.getD i J.zero) cs
 | [],_,_,_,hi=>absurd hi (by simp)
 | j::r,n,0,h,_=>by
  unfold isJs at h;simpa using h.1
 | j::r,n,i+1,h,hi=>by
  unfold isJs at h;have:=isJs.at r (n+1) i h.2 (by simpa using hi);rw[show n+1+i=n+(i+1) by omega]at this;simpa using this
def isRow(O:Nat->Prop)(w:World):List J->List Value->Prop
 | [],xs=>xs= []
 | j::r,xs=>∃cs ys,xs=cs++ys/\cs.length=5/\isJ O w j cs/\isRow O w r ys
theorem isRow.carry{O O':Nat->Prop}{w w':World}(hO:∀k,O k->O' k/\w'.heap[k]?=w.heap[k]?):∀(l:List J) (xs:List Value),isRow O w l xs->isRow O' w' l xs
 | [],_,h=>h
 | _::r,_,⟨cs,ys,e,h5,hj,hr⟩=>⟨cs,ys,e,h5,hj.carry hO,isRow.carry hO r ys hr⟩
theorem isRow.snoc{O:Nat->Prop}{w:World}{j:J}{cs:List Value}(h5:cs.length=5)(hj:isJ O w j cs):∀(l:List J) (xs:List Value),isRow O w l xs->isRow O w (l++ [j]) (xs++cs)
 | [],xs,h=>by
  have h:xs= []:=h;subst h;exact⟨cs, [],by simp,h5,hj,rfl⟩
 | i::r,xs,⟨ds,ys,e,h5',hi,hr⟩=>⟨ds,ys++cs,by rw[e,List.append_assoc],h5',hi,isRow.snoc h5 hj r ys hr⟩
theorem isRow.isJs{O:Nat->Prop}{w:World}{b o:Nat}(ha:O b):∀(l:List J) (xs:List Value) (n:Nat),isRow O w l xs->(∀i v,xs[i]?=some v->w.cell? ⟨b,o+n*5+i,none⟩=some v)->isJs O w (some ⟨b,o,none⟩) n l
 | [],_,_,_,_=>by unfold Go.Proofs.YtldegjjaknelgaaGreatDoor.isJs;trivial
 | j::r,xs,n,⟨cs,ys,e,h5,hj,hr⟩,hc=>by
  unfold Go.Proofs.YtldegjjaknelgaaGreatDoor.isJs;refine⟨⟨b,o,cs,rfl,ha,fun i v hi=>hc i v ?_,hj⟩,isRow.isJs ha r ys (n+1) hr fun i v hi=> ?_⟩
  ·rw[e,List.getElem?_append_left (List.getElem?_eq_some_iff.1 hi).1];exact hi
  ·have:=hc (5+i) v (by rw[e,List.getElem?_append_right (by omega),h5];simpa using hi);rw[show o+(n+1)*5+i=o+n*5+(5+i) by omega];exact this
theorem isJ.AP{O:Nat->Prop}{w:World}{j:J}{cs:List Value}(h:isJ O w j cs):cs.length=5:=by
 cases j
 unfold isJ at h;obtain⟨_,_,_,_,rfl,_⟩:=h
 rfl
theorem yL(O:Nat->Prop)(w:World):isJ O w J.zero [.int .i64 0,.int .i64 0,.string aT,.slice none 0 0,.slice none 0 0]:=by
 unfold J.zero isJ;exact⟨none,0,none,0,rfl,jP.nil _ _,Nat.le_refl _,by unfold isJs;trivial⟩
def bW(t:List Int)(i:Nat):Bool:=decide (aB t i / 64=2)
def dz(c:Int):Bool:=(decide (c<55296) || decide (57344<=c))&&decide (c<=1114111)
def bN(t:List Int)(p:Nat):Int×Nat:=
 if aB t p<128 then(aB t p,1)
 else if(decide (aB t p / 32=6)&&bW t (p+1))=true then
  if 128<=aB t p % 32*64+aB t (p+1) % 64 then(aB t p % 32*64+aB t (p+1) % 64,2)else(0,0)
 else if(decide (aB t p / 16=14)&&bW t (p+1)&&bW t (p+2))=true then
  if(decide (2048<=aB t p % 16*4096+aB t (p+1) % 64*64+aB t (p+2) % 64)&&dz (aB t p % 16*4096+aB t (p+1) % 64*64+aB t (p+2) % 64))=true
  then(aB t p % 16*4096+aB t (p+1) % 64*64+aB t (p+2) % 64,3)else(0,0)
 else if(decide (aB t p / 8=30)&&bW t (p+1)&&bW t (p+2)&&bW t (p+3))=true then
  if(decide (65536<=aB t p % 8*262144+aB t (p+1) % 64*4096+aB t (p+2) % 64*64+aB t (p+3) % 64)&&dz (aB t p % 8*262144+aB t (p+1) % 64*4096+aB t (p+2) % 64*64+aB t (p+3) % 64))=true
  then(aB t p % 8*262144+aB t (p+1) % 64*4096+aB t (p+2) % 64*64+aB t (p+3) % 64,4)else(0,0)
 else(0,0)
def strayL(t:List Int):Nat->Nat->Option Nat
 | 0,_=>none
 | m+1,p=>if p<t.length then(if(bN t p).2=0 then some p else strayL t m (p+(bN t p).2))else none
def iO(t:List Int):Option Nat:=strayL t t.length 0
theorem nz(s:ByteArray)(i:Nat):((s.get! i).toNat:Int)=aB (ints s) i:=by
 unfold aB
 by_cases h:i<s.size
 ·rw[dt s i h];have:s.get! i=s[i]:=by simp[ByteArray.get!,getElem!_pos,h];rfl
  rw[this]
 ·rw[List.getD_eq_getElem?_getD,List.getElem?_eq_none (by rw[aM];omega)];have:s.get! i=0:=by
   have hd:¬i<s.data.size:=h
   show s.data[i]! =0
   rw[getElem!_neg s.data i hd];rfl
  rw[this];rfl
theorem ou(s:ByteArray)(i:Nat):0<=aB (ints s) i/\aB (ints s) i<=255:=by
 rw[<-nz];have:=(s.get! i).toNat_lt;omega
theorem lF(s:ByteArray)(i:Nat)(h:s.size<=i):aB (ints s) i=0:=by
 unfold aB;rw[List.getD_eq_getElem?_getD,List.getElem?_eq_none (by rw[aM];omega)]
 rfl
theorem CF(s:ByteArray)(i:Nat):(decide (i<s.size)&&((s.get! i).toNat / 64==2))=bW (ints s) i:=by
 unfold bW;have h1:=nz s i
 by_cases h:i<s.size
 ·rw[decide_eq_true h,Bool.true_and,Bool.eq_iff_iff];simp;omega
 ·rw[decide_eq_false h,lF s i (by omega)]
  rfl
theorem valid_eq(c:Nat):Utf8.valid c=dz c:=by
 unfold Utf8.valid dz;rw[Bool.eq_iff_iff];simp;omega
theorem p9(s:ByteArray)(p:Nat):Utf8.decode s p=if(bN (ints s) p).2=0 then(65533,1)else((bN (ints s) p).1.toNat,(bN (ints s) p).2):=by
 have g0:=nz s p;have g1:=nz s (p+1);have g2:=nz s (p+2);have g3:=nz s (p+3);have e1:=CF s (p+1);have e2:=CF s (p+2);have e3:=CF s (p+3);unfold Utf8.decode bN;simp only[Nat.add_zero];rw[e1,e2,e3];obtain⟨b0,h0⟩:∃b,(s.get! p).toNat=b:=⟨_,rfl⟩;obtain⟨b1,h1⟩:∃b,(s.get! (p+1)).toNat=b:=⟨_,rfl⟩;obtain⟨b2,h2⟩:∃b,(s.get! (p+2)).toNat=b:=⟨_,rfl⟩;obtain⟨b3,h3⟩:∃b,(s.get! (p+3)).toNat=b:=⟨_,rfl⟩;simp only[h0,h1,h2,h3]at g0 g1 g2 g3 ⊢;rw[<-g0,<-g1,<-g2,<-g3];generalize bW (ints s) (p+1)=k1;generalize bW (ints s) (p+2)=k2;generalize bW (ints s) (p+3)=k3;have f1:(b0 / 32==6)=decide ((b0:Int) / 32=6):=by rw[Bool.eq_iff_iff];simp;omega
 have f2:(b0 / 16==14)=decide ((b0:Int) / 16=14):=by rw[Bool.eq_iff_iff];simp;omega
 have f3:(b0 / 8==30)=decide ((b0:Int) / 8=30):=by rw[Bool.eq_iff_iff];simp;omega
 rw[f1,f2,f3]
 by_cases c0:b0<128
 ·have c0':(b0:Int)<128:=by omega
  rw[if_pos c0,if_pos c0'];simp
 have c0':¬(b0:Int)<128:=by omega
 rw[if_neg c0,if_neg c0']
 by_cases c1:(decide ((b0:Int) / 32=6)&&k1)=true
 ·rw[if_pos c1,if_pos c1]
  by_cases c2:128<=b0 % 32*64+b1 % 64
  ·have Np:(128:Int)<=(b0:Int) % 32*64+(b1:Int) % 64:=by omega
   rw[if_pos c2,if_pos Np];simp;omega
  ·have Np:¬(128:Int)<=(b0:Int) % 32*64+(b1:Int) % 64:=by omega
   rw[if_neg c2,if_neg Np]
   rfl
 rw[if_neg c1,if_neg c1]
 by_cases c3:(decide ((b0:Int) / 16=14)&&k1&&k2)=true
 ·rw[if_pos c3,if_pos c3];have ec:((b0 % 16*4096+b1 % 64*64+b2 % 64:Nat):Int)=(b0:Int) % 16*4096+(b1:Int) % 64*64+(b2:Int) % 64:=by omega
  rw[<-ec];generalize b0 % 16*4096+b1 % 64*64+b2 % 64=c
  by_cases c4:2048<=c
  ·rw[valid_eq c];have Qj:(2048:Int)<=c:=by omega
   rw[show decide (c≥2048)=true from decide_eq_true c4,decide_eq_true Qj,Bool.true_and]
   split
   ·simp
   ·rfl
  ·have Qj:¬(2048:Int)<=c:=by omega
   rw[show decide (c≥2048)=false from decide_eq_false c4,decide_eq_false Qj]
   rfl
 rw[if_neg c3,if_neg c3]
 by_cases c5:(decide ((b0:Int) / 8=30)&&k1&&k2&&k3)=true
 ·rw[if_pos c5,if_pos c5];have ec:((b0 % 8*262144+b1 % 64*4096+b2 % 64*64+b3 % 64:Nat):Int)=(b0:Int) % 8*262144+(b1:Int) % 64*4096+(b2:Int) % 64*64+(b3:Int) % 64:=by omega
  rw[<-ec];generalize b0 % 8*262144+b1 % 64*4096+b2 % 64*64+b3 % 64=c
  by_cases c4:65536<=c
  ·rw[valid_eq c];have Qj:(65536:Int)<=c:=by omega
   rw[show decide (c≥65536)=true from decide_eq_true c4,decide_eq_true Qj,Bool.true_and]
   split
   ·simp
   ·rfl
  ·have Qj:¬(65536:Int)<=c:=by omega
   rw[show decide (c≥65536)=false from decide_eq_false c4,decide_eq_false Qj]
   rfl
 rw[if_neg c5,if_neg c5]
 rfl
theorem yM(t:List Int)(p:Nat):(bN t p).2<=4:=by
 unfold bN
 (repeat' split);all_goals simp
theorem Bw(t:List Int)(p:Nat)(h0:aB t p=239)(h1:aB t (p+1)=191)(h2:aB t (p+2)=189):bN t p=(65533,3):=by
 unfold bN bW;rw[h0,h1,h2,if_neg (by decide),if_neg (by decide),if_pos (by decide),if_pos (by decide)]
 rfl
theorem Mi(t:List Int)(p:Nat)(hb:∀i,0<=aB t i/\aB t i<=255)(h:(bN t p).2≠0)(hr:(bN t p).1=65533):aB t p=239/\aB t (p+1)=191/\aB t (p+2)=189:=by
 have q0:=hb p;have q1:=hb (p+1);have q2:=hb (p+2);have q3:=hb (p+3);unfold bN bW at h hr;generalize aB t p=b0 at*;generalize aB t (p+1)=b1 at*;generalize aB t (p+2)=b2 at*;generalize aB t (p+3)=b3 at*
 repeat' split at hr
 all_goals simp_all
 all_goals omega
def noKeyTwice:List ByteArray->Bool
 | []=>true
 | k::r=> !(r.any fun x=>decide (x.data=k.data))&&noKeyTwice r
def letters(s:ByteArray):Bool:=(iO (ints s)).isNone
def bare:J->Bool
 | .mk k i t ks l=>(decide (i=0) || decide (k=1) || decide (k=2))&&(decide (t.size=0) || decide (k=3))&&(decide (ks.length=0) || decide (k=5))&&(decide (l.length=0) || decide (k=4) || decide (k=5))
def goodJ:Nat->J->Bool
 | 0,_=>false
 | d+1,.mk k i t ks l=>bare (.mk k i t ks l)&&
  (if k=0 then true
   else if k=1 then decide (i=0) || decide (i=1)
   else if k=2 then decide (-dN<=i)&&decide (i<=dN)
   else if k=3 then letters t
   else if k=4 then l.all (goodJ d)
   else if k=5 then decide (ks.length=l.length)&&(ks.all letters&&noKeyTwice ks)&&l.all (goodJ d)
   else false)
mutual
def ord:J->J
 | .mk k i t ks l=>if k=5 then mapOf ks (ordL l)else .mk k i t [] (ordL l)
def ordL:List J->List J
 | []=> []
 | j::r=>ord j::ordL r
end
def Yc(n:Int):Int:=if n<10 then 48+n else 87+n
def bu(c:Int):List Int:=
 if c=34 then [92,34]else if c=92 then [92,92]else if c=8 then [92,98]else if c=9 then [92,116]else if c=10 then [92,110]
 else if c=12 then [92,102]else if c=13 then [92,114]else if c<32 then [92,117,48,48,Yc (c / 16),Yc (c % 16)]else [c]
def quote(t:List Int):List Int:=34::(t.flatMap bu++ [34])
def zdu(n:Int):List Int:=(Lib.itoa n).map fun c=>(c.toNat:Int)
mutual
def lK:J->List Int
 | .mk k i t ks l=>
  if k=0 then [110,117,108,108]
  else if k=1 then(if i=1 then [116,114,117,101]else [102,97,108,115,101])
  else if k=2 then zdu i
  else if k=3 then quote (ints t)
  else if k=4 then 91::(AQ true l++ [93])
  else if k=5 then 123::(AR true ks l++ [125])
  else []
def AQ(first:Bool):List J->List Int
 | []=> []
 | j::r=>(if first then []else [44])++(lK j++AQ false r)
def AR(first:Bool)(ks:List ByteArray):List J->List Int
 | []=> []
 | j::r=>(if first then []else [44])++(quote (ints (ks.headD aT))++(58::(lK j++AR false ks.tail r)))
end
def Et(o s o':List Int):Prop:=((o++s).length<=16384/\o'=o++s)\/ (16384<(o++s).length/\16384<o'.length)
theorem Et.nil(o:List Int):Et o [] o:=by
 unfold Et;rw[List.append_nil]
 rcases Nat.lt_or_ge 16384 o.length with h| h
 ·exact .inr ⟨h,h⟩
 ·exact .inl ⟨h,rfl⟩
theorem Et.trans{o s o' s' o'':List Int}(h:Et o s o')(h':Et o' s' o''):Et o (s++s') o'':=by
 unfold Et at h h' ⊢;rw[<-List.append_assoc]
 rcases h with⟨h1,rfl⟩| ⟨h1,h2⟩
 ·exact h'
 ·rcases h' with⟨h3,rfl⟩| ⟨_,h3⟩
  ·right
   simp only[List.length_append]at h1 h3 ⊢;omega
  ·right
   simp only[List.length_append]at h1 ⊢;exact⟨by omega,h3⟩
theorem Et.one(o s:List Int):Et o s (if 16384<o.length then o else o++s):=by
 unfold Et
 split
 ·rename_i h
  right
  simp only[List.length_append];exact⟨by omega,h⟩
 ·rcases Nat.lt_or_ge 16384 (o++s).length with h| h
  ·exact .inr ⟨h,h⟩
  ·exact .inl ⟨h,rfl⟩
theorem tT:∀x:List UInt8,lessB x x=false
 | []=>rfl
 | a::x=>by unfold lessB;rw[tT x];simp
theorem wX:∀x y z:List UInt8,lessB x y=true->lessB y z=true->lessB x z=true
 | [], [],_,h,_=>by cases h
 | [],_::_, [],_,h=>by cases h
 | [],_::_,_::_,_,_=>rfl
 | _::_, [],_,h,_=>by cases h
 | _::_,_::_, [],_,h=>by cases h
 | a::x,b::y,c::z,h,h'=>by
  unfold lessB at h h' ⊢;simp only[Bool.or_eq_true,Bool.and_eq_true,decide_eq_true_eq]at h h' ⊢
  rcases h with h| ⟨rfl,h⟩
  ·rcases h' with h'| ⟨rfl,h'⟩
   ·exact .inl (UInt8.lt_trans h h')
   ·exact .inl h
  ·rcases h' with h'| ⟨rfl,h'⟩
   ·exact .inl h'
   ·exact .inr ⟨rfl,wX x y z h h'⟩
theorem wY:∀x y:List UInt8,x≠y->lessB x y=true\/ lessB y x=true
 | [], [],h=>absurd rfl h
 | [],_::_,_=>.inl rfl
 | _::_, [],_=>.inr rfl
 | a::x,b::y,h=>by
  unfold lessB;simp only[Bool.or_eq_true,Bool.and_eq_true,decide_eq_true_eq]
  rcases UInt8.lt_or_lt_of_ne (a:=a) (b:=b) |>fun f=>(Classical.em (a=b)).imp id f with rfl| h'| h'
  ·rcases wY x y (fun e=>h (by rw[e]))with h'| h'
   ·exact .inl (.inr ⟨rfl,h'⟩)
   ·exact .inr (.inr ⟨rfl,h'⟩)
  ·exact .inl (.inl h')
  ·exact .inr (.inl h')
def jB(a b:ByteArray):Bool:=lessB a.data.toList b.data.toList
theorem lL(a:ByteArray):jB a a=false:=tT _
theorem jh{a b c:ByteArray}(h:jB a b=true)(h':jB b c=true):jB a c=true:=wX _ _ _ h h'
theorem nA{a b:ByteArray}(h:a≠b):jB a b=true\/ jB b a=true:=by
 refine wY _ _ fun e=>h ?_
 cases a;cases b
 simp only at e;rw[Array.toList_inj.1 e]
def rises:List ByteArray->Bool
 | []=>true
 | k::r=>r.all (jB k)&&rises r
mutual
def inOrd:J->Bool
 | .mk _ _ _ ks l=>rises ks&&inOrdL l
def inOrdL:List J->Bool
 | []=>true
 | j::r=>inOrd j&&inOrdL r
end
theorem yN{k:ByteArray}{v:J}{x:ByteArray×J}:∀(q:List (ByteArray×J)),x∈putK k v q↔x=(k,v)\/ x∈q
 | []=>by simp[putK]
 | y::q=>by
  unfold putK
  split
  ·simp
  ·rw[List.mem_cons,yN q,List.mem_cons]
   constructor
   ·rintro(h| h| h)
    ·exact .inr (.inl h)
    ·exact .inl h
    ·exact .inr (.inr h)
   ·rintro(h| h| h)
    ·exact .inr (.inl h)
    ·exact .inl h
    ·exact .inr (.inr h)
theorem Bz{x:ByteArray×J}:∀(q:List (ByteArray×J)),x∈fQ q↔x∈q
 | []=>Iff.rfl
 | y::q=>by
  unfold fQ;rw[yN,Bz q,List.mem_cons]
theorem yO{k:ByteArray}{v:J}:∀(q:List (ByteArray×J)),rises (q.map (·.1))=true->(∀x∈q,x.1≠k)->rises ((putK k v q).map (·.1))=true
 | [],_,_=>rfl
 | y::q,h,hn=>by
  simp only[List.map_cons,rises,Bool.and_eq_true]at h;unfold putK
  split
  ·rename_i hl;simp only[List.map_cons,rises,Bool.and_eq_true,List.all_cons];refine⟨⟨hl,List.all_eq_true.2 fun z hz=>jh hl (List.all_eq_true.1 h.1 z hz)⟩,h.1,h.2⟩
  ·rename_i hl;have hyk:jB y.1 k=true:=by
    rcases nA (hn y (by simp))with h'| h'
    ·exact h'
    ·exact absurd h' hl
   simp only[List.map_cons,rises,Bool.and_eq_true];refine⟨List.all_eq_true.2 fun z hz=> ?_,yO q h.2 fun x hx=>hn x (by simp[hx])⟩;obtain⟨x,hx,rfl⟩:=List.mem_map.1 hz
   rcases(yN q).1 hx with rfl| hx
   ·exact hyk
   ·exact List.all_eq_true.1 h.1 _ (List.mem_map.2 ⟨x,hx,rfl⟩)
def Yd(q:List (ByteArray×J)):Prop:=q.Pairwise fun x y=>x.1≠y.1
theorem ll:∀(q:List (ByteArray×J)),Yd q->rises ((fQ q).map (·.1))=true
 | [],_=>rfl
 | y::q,h=>by
  unfold fQ;have h':=List.pairwise_cons.1 h;exact yO _ (ll q h'.2) fun x hx=>(h'.1 x ((Bz q).1 hx)).symm
theorem wZ{k:ByteArray}{v:J}:∀(q:List (ByteArray×J)),(putK k v q).length=q.length+1
 | []=>rfl
 | y::q=>by
  unfold putK
  split
  ·rfl
  ·simp[wZ q]
theorem ov:∀(q:List (ByteArray×J)),(fQ q).length=q.length
 | []=>rfl
 | y::q=>by unfold fQ;rw[wZ,ov q];rfl
open Go
section
variable {P : Program} {bZ : Array Oper} {Q : Exit -> Act -> World -> Prop} {md : Region.Mode} {C : World -> Prop}
theorem Nq{x y:Oper}{v:Value}{a:Act}{K:Act->World->Prop}{r:Result Next}(yn:∀d,x.dst=some d->y.dst≠some d)
    (hQ:∀c a w,Q (.panic c) (a.put x.dst v) w->Q (.panic c) a w) (R:Act->Prop) (hR:∀u,R (a.put y.dst u)) (hD:∀d u,R ({a with defers:=d::a.defers}.put y.dst u))
    (h:y.upon P (a.put x.dst v) K Q r):y.upon P a (fun a' w'=>R a'/\K (a'.put x.dst v) w') Q r:=by
 match r with
 | .ok (.value u) w'=>exact⟨hR u,(Act.put_comm a v u yn) ▸ h⟩
 | .ok .skip w'=>exact⟨hR _,(Act.put_comm a v undef yn) ▸ h⟩
 | .ok (.defer d) w'=>
  refine⟨hD d _, ?_⟩;rw[<-Act.put_comm _ v undef yn,<-Act.put_defers];exact h
 | .ok (.enter f args) w'=>
  refine Calls.mono h fun e w'' he=> ?_
  match e with
  | .returned u=>exact⟨hR u,(Act.put_comm a v u yn) ▸ he⟩
  | .panicked c=>exact hQ _ _ _ he
  | .outgrown=>exact he
 | .ok (.row row args) w'=>exact Rows.mono h fun u w'' he=>⟨hR u,(Act.put_comm a v u yn) ▸ he⟩
 | .halt (.panic u) w'=>exact hQ _ _ _ h
 | .halt .blocked _=>exact h
 | .halt .waiting _=>exact h
 | .halt (.stuck _) _=>exact h
 | .halt (.unsupported _) _=>exact h
theorem Nr{j:Nat}{x y:Oper}{v:Value}(hj:bZ[j]?=some y)(hap:x.apart bZ y=true)(hx:∀cs b,x.op≠ .select cs b)(hy:∀cs b,y.op≠ .select cs b)
    (hQ:∀c a w,Q (.panic c) (a.put x.dst v) w->Q (.panic c) a w) {K:Act->World->Prop} {a:Act} {w:World} (h:wpOp P bZ Q j K (a.put x.dst v) w):
    wpOp P bZ Q j (fun a' w'=>(execOp a'.eval x=execOp a.eval x/\Region.wanted x (yielded bZ a'.tmps)=Region.wanted x (yielded bZ a.tmps))/\K (a'.put x.dst v) w') a w:=by
 obtain⟨h1,h2,h3⟩:=Oper.apart_spec hap;have hR:∀u,execOp (a.put y.dst u).eval x=execOp a.eval x/\Region.wanted x (yielded bZ (a.put y.dst u).tmps)=Region.wanted x (yielded bZ a.tmps):=
  fun u=>⟨execOp_put x hx a y.dst u h3,wanted_put x a y.dst u h3⟩
 have hD:∀(d:Deferred) u,execOp ({a with defers:=d::a.defers}.put y.dst u:Act).eval x=execOp a.eval x/\Region.wanted x (yielded bZ ({a with defers:=d::a.defers}.put y.dst u:Act).tmps)=Region.wanted x (yielded bZ a.tmps):=
  fun d u=>⟨execOp_put x hx {a with defers:=d::a.defers} y.dst u h3,wanted_put x {a with defers:=d::a.defers} y.dst u h3⟩
 have e1:=wanted_put y a x.dst v h1;have e2:=execOp_put y hy a x.dst v h1;unfold wpOp at h ⊢;simp only[hj]at h ⊢;rw[e1]at h
 by_cases hw:Region.wanted y (yielded bZ a.tmps)=true
 ·rw[if_pos hw]at h ⊢
  rcases h with h| ⟨ha,hl⟩
  ·left
   unfold Oper.wp at h ⊢;rw[e2]at h;exact Nq h2 hQ (fun a'=>execOp a'.eval x=execOp a.eval x/\Region.wanted x (yielded bZ a'.tmps)=Region.wanted x (yielded bZ a.tmps)) hR hD h
  ·right
   unfold Oper.asks at ha ⊢;rw[e2]at ha;exact⟨ha,hl⟩
 ·rw[if_neg hw]at h ⊢;exact⟨hR _,(Act.put_comm a v undef h2) ▸ h⟩
def wpIn(P:Program)(md:Region.Mode)(bZ:Array Oper)(Q:Exit->Act->World->Prop)(C:World->Prop):Nat->Array Bool->Act->World->Prop
 | 0,listed,a,w=>C w/\Region.ready md bZ listed= []/\Q .normal a w
 | n+1,listed,a,w=>C w/\(Region.ready md bZ listed= []->Q .normal a w)/\∀i∈Region.ready md bZ listed,wpOp P bZ Q i (wpIn P md bZ Q C n (listed.setIfInBounds i true)) a w
theorem wpIn.any:∀{n:Nat} {listed:Array Bool} {a:Act} {w:World},wpIn P md bZ Q C n listed a w->wpAny P md bZ Q n listed a w
 | 0,_,_,_,h=>h.2
 | _+1,_,_,_,h=>⟨h.2.1,fun i hi=>wpOp_mono (fun _ _ h'=>wpIn.any h') (h.2.2 i hi)⟩
def Quiet(P:Program)(bZ:Array Oper)(C:World->Prop)(o:Oper)(v:Value)(a:Act):Prop:=
 (Region.wanted o (yielded bZ a.tmps)=true/\∀w,C w->(execOp a.eval o).run P w=.ok (.value v) w)\/ (Region.wanted o (yielded bZ a.tmps)=false/\v=undef)
theorem Quiet.op{i:Nat}{o:Oper}{v:Value}{a:Act}(hi:bZ[i]?=some o)(hy:Quiet P bZ C o v a){K:Act->World->Prop}{w:World}(hC:C w)(h:K (a.put o.dst v) w):wpOp P bZ Q i K a w:=by
 unfold wpOp;rw[hi];simp only
 rcases hy with⟨hw,hv⟩| ⟨hw,rfl⟩
 ·rw[if_pos hw]
  left
  unfold Oper.wp;rw[hv w hC];exact h
 ·rw[if_neg (by rw[hw];exact Bool.false_ne_true)];exact h
theorem Ia{i:Nat}{o:Oper}{v:Value}(hi:bZ[i]?=some o)(hs:Region.noSelect bZ=true)(hQ:∀c a w,Q (.panic c) (a.put o.dst v) w->Q (.panic c) a w):
    ∀(n:Nat) (listed:Array Bool) (a:Act) (w:World),
     (∀j y,bZ[j]?=some y->j≠i->listed.getD j true=false->(∀e∈y.after,Region.binds md e=true->e.on≠i)->o.apart bZ y=true)→
     i∈Region.ready md bZ listed->Quiet P bZ C o v a->wpIn P md bZ Q C n (listed.setIfInBounds i true) (a.put o.dst v) w->wpIn P md bZ Q C (n+1) listed a w:=by
 intro n
 induction n with
 | zero=>
  intro listed a w _ hr hy H;refine⟨H.1,fun h=>(by rw[h]at hr;cases hr),fun j hj=> ?_⟩
  by_cases WN:j=i
  ·subst WN;exact hy.op hi H.1 H
  ·have h':=ready_mono hj WN;rw[H.2.1]at h'
   cases h'
 | succ n ih=>
  intro listed a w WO hr hy H;refine⟨H.1,fun h=>(by rw[h]at hr;cases hr),fun j hj=> ?_⟩
  by_cases WN:j=i
  ·subst WN;exact hy.op hi H.1 H
  ·obtain⟨zdv,y,hoy,fo⟩:=mem_ready.1 hj;have zgh:∀e∈y.after,Region.binds md e=true->e.on≠i:=by
    intro e he hb heq;have g1:=fo e he hb;have g0:=(mem_ready.1 hr).1;rw[heq]at g1
    by_cases Ha:i<listed.size
    ·simp[Ha]at g0 g1;rw[g0]at g1
     cases g1
    ·simp[Ha]at g1
   have h2:=Nr hoy (WO j y hoy WN zdv zgh) (fun cs b=>Region.noSelect_spec hs i o cs b hi) (fun cs b=>Region.noSelect_spec hs j y cs b hoy) hQ (H.2.2 j (ready_mono hj WN));refine wpOp_mono (fun a' w' h3=>ih (listed.setIfInBounds j true) a' w' ?_ (ready_mono hr (Ne.symm WN)) ?_ ?_) h2
   ·intro k z hk TS hun PX;refine WO k z hk TS ?_ PX
    by_cases hjk:j=k
    ·subst hjk;exact zdv
    ·rw[getD_set_ne true hjk]at hun;exact hun
   ·unfold Quiet at hy ⊢;rw[h3.1.1,h3.1.2];exact hy
   ·rw[Array.setIfInBounds_comm _ _ WN];exact h3.2
theorem ae{i:Nat}{o:Oper}{v:Value}{d:Option Tmp}{n:Nat}{listed:Array Bool}{a a':Act}{w:World}(hi:bZ[i]?=some o)(hd:o.dst=d)
    (hs:Region.noSelect bZ=true) (hf:Region.free md bZ listed i=true) (hr:(Region.ready md bZ listed).contains i=true)
    (hQ:∀c a w,Q (.panic c) (a.put d v) w->Q (.panic c) a w) (hy:Quiet P bZ C o v a) (ha:a.put d v=a')
    (h:wpIn P md bZ Q C n (listed.setIfInBounds i true) a' w):wpIn P md bZ Q C (n+1) listed a w:=by
 subst hd ha;exact Ia hi hs hQ n listed a w (Region.free_spec hi hf) (by simpa using hr) hy h
theorem aa{i:Nat}{o:Oper}{v:Value}{d:Option Tmp}{n:Nat}{listed:Array Bool}{a a':Act}{w:World}(hi:bZ[i]?=some o)
    (h:wpIn P md bZ Q C n (listed.setIfInBounds i true) a' w) (hd:o.dst=d:=by rfl) (hw:Region.wanted o (yielded bZ a.tmps)=true:=by rfl) (hy:∀w,C w->(execOp a.eval o).run P w=.ok (.value v) w:=by(intro wq hq;go_simp;first| done| with_reducible rfl)) (ha:a.put d v=a':=by(go_frame;rfl))
    (hs:Region.noSelect bZ=true:=by kernel_rfl) (hf:Region.free md bZ listed i=true:=by kernel_rfl) (hr:(Region.ready md bZ listed).contains i=true:=by kernel_rfl)
    (hQ:∀c a w,Q (.panic c) (a.put d v) w->Q (.panic c) a w:=by exact fun _ _ _ h=>h):wpIn P md bZ Q C (n+1) listed a w:=
 ae hi hd hs hf hr hQ (Or.inl ⟨hw,hy⟩) ha h
theorem aC{i:Nat}{o:Oper}{v:Value}{d:Option Tmp}{n:Nat}{listed:Array Bool}{a a':Act}{w:World}(hi:bZ[i]?=some o)
    (hy:∀w,C w->(execOp a.eval o).run P w=.ok (.value v) w) (h:wpIn P md bZ Q C n (listed.setIfInBounds i true) a' w)
    (ha:a.put d v=a':=by(go_frame;rfl)) (hd:o.dst=d:=by rfl) (hw:Region.wanted o (yielded bZ a.tmps)=true:=by rfl)
    (hs:Region.noSelect bZ=true:=by kernel_rfl) (hf:Region.free md bZ listed i=true:=by kernel_rfl) (hr:(Region.ready md bZ listed).contains i=true:=by kernel_rfl)
    (hQ:∀c a w,Q (.panic c) (a.put d v) w->Q (.panic c) a w:=by exact fun _ _ _ h=>h):wpIn P md bZ Q C (n+1) listed a w:=
 ae hi hd hs hf hr hQ (Or.inl ⟨hw,hy⟩) ha h
theorem Ns{i:Nat}{n:Nat}{listed:Array Bool}{a:Act}{w:World}(hC:C w)(hr:Region.ready md bZ listed= [i])
    (h:wpOp P bZ Q i (wpIn P md bZ Q C n (listed.setIfInBounds i true)) a w):wpIn P md bZ Q C (n+1) listed a w:=
 ⟨hC,fun h0=>(by rw[hr]at h0;cases h0),fun j hj=>by rw[hr]at hj;rw[List.mem_singleton.1 hj];exact h⟩
theorem Uy{i:Nat}{o:Oper}{n:Nat}{listed:Array Bool}{a:Act}{w:World}(hC:C w)(hr:Region.ready md bZ listed= [i])(hi:bZ[i]?=some o)(hw:Region.wanted o (yielded bZ a.tmps)=true)
    (h:∀K':Act->World->Prop,(∀a w,wpIn P md bZ Q C n (listed.setIfInBounds i true) a w->K' a w)->Oper.wp P o a w K' Q):wpIn P md bZ Q C (n+1) listed a w:=by
 refine Ns hC hr ?_;unfold wpOp;rw[hi];simp only;rw[if_pos hw];exact .inl (h _ fun _ _ h'=>h')
theorem ax{i:Nat}{o:Oper}{n:Nat}{listed:Array Bool}{a:Act}{w:World}(hC:C w)(hi:bZ[i]?=some o)
    (h:∀K':Act->World->Prop,(∀a w,wpIn P md bZ Q C n (listed.setIfInBounds i true) a w->K' a w)->Oper.wp P o a w K' Q) (hr:Region.ready md bZ listed= [i]:=by kernel_rfl) (hw:Region.wanted o (yielded bZ a.tmps)=true:=by rfl):wpIn P md bZ Q C (n+1) listed a w:=Uy hC hr hi hw h
theorem aH{listed:Array Bool}{a:Act}{w:World}(hC:C w)(hr:Region.ready md bZ listed= [])(h:Q .normal a w):∀n,wpIn P md bZ Q C n listed a w
 | 0=>⟨hC,hr,h⟩
 | _+1=>⟨hC,fun _=>h,fun i hi=>by rw[hr]at hi;cases hi⟩
theorem aI{id:Nat}{a:Act}{w:World}(hm:P.follows .mixedOrders=true)(C:World->Prop)
    (h:wpIn P .any bZ Q C bZ.size (Array.replicate bZ.size false) a {w with drawn:=w.drawn+1}):(Code.region id bZ true).wp P Q a w:=
 wp_region_any hm h.any
end
end Go.Proofs.YtldegjjaknelgaaGreatDoor
namespace Go.Proofs.YtldegjjaknelgaaGreatDoor.Id
def num(c:Int):Int:=
 if 65<=c/\c<=90 then c - 65 else if 97<=c/\c<=122 then c - 71 else if 48<=c/\c<=57 then c+4
 else if c=43 then 62 else if c=47 then 63 else -1
def bH(c:Int):Int:=if 0<=num c then num c else 0
def isLet(c:Int):Bool:=decide (0<=num c)
def Mj(n:Int):Int:=
 if n<26 then n+65 else if n<52 then n+71 else if n<62 then n - 4 else if n=62 then 43 else 47
theorem Ib(c:Int):num c<=63:=by unfold num;(repeat' split);all_goals omega
theorem Ye(c:Int): -1<=num c:=by unfold num;(repeat' split);all_goals omega
theorem dC(c:Int):0<=bH c:=by unfold bH;split<;>omega
theorem dD(c:Int):bH c<=63:=by have:=Ib c;unfold bH;split<;>omega
theorem Uz(c:Int)(h:0<=num c):Mj (num c)=c:=by
 unfold num at h ⊢;unfold Mj
 (repeat' split);all_goals omega
theorem UA(n:Int)(h0:0<=n)(h1:n<=63):num (Mj n)=n:=by
 unfold Mj num
 (repeat' split);all_goals omega
def rA(n:Int):Int:=if n<=1 then 0 else n - 1
theorem UB(n:Int)(h1:n<=4):0<=rA n/\rA n<=3:=by unfold rA;split<;>omega
def ints(s:ByteArray):List Int:=s.data.toList.map fun c=>(c.toNat:Int)
theorem aM(s:ByteArray):(ints s).length=s.size:=by simp[ints]
theorem dt(s:ByteArray)(k:Nat)(h:k<s.size):(ints s).getD k 0=(s[k].toNat:Int):=by
 have h':k<s.data.toList.length:=by simpa using h
 simp only[ints,List.getD_eq_getElem?_getD,List.getElem?_map,List.getElem?_eq_getElem h',Option.map_some,Option.getD_some]
 rfl
theorem qH(s:ByteArray):∀x∈ints s,0<=x/\x<=255:=by
 intro x hx;simp only[ints,List.mem_map]at hx;obtain⟨c,_,rfl⟩:=hx;have:=c.toNat_lt;omega
theorem jA(s:ByteArray)(k:Nat):ints (s.extract k s.size)=(ints s).drop k:=by
 simp only[ints,ByteArray.data_extract,Array.toList_extract,List.extract_eq_take_drop,List.map_take,List.map_drop];rw[List.take_of_length_le];have:(List.drop k (List.map (fun c:UInt8=>(c.toNat:Int)) s.data.toList)).length=s.size - k:=by simp
 omega
def pI(zs:List Int):Int:=
 if zs.length % 4=2 then bH (zs.getD (zs.length - 1) 0) % 16 else if zs.length % 4=3 then bH (zs.getD (zs.length - 1) 0) % 4 else 0
def yP(zs:List Int):Nat:=(zs.takeWhile isLet).length
def mU(zs:List Int):Int×Int:=
 if yP zs<zs.length then(20,yP zs)else if zs.length % 4=1 then(22,zs.length)else if pI zs≠0 then(21,zs.length - 1)else(0,0)
theorem Qk(zs:List Int)(h:(mU zs).1=0):yP zs=zs.length/\zs.length % 4≠1/\pI zs=0:=by
 have hl:yP zs<=zs.length:=(List.takeWhile_sublist _).length_le;unfold mU at h
 split at h
 ·simp at h
 split at h
 ·simp at h
 split at h
 ·simp at h
 ·exact⟨by omega,by assumption,by simp_all⟩
theorem Mk(zs:List Int)(k:Nat)(hk:k<zs.length)(h:∀j,j<k->isLet (zs.getD j 0)=true)(hb:isLet (zs.getD k 0)=false):yP zs=k:=by
 induction zs generalizing k with
 | nil=>simp at hk
 | cons z r ih=>
  cases k with
  | zero=>simp at hb;simp[yP,hb]
  | succ k=>
   have h0:=h 0 (by omega);simp at h0;have:=ih k (by simpa using hk) (fun j hj=>by have:=h (j+1) (by omega);simpa using this) (by simpa using hb);simp only[yP,List.takeWhile_cons,h0,if_true,List.length_cons]at this ⊢;omega
theorem Eu(zs:List Int)(h:∀j,j<zs.length->isLet (zs.getD j 0)=true):yP zs=zs.length:=by
 induction zs with
 | nil=>rfl
 | cons z r ih=>
  have h0:=h 0 (by simp);simp at h0;have:=ih (fun j hj=>by have:=h (j+1) (by simpa using hj);simpa using this);simp only[yP,List.takeWhile_cons,h0,if_true,List.length_cons]at this ⊢;omega
def dec:List Int->List Int
 | []=> []
 | [_]=> []
 | [a,b]=> [bH a*4+bH b / 16]
 | [a,b,c]=> [bH a*4+bH b / 16,bH b % 16*16+bH c / 4]
 | a::b::c::d::r=>(bH a*4+bH b / 16)::(bH b % 16*16+bH c / 4)::(bH c % 4*64+bH d)::dec r
theorem Ql(rs:List Int)(m:Nat)(a b c d:Int)(Ic:1<=m)(hm:m+1=min rs.length 4)(ha:rs.getD 0 0=a)(hb:rs.getD 1 0=b)(hc:rs.getD 2 0=c)(hd:rs.getD 3 0=d):
    dec rs= [bH a*4+bH b / 16,bH b % 16*16+bH c / 4,bH c % 4*64+bH d].take m++dec (rs.drop (m+1)):=by
 match rs with
 | []=>simp at hm
 | [_]=>simp at hm;omega
 | [x,y]=>simp at ha hb hc hd hm;subst ha hb hc hd hm;simp[dec]
 | [x,y,z]=>simp at ha hb hc hd hm;subst ha hb hc hd hm;simp[dec]
 | x::y::z::u::r=>
  simp at ha hb hc hd;have TT:m=3:=by simp at hm;omega
  subst ha hb hc hd TT;simp[dec]
theorem sw(zs:List Int):((dec zs).length:Int)=(zs.length:Int) / 4*3+rA ((zs.length:Int) % 4):=by
 induction zs using dec.induct with
 | case1=>rfl
 | case2 a=>simp[dec,rA]
 | case3 a b=>simp[dec,rA]
 | case4 a b c=>simp[dec,rA]
 | case5 a b c d r ih=>
  simp only[dec,List.length_cons,rA]at ih ⊢
  repeat' split at ih
  all_goals (repeat' split);all_goals omega
theorem UC(zs:List Int)(h:zs.length % 4≠1):0<(dec zs).length↔0<zs.length:=by
 have h1:=sw zs;unfold rA at h1
 split at h1<;>omega
theorem Yf(zs:List Int):∀x∈dec zs,0<=x/\x<=255:=by
 induction zs using dec.induct with
 | case1=>intro x hx;simp[dec]at hx
 | case2 a=>intro x hx;simp[dec]at hx
 | case3 a b=>
  have:=dC a;have:=dD a;have:=dC b;have:=dD b;intro x hx;simp only[dec,List.mem_cons,List.not_mem_nil,or_false]at hx;omega
 | case4 a b c=>
  have:=dC a;have:=dD a;have:=dC b;have:=dD b;have:=dC c;have:=dD c;intro x hx;simp only[dec,List.mem_cons,List.not_mem_nil,or_false]at hx;omega
 | case5 a b c d r ih=>
  have:=dC a;have:=dD a;have:=dC b;have:=dD b;have:=dC c;have:=dD c;have:=dC d;have:=dD d;intro x hx;simp only[dec,List.mem_cons]at hx
  rcases hx with hx| hx| hx| hx
  ·omega
  ·omega
  ·omega
  ·exact ih x hx
end Go.Proofs.YtldegjjaknelgaaGreatDoor.Id
namespace Go.Proofs.YtldegjjaknelgaaGreatDoor.Id
open Go.RowKit
theorem qI{k:IntKind}{a b:Int}(h:a=b):Ending.returned (.int k a)=.returned (.int k b):=by rw[h]
theorem UD{a b:Int}{p q:Bool}(h:a=b)(hp:p=q):Ending.returned (.tuple #[.int .u32 a,.bool p])=.returned (.tuple #[.int .u32 b,.bool q]):=by rw[h,hp]
theorem w_(n:Int)(w:World)(h0:0<=n)(h1:n<=4):
    Calls Tryz.prog 174 #[.int .i64 n] w fun e w'=>e=.returned (.int .i64 (rA n))/\w=w':=by
 go_enter Tryz.func174,Tryz.ntmps174;go_wp2
 all_goals
  go_ret;exact⟨qI (by unfold rA;split<;>omega),rfl⟩
theorem Ew(m:Int)(w:World)(h0:1<=m)(h1:m<=3):
    Calls Tryz.prog 174 #[.int .i64 (m+1)] w fun e w'=>e=.returned (.int .i64 m)/\w=w':=by
 have h:=w_ (m+1) w (by omega) (by omega);have e:rA (m+1)=m:=by unfold rA;rw[if_neg (by omega)];omega
 rw[e]at h;exact h
theorem zgi(c:Int)(n:Int)(b:Bool)(h:num c=if b then n else -1)(h0:0<=n)(hz:b=false->n=0):n=bH c/\b=isLet c:=by
 cases b
 ·simp[bH,isLet,h,hz rfl]
 ·simp[bH,isLet,h,h0]
theorem lM(c:Int)(w:World)(h0:0<=c)(h1:c<=255):
    Calls Tryz.prog 187 #[.int .u8 c] w fun e w'=>e=.returned (.tuple #[.int .u32 (bH c),.bool (isLet c)])/\w=w':=by
 by_cases e43:c=43
 ·subst e43;go_enter Tryz.func187,Tryz.ntmps187;go_wp2;go_ret2;exact⟨rfl,rfl⟩
 by_cases e47:c=47
 ·subst e47;go_enter Tryz.func187,Tryz.ntmps187;go_wp2;go_ret2;exact⟨rfl,rfl⟩
 go_enter Tryz.func187,Tryz.ntmps187;go_wp2
 all_goals
  go_ret2;refine⟨(fun h=>UD h.1 h.2) (zgi c _ _ (by unfold num;(repeat' split);all_goals first| omega| (simp_all;done)| (simp_all;omega)) (by first| omega| simp) (by simp)),rfl⟩
theorem aj{a b:Bool}(h:a=b):Ending.returned (.bool a)=.returned (.bool b):=by rw[h]
theorem mg(s:ByteArray)(c:Int)(w:World):
    Calls Tryz.prog 186 #[.string s,.int .u8 c] w fun e w'=>e=.returned (.int .i64 (Lib.indexByte s.data.toList c.toNat.toUInt8))/\w=w':=by
 go_enter Tryz.func186,Tryz.ntmps186;go_wp2;rw[run_callFunc_extern Tryz.func202 (by kernel_rfl) (by kernel_rfl) (by kernel_rfl) (e:=Extern.BytealgIndexByte.indexByte) (by kernel_rfl),Lib.run_indexByteString];simp only[Result.andThen];rw[Oper.upon_value];go_wp2;go_ret;exact⟨rfl,rfl⟩
theorem AU(s:ByteArray)(c:Int)(w:World):
    Calls Tryz.prog 172 #[.string s,.int .u8 c] w fun e w'=>e=.returned (.int .i64 (Lib.indexByte s.data.toList c.toNat.toUInt8))/\w=w':=by
 go_enter Tryz.func172,Tryz.ntmps172;go_wp2_with(go_at_call 186;refine(mg _ _ _).mono ?_;rintro e w' ⟨rfl,rfl⟩);go_ret;exact⟨rfl,rfl⟩
def kind(o:List UInt8)(c:Int):Bool:=(decide (97<=c)&&decide (c<=122)) || (decide (48<=c)&&decide (c<=57)) || decide (0<=Lib.indexByte o c.toNat.toUInt8)
theorem yQ(o:ByteArray)(c:Int)(B:Nat)(w:World)(hc:w.cell? ⟨B,0,none⟩=some (.string o))(h0:0<=c)(h1:c<=255):
    Calls Tryz.prog 171 #[.int .u8 c,.pointer (some ⟨B,0,none⟩)] w fun e w'=>e=.returned (.bool (kind o.data.toList c))/\w=w':=by
 go_enter Tryz.func171,Tryz.ntmps171;go_wp2_with(go_at_call 172;refine(AU _ _ _).mono ?_;rintro e w' ⟨rfl,rfl⟩)
 all_goals
  go_ret;refine⟨aj ?_,rfl⟩;unfold kind;rw[Bool.eq_iff_iff];simp;omega
def iy(k:Int->Bool)(m:Int)(s:ByteArray):Bool:=decide (1<=s.size)&&decide ((s.size:Int)<=m)&&(ints s).all k
theorem mh(k:Int->Bool)(m:Int)(s:ByteArray)(h:m<s.size):iy k m s=false:=by
 unfold iy;simp;omega
theorem mo(k:Int->Bool)(m:Int)(s:ByteArray)(h:s.size=0):iy k m s=false:=by
 unfold iy;simp[h]
theorem oz(k:Int->Bool)(m:Int)(s:ByteArray)(h:1<=s.size)(h':(s.size:Int)<=m)(ha:∀j,j<s.size->k ((ints s).getD j 0)=true):iy k m s=true:=by
 unfold iy;simp only[h,h',decide_true,Bool.true_and,List.all_eq_true];intro x hx;obtain⟨i,hi,rfl⟩:=List.mem_iff_getElem.1 hx;have:=ha i (by rw[<-aM];exact hi);rw[List.getD_eq_getElem?_getD,List.getElem?_eq_getElem hi]at this;exact this
theorem oC(k:Int->Bool)(m:Int)(s:ByteArray)(j:Nat)(hj:j<s.size)(ha:k ((ints s).getD j 0)=false):iy k m s=false:=by
 unfold iy;have Ie:j<(ints s).length:=by rw[aM];exact hj
 have:(ints s).all k=false:=by
  rw[List.all_eq_false];refine⟨(ints s)[j],List.getElem_mem Ie, ?_⟩;rw[List.getD_eq_getElem?_getD,List.getElem?_eq_getElem Ie]at ha;simpa using ha
 rw[this];simp
theorem yR(s o:ByteArray)(m:Int)(B:Nat)(w:World)(hs:s.size<=140737488351232)(hc:w.cell? ⟨B,0,none⟩=some (.string o)):
    Calls Tryz.prog 153 #[.string s,.int .i64 m,.func (.func 171) #[] #[.pointer (some ⟨B,0,none⟩)]] w fun e w'=>e=.returned (.bool (iy (kind o.data.toList) m s))/\w=w':=by
 by_cases he:s.size=0
 ·have he':(s.size:Int)=0:=by omega
  go_enter Tryz.func153,Tryz.ntmps153;go_wp2;go_ret;exact⟨aj (mo _ _ _ he).symm,rfl⟩
 by_cases hm:m<(s.size:Int)
 ·go_enter Tryz.func153,Tryz.ntmps153;go_wp2;go_ret;exact⟨aj (mh _ _ _ hm).symm,rfl⟩
 go_enter Tryz.func153,Tryz.ntmps153;go_wp2
 go_loop [19] (fun i=>∃k:Nat,k<=s.size/\i=.int .i64 k/\∀j,j<k->kind o.data.toList ((ints s).getD j 0)=true) (fun i=>s.size - (intOf i).toNat)
 case atStart=>exact⟨0,Nat.zero_le _,rfl,fun j hj=>by omega⟩
 case round=>
  obtain⟨k,hk,rfl,fo⟩:=hrel;have HA:Hid (∀j,j<k->kind o.data.toList ((ints s).getD j 0)=true):=fo;clear fo
  by_cases bQ:k<s.size
  ·have HG:Hid ((ints s).getD k 0=(s[k].toNat:Int)):=dt s k bQ;have aL:(s[k].toNat:Int)<=255:=by have:=s[k].toNat_lt;omega
   by_cases hb:kind o.data.toList (s[k].toNat:Int)=true
   ·go_wp2_with(go_at_call 171;refine(yQ o _ B _ hc (by omega) (by omega)).mono ?_;rintro e w' ⟨rfl,rfl⟩)
    go_round
    case rel=>exact⟨k+1,by omega,by go_num,fun j hj=>by
                          by_cases e:j=k
                          ·rw[e,HG.out];exact hb
                          ·exact HA.out j (by omega)⟩
    case measure=>simp[intOf];omega
   ·have Hd:kind o.data.toList (s[k].toNat:Int)=false:=by simpa using hb
    clear hb;go_wp2_with(go_at_call 171;refine(yQ o _ B _ hc (by omega) (by omega)).mono ?_;rintro e w' ⟨rfl,rfl⟩);go_ret;exact⟨aj (oC _ _ _ k bQ (by rw[HG.out];exact Hd)).symm,rfl⟩
  ·obtain rfl:k=s.size:=by omega
   go_wp2;go_ret;exact⟨aj (oz _ _ _ (by omega) (by omega) HA.out).symm,rfl⟩
def small(c:Int):Bool:=(decide (97<=c)&&decide (c<=122)) || (decide (48<=c)&&decide (c<=57)) || decide (c=46)
def yS(c:Int):Bool:=small c || decide (c=45)
def vL(c:Int):Bool:=small c || decide (c=45) || decide (c=95)
def yT(c:Int):Bool:=small c || decide (c=95)
def CG(s:ByteArray):Bool:=iy yS 32 s
def loc(s:ByteArray):Bool:=iy vL 32 s
def aR(s:ByteArray):Bool:=iy yT 64 s
theorem Qm:∀n:Fin 256,kind [46,45] (n.val:Int)=yS n.val:=by decide+kernel
theorem Qn:∀n:Fin 256,kind [46,95,45] (n.val:Int)=vL n.val:=by decide+kernel
theorem Qo:∀n:Fin 256,kind [46,95] (n.val:Int)=yT n.val:=by decide+kernel
theorem oD{k k':Int->Bool}(h:∀n:Fin 256,k (n.val:Int)=k' n.val)(m:Int)(s:ByteArray):iy k m s=iy k' m s:=by
 unfold iy
 congr 1
 rw[Bool.eq_iff_iff,List.all_eq_true,List.all_eq_true]
 constructor<;>intro ha x hx
 ·have hb:=qH s x hx;have:=h ⟨x.toNat,by omega⟩;have e:((x.toNat:Nat):Int)=x:=by omega
  rw[e]at this;rw[<-this];exact ha x hx
 ·have hb:=qH s x hx;have:=h ⟨x.toNat,by omega⟩;have e:((x.toNat:Nat):Int)=x:=by omega
  rw[e]at this;rw[this];exact ha x hx
theorem yU(w:World)(v:Value)(t:Nat):(w.alloc (.cells #[v] t)).cell? ⟨w.heap.size,0,none⟩=some v:=
 World.cell?_alloc_at _ _ _ _ rfl
theorem oF(o:ByteArray)(w:World):
    Calls Tryz.prog 154 #[.string o] w fun e w'=>e=.returned (.func (.func 171) #[] #[.pointer (some ⟨w.heap.size,0,none⟩)])/\w'=w.alloc (.cells #[.string o] 9):=by
 go_enter Tryz.func154,Tryz.ntmps154;go_wp2;go_ret;exact⟨rfl,rfl⟩
theorem sD(s:ByteArray)(w:World)(hs:s.size<=140737488351232):
    Calls Tryz.prog 134 #[.string s] w fun e w'=>e=.returned (.bool (CG s))/\Below w.heap.size w w':=by
 have hc:=yU w (.string ⟨#[46,45]⟩) 9;go_enter Tryz.func134,Tryz.ntmps134;go_wp2_with(first
  | (go_at_call 154;refine(oF _ _).mono ?_;rintro e w' ⟨rfl,rfl⟩)
  | (go_at_call 153;refine(yR s _ 32 _ _ hs hc).mono ?_;rintro e w' ⟨rfl,rfl⟩))
 go_ret;exact⟨aj (oD Qm 32 s),(Below.refl _ _).alloc (Nat.le_refl _) _⟩
theorem vM(s:ByteArray)(w:World)(hs:s.size<=140737488351232):
    Calls Tryz.prog 149 #[.string s] w fun e w'=>e=.returned (.bool (loc s))/\Below w.heap.size w w':=by
 have hc:=yU w (.string ⟨#[46,95,45]⟩) 9;go_enter Tryz.func149,Tryz.ntmps149;go_wp2_with(first
  | (go_at_call 154;refine(oF _ _).mono ?_;rintro e w' ⟨rfl,rfl⟩)
  | (go_at_call 153;refine(yR s _ 32 _ _ hs hc).mono ?_;rintro e w' ⟨rfl,rfl⟩))
 go_ret;exact⟨aj (oD Qn 32 s),(Below.refl _ _).alloc (Nat.le_refl _) _⟩
theorem Ex(s:ByteArray)(w:World)(hs:s.size<=140737488351232):
    Calls Tryz.prog 130 #[.string s] w fun e w'=>e=.returned (.bool (aR s))/\Below w.heap.size w w':=by
 have hc:=yU w (.string ⟨#[46,95]⟩) 9;go_enter Tryz.func130,Tryz.ntmps130;go_wp2_with(first
  | (go_at_call 154;refine(oF _ _).mono ?_;rintro e w' ⟨rfl,rfl⟩)
  | (go_at_call 153;refine(yR s _ 64 _ _ hs hc).mono ?_;rintro e w' ⟨rfl,rfl⟩))
 go_ret;exact⟨aj (oD Qo 64 s),(Below.refl _ _).alloc (Nat.le_refl _) _⟩
theorem gX(c:Int)(w:World):
    Calls Tryz.prog 68 #[.int .u8 c] w fun e w'=>e=.returned (.bool (small c))/\w=w':=by
 go_enter Tryz.func68,Tryz.ntmps68;go_wp2
 all_goals
  go_ret;refine⟨aj ?_,rfl⟩;unfold small;rw[Bool.eq_iff_iff];simp;omega
def aT:ByteArray:=⟨#[]⟩
def parts(c:Int)(s:ByteArray):ByteArray×ByteArray×Bool:=
 if 0<s.size/\(ints s).getD 0 0=c/\((ints s).drop 1).findIdx (· ==58)+1<s.size/\loc (s.extract 1 (((ints s).drop 1).findIdx (· ==58)+1))=true/\CG (s.extract (((ints s).drop 1).findIdx (· ==58)+2) s.size)=true
 then(s.extract 1 (((ints s).drop 1).findIdx (· ==58)+1),s.extract (((ints s).drop 1).findIdx (· ==58)+2) s.size,true)else(aT,aT,false)
theorem jU(l:List Int)(j:Nat):(l.drop 1).getD j 0=l.getD (j+1) 0:=by
 simp[List.getD_eq_getElem?_getD]
theorem tV(l:List Int)(k:Nat)(hk:k<l.length)(hc:l.getD k 0=58)(ha:∀j,j<k->l.getD j 0≠58):l.findIdx (· ==58)=k:=by
 induction l generalizing k with
 | nil=>simp at hk
 | cons a l ih=>
  rw[List.findIdx_cons]
  match k with
  | 0=>simp at hc;simp[hc]
  | k+1=>
   have h0:=ha 0 (by omega);simp only[List.getD_cons_zero]at h0;have h1:(a==58)=false:=by simp[h0]
   rw[h1];simp only[cond_false];rw[ih k (by simpa using hk) (by simpa using hc) (fun j hj=>by simpa using ha (j+1) (by omega))]
theorem qJ(l:List Int)(ha:∀j,j<l.length->l.getD j 0≠58):l.findIdx (· ==58)=l.length:=by
 induction l with
 | nil=>rfl
 | cons a l ih=>
  have h0:=ha 0 (by simp);simp only[List.getD_cons_zero]at h0;have h1:(a==58)=false:=by simp[h0]
  rw[List.findIdx_cons,h1];simp only[cond_false];rw[ih (fun j hj=>by simpa using ha (j+1) (by simpa using hj))];simp
theorem UE(l:List UInt8)(k:Nat)(hk:k<l.length)(hc:(l.map fun c=>(c.toNat:Int)).getD k 0=58)(ha:∀j,j<k->(l.map fun c=>(c.toNat:Int)).getD j 0≠58):Lib.indexByte l 58=k:=by
 induction l generalizing k with
 | nil=>simp at hk
 | cons a l ih=>
  unfold Lib.indexByte
  match k with
  | 0=>
   have:a=58:=by
    simp at hc;exact UInt8.toNat_inj.1 (by simpa using(by omega:a.toNat=58))
   simp[this]
  | k+1=>
   have h0:=ha 0 (by omega);have h1:(a==58)=false:=by
    simp only[List.map_cons,List.getD_cons_zero]at h0;simp only[beq_eq_false_iff_ne,ne_eq];intro h;subst h;exact h0 rfl
   rw[h1,ih k (by simpa using hk) (by simpa using hc) (fun j hj=>by simpa using ha (j+1) (by omega))];have h2:((k:Int)== -1)=false:=by simp
   simp[h2]
theorem Qp(l:List UInt8)(ha:∀j,j<l.length->(l.map fun c=>(c.toNat:Int)).getD j 0≠58):Lib.indexByte l 58= -1:=by
 induction l with
 | nil=>rfl
 | cons a l ih=>
  unfold Lib.indexByte;have h0:=ha 0 (by simp);have h1:(a==58)=false:=by
   simp only[List.map_cons,List.getD_cons_zero]at h0;simp only[beq_eq_false_iff_ne,ne_eq];intro h;subst h;exact h0 rfl
  rw[h1,ih (fun j hj=>by simpa using ha (j+1) (by simpa using hj))];simp
theorem BA(c:Int)(s:ByteArray)(k:Nat)(h0:(ints s).getD 0 0=c)(h1:1<=k)(hk:k<s.size)(hc:(ints s).getD k 0=58)(ha:∀j,1<=j->j<k->(ints s).getD j 0≠58):
    parts c s=if loc (s.extract 1 k)=true/\CG (s.extract (k+1) s.size)=true then(s.extract 1 k,s.extract (k+1) s.size,true)else(aT,aT,false):=by
 have hf:((ints s).drop 1).findIdx (· ==58)=k - 1:=by
  refine tV _ _ (by simp[aM];omega) ?_ fun j hj=> ?_
  ·rw[jU,Nat.sub_add_cancel h1];exact hc
  ·rw[jU];exact ha (j+1) (by omega) (by omega)
 unfold parts;rw[hf];have e1:k - 1+1=k:=by omega
 have e2:k - 1+2=k+1:=by omega
 rw[e1,e2]
 by_cases hl:loc (s.extract 1 k)=true/\CG (s.extract (k+1) s.size)=true
 ·rw[if_pos hl,if_pos ⟨by omega,h0,hk,hl.1,hl.2⟩]
 ·rw[if_neg hl,if_neg fun h=>hl ⟨h.2.2.2.1,h.2.2.2.2⟩]
theorem mq(c:Int)(s:ByteArray)(h:s.size=0\/ (ints s).getD 0 0≠c\/ ∀j,1<=j->j<s.size->(ints s).getD j 0≠58):parts c s=(aT,aT,false):=by
 unfold parts;rw[if_neg];intro⟨g0,g1,g2,_⟩
 rcases h with h| h| h
 ·omega
 ·exact h g1
 ·have:((ints s).drop 1).findIdx (· ==58)=((ints s).drop 1).length:=qJ _ fun j hj=>by
    rw[jU];exact h (j+1) (by omega) (by simp[aM]at hj;omega)
  rw[this]at g2;simp[aM]at g2;omega
theorem Ey(s:ByteArray):(∃k,1<=k/\k<s.size/\(ints s).getD k 0=58/\∀j,1<=j->j<k->(ints s).getD j 0≠58)\/ ∀j,1<=j->j<s.size->(ints s).getD j 0≠58:=by
 have:∀n,(∃k,1<=k/\k<n/\(ints s).getD k 0=58/\∀j,1<=j->j<k->(ints s).getD j 0≠58)\/ ∀j,1<=j->j<n->(ints s).getD j 0≠58:=by
  intro n
  induction n with
  | zero=>exact .inr fun j _ hj=>by omega
  | succ n ih=>
   rcases ih with⟨k,h1,h2,h3,h4⟩| h
   ·exact .inl ⟨k,h1,by omega,h3,h4⟩
   ·by_cases hn:1<=n/\(ints s).getD n 0=58
    ·exact .inl ⟨n,hn.1,by omega,hn.2,h⟩
    ·refine .inr fun j h1 h2=> ?_
     by_cases e:j=n
     ·subst e;exact fun he=>hn ⟨h1,he⟩
     ·exact h j h1 (by omega)
 exact this s.size
theorem Qq(s:ByteArray)(k:Nat)(h1:1<=k)(hk:k<=s.size):(s.extract 1 s.size).extract 0 (k - 1)=s.extract 1 k:=by
 rw[ByteArray.extract_extract]
 congr 1
 omega
theorem Ig(s:ByteArray)(k:Nat):(s.extract 1 s.size).extract k (s.extract 1 s.size).size=s.extract (k+1) s.size:=by
 rw[ByteArray.extract_extract];simp
 congr 1
 all_goals omega
theorem below_drewN(w:World):∀n,Below w.heap.size w (w.drewN n)
 | 0=>by rw[World.drewN_zero];exact Below.refl _ _
 | n+1=>by rw[<-World.drew_drewN];exact(below_drewN w n).drew
theorem Nt(l:List UInt8)(h:0<l.length):l.take 1= [l[0]]:=by
 cases l with
 | nil=>simp at h
 | cons a l=>simp
theorem Ez(s:ByteArray)(h:0<s.size):(s.extract 0 1).toList= [s[0]]:=by
 rw[Lib.toList_data,ByteArray.data_extract,Array.toList_extract];simp only[List.extract_eq_take_drop,List.drop_zero,Nat.sub_zero];rw[Nt _ (by simpa using h)];simp[ByteArray.getElem_eq_getElem_data]
theorem AV(s:ByteArray)(c:UInt8)(w:World)(hs:s.size<=140737488351232)(h:0<s.size)(hc:s[0]=c):
    Calls Tryz.prog 92 #[.string s,.string ⟨#[c]⟩] w fun e w'=>e=.returned (.bool true)/\w=w':=by
 have h1:((s.extract 0 1).toList== [c])=true:=by rw[Ez s h,hc];simp
 go_enter Tryz.func92,Tryz.ntmps92;go_wp2;go_ret;exact⟨rfl,rfl⟩
theorem CJ(s:ByteArray)(c:UInt8)(w:World)(hs:s.size<=140737488351232)(h:∀h:0<s.size,s[0]≠c):
    Calls Tryz.prog 92 #[.string s,.string ⟨#[c]⟩] w fun e w'=>e=.returned (.bool false)/\w=w':=by
 by_cases h0:0<s.size
 ·have h1:((s.extract 0 1).toList== [c])=false:=by rw[Ez s h0];simp[h h0]
  go_enter Tryz.func92,Tryz.ntmps92;go_wp2;go_ret;exact⟨rfl,rfl⟩
 ·go_enter Tryz.func92,Tryz.ntmps92;go_wp2;go_ret;exact⟨rfl,rfl⟩
theorem tX(s:ByteArray)(c:UInt8)(w:World)(hs:s.size<=140737488351232)(h:0<s.size)(hc:s[0]=c):
    Calls Tryz.prog 168 #[.string s,.string ⟨#[c]⟩] w fun e w'=>e=.returned (.tuple #[.string (s.extract 1 s.size),.bool true])/\w=w':=by
 go_enter Tryz.func168,Tryz.ntmps168;go_wp2_with(go_at_call 92;refine(AV s c _ hs h hc).mono ?_;rintro e w' ⟨rfl,rfl⟩);go_ret2;exact⟨rfl,rfl⟩
theorem vN(s:ByteArray)(c:UInt8)(w:World)(hs:s.size<=140737488351232)(h:∀h:0<s.size,s[0]≠c):
    Calls Tryz.prog 168 #[.string s,.string ⟨#[c]⟩] w fun e w'=>e=.returned (.tuple #[.string s,.bool false])/\w=w':=by
 go_enter Tryz.func168,Tryz.ntmps168;go_wp2_with(go_at_call 92;refine(CJ s c _ hs h).mono ?_;rintro e w' ⟨rfl,rfl⟩);go_ret2;exact⟨rfl,rfl⟩
theorem iP(s:ByteArray)(c:UInt8)(w:World)(hs:s.size<=140737488351232)(h:0<s.size)(hc:s[0]=c):
    Calls Tryz.prog 147 #[.string s,.string ⟨#[c]⟩] w fun e w'=>e=.returned (.tuple #[.string (s.extract 1 s.size),.bool true])/\w=w':=by
 go_enter Tryz.func147,Tryz.ntmps147;go_wp2_with(go_at_call 168;refine(tX s c _ hs h hc).mono ?_;rintro e w' ⟨rfl,rfl⟩);go_ret2;exact⟨rfl,rfl⟩
theorem tY(s:ByteArray)(c:UInt8)(w:World)(hs:s.size<=140737488351232)(h:∀h:0<s.size,s[0]≠c):
    Calls Tryz.prog 147 #[.string s,.string ⟨#[c]⟩] w fun e w'=>e=.returned (.tuple #[.string s,.bool false])/\w=w':=by
 go_enter Tryz.func147,Tryz.ntmps147;go_wp2_with(go_at_call 168;refine(vN s c _ hs h).mono ?_;rintro e w' ⟨rfl,rfl⟩);go_ret2;exact⟨rfl,rfl⟩
theorem index_one(s:ByteArray)(w:World):
    Calls Tryz.prog 185 #[.string s,.string ⟨#[58]⟩] w fun e w'=>e=.returned (.int .i64 (Lib.indexByte s.data.toList 58))/\w=w':=by
 go_enter Tryz.func185,Tryz.ntmps185;go_wp2_with(go_at_call 186;refine(mg _ _ _).mono ?_;rintro e w' ⟨rfl,rfl⟩)
 ·have h:([58]==s.toList)=true:=by assumption
  go_ret;refine⟨?_,rfl⟩;have e:s.data.toList= [58]:=by rw[<-Lib.toList_data];exact(beq_iff_eq.1 h).symm
  rw[e];simp[Lib.indexByte]
 ·go_ret;exact⟨rfl,rfl⟩
theorem Ih(t:ByteArray)(w:World)(hi:Lib.indexByte t.data.toList 58= -1):
    Calls Tryz.prog 169 #[.string t,.string ⟨#[58]⟩] w fun e w'=>e=.returned (.tuple #[.string t,.string ⟨#[]⟩,.bool false])/\Below w.heap.size w w':=by
 go_enter Tryz.func169,Tryz.ntmps169;go_wp2_with(go_at_call 185;refine(index_one t _).mono ?_;rw[hi];rintro e w' ⟨rfl,rfl⟩)
 go_ret3
 exact⟨rfl,Below.refl _ _⟩
theorem Yg(t:ByteArray)(w:World)(hi:Lib.indexByte t.data.toList 58= -1):
    Calls Tryz.prog 148 #[.string t,.string ⟨#[58]⟩] w fun e w'=>e=.returned (.tuple #[.string t,.string ⟨#[]⟩,.bool false])/\Below w.heap.size w w':=by
 go_enter Tryz.func148,Tryz.ntmps148;go_wp2_with(go_at_call 169;refine(Ih t _ hi).mono ?_;rintro e w' ⟨rfl,hb⟩)
 go_ret3
 exact⟨rfl,hb⟩
theorem EA(t:ByteArray)(k:Nat)(w:World)(hs:t.size<=140737488351232)(hk:k<t.size)(hi:Lib.indexByte t.data.toList 58=k):
    Calls Tryz.prog 169 #[.string t,.string ⟨#[58]⟩] w fun e w'=>e=.returned (.tuple #[.string (t.extract 0 k),.string (t.extract (k+1) t.size),.bool true])/\Below w.heap.size w w':=by
 go_enter Tryz.func169,Tryz.ntmps169;go_wp2_with(go_at_call 185;refine(index_one t _).mono ?_;rw[hi];rintro e w' ⟨rfl,rfl⟩);go_quiet (fail);go_wp2
 go_ret3
 exact⟨rfl,below_drewN _ _⟩
theorem UF(t:ByteArray)(k:Nat)(w:World)(hs:t.size<=140737488351232)(hk:k<t.size)(hi:Lib.indexByte t.data.toList 58=k):
    Calls Tryz.prog 148 #[.string t,.string ⟨#[58]⟩] w fun e w'=>e=.returned (.tuple #[.string (t.extract 0 k),.string (t.extract (k+1) t.size),.bool true])/\Below w.heap.size w w':=by
 go_enter Tryz.func148,Tryz.ntmps148;go_wp2_with(go_at_call 169;refine(EA t k _ hs hk hi).mono ?_;rintro e w' ⟨rfl,hb⟩)
 go_ret3
 exact⟨rfl,hb⟩
def told(p:ByteArray×ByteArray×Bool):Value:=.tuple #[.string p.1,.string p.2.1,.bool p.2.2]
theorem iQ{a b:ByteArray}{t:Bool}{p:ByteArray×ByteArray×Bool}(h:p=(a,b,t)):Ending.returned (.tuple #[.string a,.string b,.bool t])=.returned (told p):=by rw[h];rfl
theorem Qr(a c:UInt8):(a.toNat:Int)=(c.toNat:Int)↔a=c:=by
 constructor
 ·intro h;exact UInt8.toNat_inj.1 (by omega)
 ·intro h;rw[h]
theorem BB(s:ByteArray)(c:UInt8)(w:World)(hs:s.size<=140737488351232):
    Calls Tryz.prog 121 #[.string s,.string ⟨#[c]⟩] w fun e w'=>e=.returned (told (parts (c.toNat:Int) s))/\Below w.heap.size w w':=by
 by_cases hp:∀h:0<s.size,s[0]≠c
 ·have HP:Hid (parts (c.toNat:Int) s=(aT,aT,false)):=by
    refine mq _ _ ?_
    by_cases h0:s.size=0
    ·exact .inl h0
    ·refine .inr (.inl ?_);rw[dt s 0 (by omega),ne_eq,Qr];exact hp (by omega)
  go_enter Tryz.func121,Tryz.ntmps121;go_wp2_with(go_at_call 147;refine(tY s c _ hs hp).mono ?_;rintro e w' ⟨rfl,rfl⟩)
  go_ret3
  exact⟨iQ HP.out,Below.refl _ _⟩
 ·obtain⟨h0,hc⟩:∃h:0<s.size,s[0]=c:=by simpa using hp
  clear hp;have hg:(ints s).getD 0 0=(c.toNat:Int):=by rw[dt s 0 h0,hc]
  have fK:(s.extract 1 s.size).size<=140737488351232:=by simp;omega
  have hii:(s.extract 1 s.size).data.toList.map (fun c=>(c.toNat:Int))=(ints s).drop 1:=jA s 1
  rcases Ey s with⟨k,h1,hk,Yh,hka⟩| PX
  ·have hi:Lib.indexByte (s.extract 1 s.size).data.toList 58=((k - 1:Nat):Int):=by
     refine UE _ _ ?_ ?_ fun j hj=> ?_
     ·rw[<-Lib.size_eq];simp;omega
     ·rw[hii,jU,Nat.sub_add_cancel h1];exact Yh
     ·rw[hii,jU];exact hka (j+1) (by omega) (by omega)
   have hcut:=fun wx:World=>UF (s.extract 1 s.size) (k - 1) wx fK (by simp;omega) hi;rw[Qq s k h1 (by omega),Nat.sub_add_cancel h1,Ig s k]at hcut;have HP:Hid (parts (c.toNat:Int) s=if loc (s.extract 1 k)=true/\CG (s.extract (k+1) s.size)=true then(s.extract 1 k,s.extract (k+1) s.size,true)else(aT,aT,false)):=BA _ s k hg h1 hk Yh hka;have He:(s.extract 1 k).size<=140737488351232:=by simp;omega
   have Hf:(s.extract (k+1) s.size).size<=140737488351232:=by simp;omega
   obtain⟨t1,ht1⟩:∃t,t=s.extract 1 k:=⟨_,rfl⟩;obtain⟨t2,ht2⟩:∃t,t=s.extract (k+1) s.size:=⟨_,rfl⟩;rw[<-ht1,<-ht2]at HP hcut;rw[<-ht1]at He;rw[<-ht2]at Hf;clear ht1 ht2 hi hii hka Yh
   by_cases hL:loc t1=true
   ·by_cases hS:CG t2=true
    ·go_enter Tryz.func121,Tryz.ntmps121;go_wp2_with(first
      | (go_at_call 147;refine(iP s c _ hs h0 hc).mono ?_;rintro e w' ⟨rfl,rfl⟩)
      | (go_at_call 148;refine(hcut _).mono ?_;rintro e w1 ⟨rfl,aL⟩)
      | (go_at_call 149;refine(vM t1 _ He).mono ?_;rintro e w2 ⟨rfl,aY⟩)
      | (go_at_call 134;refine(sD t2 _ Hf).mono ?_;rintro e w3 ⟨rfl,df⟩))
     go_ret3
     have c2:=aL.trans (aY.mono aL.size);exact⟨iQ (by rw[HP.out,if_pos ⟨hL,hS⟩]),c2.trans (df.mono c2.size)⟩
    ·have hS':CG t2=false:=by simpa using hS
     go_enter Tryz.func121,Tryz.ntmps121;go_wp2_with(first
      | (go_at_call 147;refine(iP s c _ hs h0 hc).mono ?_;rintro e w' ⟨rfl,rfl⟩)
      | (go_at_call 148;refine(hcut _).mono ?_;rintro e w1 ⟨rfl,aL⟩)
      | (go_at_call 149;refine(vM t1 _ He).mono ?_;rintro e w2 ⟨rfl,aY⟩)
      | (go_at_call 134;refine(sD t2 _ Hf).mono ?_;rintro e w3 ⟨rfl,df⟩))
     go_ret3
     have c2:=aL.trans (aY.mono aL.size);exact⟨iQ (by rw[HP.out,if_neg (by simp[hS'])];rfl),c2.trans (df.mono c2.size)⟩
   ·have hL':loc t1=false:=by simpa using hL
    clear hL;go_enter Tryz.func121,Tryz.ntmps121;go_wp2_with(first
     | (go_at_call 147;refine(iP s c _ hs h0 hc).mono ?_;rintro e w' ⟨rfl,rfl⟩)
     | (go_at_call 148;refine(hcut _).mono ?_;rintro e w1 ⟨rfl,aL⟩)
     | (go_at_call 149;refine(vM t1 _ He).mono ?_;rintro e w2 ⟨rfl,aY⟩))
    go_ret3
    exact⟨iQ (by rw[HP.out,if_neg (by simp[hL'])];rfl),aL.trans (aY.mono aL.size)⟩
  ·have hi:Lib.indexByte (s.extract 1 s.size).data.toList 58= -1:=by
     refine Qp _ fun j hj=> ?_;rw[<-Lib.size_eq]at hj;simp at hj;rw[hii,jU];exact PX (j+1) (by omega) (by omega)
   have HP:Hid (parts (c.toNat:Int) s=(aT,aT,false)):=mq _ _ (.inr (.inr PX));have hcut:=fun wx:World=>Yg (s.extract 1 s.size) wx hi;go_enter Tryz.func121,Tryz.ntmps121;go_wp2_with(first
    | (go_at_call 147;refine(iP s c _ hs h0 hc).mono ?_;rintro e w' ⟨rfl,rfl⟩)
    | (go_at_call 148;refine(hcut _).mono ?_;rintro e w1 ⟨rfl,aL⟩))
   go_ret3
   exact⟨iQ HP.out,aL⟩
theorem p_(s:ByteArray)(w:World)(hs:s.size<=140737488351232):
    Calls Tryz.prog 84 #[.string s] w fun e w'=>e=.returned (told (parts 64 s))/\Below w.heap.size w w':=by
 go_enter Tryz.func84,Tryz.ntmps84;go_wp2_with(go_at_call 121;refine(BB s 64 _ hs).mono ?_;rintro e w1 ⟨rfl,aL⟩;unfold told)
 go_ret3
 exact⟨rfl,aL⟩
theorem EB(s:ByteArray)(w:World)(hs:s.size<=140737488351232):
    Calls Tryz.prog 119 #[.string s] w fun e w'=>e=.returned (told (parts 33 s))/\Below w.heap.size w w':=by
 go_enter Tryz.func119,Tryz.ntmps119;go_wp2_with(go_at_call 121;refine(BB s 33 _ hs).mono ?_;rintro e w1 ⟨rfl,aL⟩;unfold told)
 go_ret3
 exact⟨rfl,aL⟩
end Go.Proofs.YtldegjjaknelgaaGreatDoor.Id

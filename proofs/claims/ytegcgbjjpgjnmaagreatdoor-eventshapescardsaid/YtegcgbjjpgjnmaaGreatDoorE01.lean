/- A part. -/
import Derived.WalkKit
import Derived.WalkSpells
import Derived.WalkLawsBesides
import Derived.Laws.BytesArg
import Derived.Lib.Strings
import Derived.Lib.RuneBytes
import Derived.Lib.Bytealg
import Derived.Laws.RangeAny
import Derived.Lib.ItoaNum
import Derived.Orders
import Derived.Tactics2
import Derived.Laws.BitsLemmas
import Derived.Test.YtegcgbjjpgjnmaaGreatDoorRows
import Derived.Lib.Walk
import Derived.BigQuiet
set_option maxRecDepth 100000
set_option maxHeartbeats 16000000
namespace Go.Proofs.YtegcgbjjpgjnmaaGreatDoor
open Go.RowKit
def ints(s:ByteArray):List Int:=s.data.toList.map fun c=>(c.toNat:Int)
theorem ax(s:ByteArray):(ints s).length=s.size:=by simp[ints]
theorem dH(s:ByteArray)(k:Nat)(h:k<s.size):(ints s).getD k 0=(s[k].toNat:Int):=by
 have h':k<s.data.toList.length:=by simpa using h
 simp only[ints,List.getD_eq_getElem?_getD,List.getElem?_map,List.getElem?_eq_getElem h',Option.map_some,Option.getD_some]
 rfl
theorem nE(s:ByteArray):∀x∈ints s,0<=x/\x<=255:=by
 intro x hx;simp only[ints,List.mem_map]at hx;obtain⟨c,_,rfl⟩:=hx;have:=c.toNat_lt;omega
theorem lq(s:ByteArray)(k:Nat):ints (s.extract k s.size)=(ints s).drop k:=by
 simp only[ints,ByteArray.data_extract,Array.toList_extract,List.extract_eq_take_drop,List.map_take,List.map_drop];rw[List.take_of_length_le];have:(List.drop k (List.map (fun c:UInt8=>(c.toNat:Int)) s.data.toList)).length=s.size - k:=by simp
 omega
theorem vU(l:List Int)(h:∀x∈l,0<=x/\x<=255):ints (strOfNums l)=l:=by
 simp only[ints,strOfNums,List.map_map]
 conv=>rhs;rw[<-List.map_id l]
 refine List.map_congr_left fun x hx=> ?_;have:=h x hx;simp only[Function.comp,id_eq];have hx:x.toNat<256:=by omega
 rw[UInt8.toNat_ofNat_of_lt' hx];omega
theorem zI(s:ByteArray):strOfNums (ints s)=s:=by
 cases s with
 | mk d=>
  simp only[ints,strOfNums,List.map_map];have e:((fun n:Int=>UInt8.ofNat n.toNat)∘fun c:UInt8=>(c.toNat:Int))=id:=by
   funext c
   simp
  rw[e,List.map_id]
theorem fF(l:List Int):(strOfNums l).size=l.length:=by
 show(strOfNums l).data.size=_
 simp[strOfNums]
theorem fG(a b:List Int):strOfNums a++strOfNums b=strOfNums (a++b):=by
 apply ByteArray.ext
 rw[ByteArray.data_append];simp[strOfNums]
theorem mE{k:IntKind}{a b:Int}(h:a=b):Ending.returned (.int k a)=.returned (.int k b):=by rw[h]
theorem av{a b:Bool}(h:a=b):Ending.returned (.bool a)=.returned (.bool b):=by rw[h]
theorem Vn{a b:ByteArray}(h:a=b):Ending.returned (.string a)=.returned (.string b):=by rw[h]
def Rd(B:Nat)(w:World)(p:Option Addr)(c:Nat)(rs:List Int):Prop:=
 rs.length<=c/\(∀x∈rs,0<=x/\x<=255)/\∀j,j<rs.length->∃a,p=some a/\a.block<B/\w.cell? (a.add j)=some (.int .u8 (rs.getD j 0))
theorem aY(a:Addr)(m:Nat):(a.add m).block=a.block:=by unfold Addr.add;split<;>rfl
theorem aR{w:World}{g t:Nat}{fr:Nat×Nat}{cur:List Value}(h:w.heap[g]?=some (.cells cur.toArray t fr))(j:Nat)(v:Value)(hj:cur[j]?=some v):w.cell? ⟨g,j,none⟩=some v:=by
 simp[World.cell?,h,hj]
theorem nT{w:World}{B e size n:Nat}{v:Value}{xs:List Value}(h:w.ownsRow B e size v n xs):∀k,v.ownBlock=some k->B<=k:=by
 intro k hk
 rcases h.2 with⟨rfl,_⟩| ⟨g,cap,cur,rfl,hg,_⟩
 ·cases hk
 ·cases hk;exact hg
inductive J where
 | mk (kind int:Int) (text:ByteArray) (keys:List ByteArray) (list:List J)
def aH:ByteArray:=⟨#[]⟩
def J.zero:J:=.mk 0 0 aH [] []
def J.kind:J->Int| .mk k _ _ _ _=>k
def J.int:J->Int| .mk _ i _ _ _=>i
def J.text:J->ByteArray| .mk _ _ t _ _=>t
def J.keys:J->List ByteArray| .mk _ _ _ ks _=>ks
def J.list:J->List J| .mk _ _ _ _ l=>l
inductive Res(α:Type)where
 | ok (v:α) (p:Nat)
 | bad (e:Int) (at':Nat)
def Res.bind{α β:Type}:Res α->(α->Nat->Res β)->Res β
 | .ok v p,f=>f v p
 | .bad e a,_=>.bad e a
def ag(t:List Int)(i:Nat):Int:=t.getD i 0
def jo(c:Int):Bool:=decide (c=32) || decide (c=9) || decide (c=10) || decide (c=13)
def bX(c:Int):Bool:=decide (48<=c)&&decide (c<=57)
def nU(c:Int):Bool:=decide (c=91) || decide (c=123) || decide (c=34) || decide (c=110) || decide (c=116) || decide (c=102) || decide (c=45) || bX c
def aG(t:List Int)(p:Nat):Nat:=p+((t.drop p).takeWhile jo).length
def pM(t:List Int)(c:Int)(p:Nat):Res Unit:=if ag t p=c then .ok () (p+1)else .bad 11 p
def word(t:List Int):List Int->Nat->Res Unit
 | [],p=>.ok () p
 | c::r,p=>(pM t c p).bind fun _ q=>word t r q
def bK:Int:=9007199254740991
def nV(l:List Int):Int:=l.foldl (fun n c=>if n<=bK then n*10+(c - 48)else n) 0
def digits(t:List Int)(p:Nat):Int×Nat:=if ag t p=48 then(0,p+1)else(nV ((t.drop p).takeWhile bX),p+((t.drop p).takeWhile bX).length)
def number(t:List Int)(p:Nat):Res J:=
 if bX (ag t (if ag t p=45 then p+1 else p))=true then
  let d:=digits t (if ag t p=45 then p+1 else p)
  let c:=ag t d.2
  if bK<d.1\/ c=46\/ c=101\/ c=69 then .bad 15 p else .ok (.mk 2 (if ag t p=45 then -d.1 else d.1) aH [] []) d.2
 else .bad 11 (if ag t p=45 then p+1 else p)
def ib(c:Int):Option Int:=
 if bX c=true then some (c - 48)else if 97<=c/\c<=102 then some (c - 97+10)else if 65<=c/\c<=70 then some (c - 65+10)else none
def hexL(t:List Int)(i:Nat):Nat->Nat->Int->Int×Nat
 | 0,k,n=>(n,k)
 | m+1,k,n=>match ib (ag t (i+k))with
  | none=>(n,k)
  | some d=>hexL t i m (k+1) (n*16+d)
def gF(t:List Int)(i:Nat):Int×Nat:=hexL t i 4 0 0
def nW(t:List Int)(i:Nat):Option Int:=
 if ag t i=92/\ag t (i+1)=117 then
  if(gF t (i+2)).2=4/\56320<=(gF t (i+2)).1/\(gF t (i+2)).1<=57343 then some (gF t (i+2)).1 else none
 else none
def kR(t:List Int)(p:Nat):Res Int:=
 if(gF t (p+2)).2<4 then .bad 11 (p+2+(gF t (p+2)).2)
 else if(gF t (p+2)).1<55296\/ 57343<(gF t (p+2)).1 then .ok (gF t (p+2)).1 (p+6)
 else if 56320<=(gF t (p+2)).1 then .bad 11 p
 else match nW t (p+6)with
  | none=>.bad 11 p
  | some l=>.ok (65536+((gF t (p+2)).1 - 55296)*1024+(l - 56320)) (p+12)
def escape(t:List Int)(p:Nat):Res Int:=
 let c:=ag t (p+1)
 if c=34\/ c=92\/ c=47 then .ok c (p+2)
 else if c=98 then .ok 8 (p+2)
 else if c=102 then .ok 12 (p+2)
 else if c=110 then .ok 10 (p+2)
 else if c=114 then .ok 13 (p+2)
 else if c=116 then .ok 9 (p+2)
 else if c=117 then kR t p
 else .bad 11 (p+1)
def quoL(t:List Int):Nat->Nat->List Int->Res (List Int)
 | 0,_,_=>.bad 99 0
 | m+1,p,out=>
  if ag t p=34 then .ok out (p+1)
  else if ag t p=92 then(escape t p).bind fun l q=>quoL t m q (out++Lib.encodeRuneZ l)
  else if ag t p<32 then .bad 11 p
  else quoL t m (p+1) (out++ [ag t p])
def quoted(t:List Int)(p:Nat):Res (List Int):=quoL t (t.length+1) (p+1) []
def jX(t:List Int)(stood:List ByteArray)(p:Nat):Res ByteArray:=
 if ag t p=34 then
  (quoted t p).bind fun s q=>
   if stood.any (fun k=>decide (k.data=(strOfNums s).data))=true then .bad 14 p
   else(pM t 58 (aG t q)).bind fun _ r=>.ok (strOfNums s) (aG t r)
 else .bad 11 p
def lessB:List UInt8->List UInt8->Bool
 | [], []=>false
 | [],_::_=>true
 | _::_, []=>false
 | a::x,b::y=>decide (a<b) || (decide (a=b)&&lessB x y)
def putK(k:ByteArray)(v:J):List (ByteArray×J)->List (ByteArray×J)
 | []=> [(k,v)]
 | q::l=>if lessB k.data.toList q.1.data.toList=true then(k,v)::q::l else q::putK k v l
def fA:List (ByteArray×J)->List (ByteArray×J)
 | []=> []
 | q::l=>putK q.1 q.2 (fA l)
def mapOf(ks:List ByteArray)(l:List J):J:=.mk 5 0 aH ((fA (ks.zip l)).map (·.1)) ((fA (ks.zip l)).map (·.2))
def listL(t:List Int)(f:Nat->Res J):Nat->Nat->List J->Res J
 | 0,_,_=>.bad 99 0
 | m+1,p,dz=>(f (aG t p)).bind fun v q=>
  if ag t (aG t q)=93 then .ok (.mk 4 0 aH [] (dz++ [v])) (aG t q+1)
  else if ag t (aG t q)=44 then listL t f m (aG t q+1) (dz++ [v])
  else .bad 11 (aG t q)
def pairsL(t:List Int)(f:Nat->Res J):Nat->Nat->List ByteArray->List J->Res J
 | 0,_,_,_=>.bad 99 0
 | m+1,p,ks,dz=>(jX t ks (aG t p)).bind fun s q=>(f q).bind fun v r=>
  if ag t (aG t r)=125 then .ok (mapOf (ks++ [s]) (dz++ [v])) (aG t r+1)
  else if ag t (aG t r)=44 then pairsL t f m (aG t r+1) (ks++ [s]) (dz++ [v])
  else .bad 11 (aG t r)
def lu(t:List Int)(f:Nat->Res J)(p:Nat):Res J:=
 if ag t (aG t (p+1))=93 then .ok (.mk 4 0 aH [] []) (aG t (p+1)+1)else listL t f (t.length+1) (aG t (p+1)) []
def iG(t:List Int)(f:Nat->Res J)(p:Nat):Res J:=
 if ag t (aG t (p+1))=125 then .ok (.mk 5 0 aH [] []) (aG t (p+1)+1)else pairsL t f (t.length+1) (aG t (p+1)) [] []
def value(t:List Int):Nat->Nat->Res J
 | 0,p=>if nU (ag t p)=true then .bad 12 p else .bad 11 p
 | d+1,p=>
  if nU (ag t p)=true then
   if ag t p=110 then(word t [110,117,108,108] p).bind fun _ q=>.ok (.mk 0 0 aH [] []) q
   else if ag t p=116 then(word t [116,114,117,101] p).bind fun _ q=>.ok (.mk 1 1 aH [] []) q
   else if ag t p=102 then(word t [102,97,108,115,101] p).bind fun _ q=>.ok (.mk 1 0 aH [] []) q
   else if ag t p=34 then(quoted t p).bind fun s q=>.ok (.mk 3 0 (strOfNums s) [] []) q
   else if ag t p=91 then lu t (value t d) p
   else if ag t p=123 then iG t (value t d) p
   else number t p
  else .bad 11 p
def whole(t:List Int):Res J:=
 (value t 12 (aG t 0)).bind fun j q=>if aG t q<t.length then .bad 16 (aG t q)else .ok j (aG t q)
def xf{α:Type}(t:List Int)(p:Nat):Res α->Prop
 | .ok _ q=>p<q/\q<=t.length
 | .bad _ a=>a<=t.length
theorem bq{t:List Int}{p:Nat}(h:ag t p≠0):p<t.length:=by
 unfold ag at h
 rcases Nat.lt_or_ge p t.length with h'| h'
 ·exact h'
 ·rw[List.getD_eq_getElem?_getD,List.getElem?_eq_none h']at h;exact absurd rfl h
theorem gP(t:List Int)(p:Nat):p<=aG t p:=by unfold aG;omega
theorem fu{t:List Int}{p:Nat}(h:p<=t.length):aG t p<=t.length:=by
 unfold aG;have:=(List.takeWhile_sublist jo (l:=t.drop p)).length_le;simp at this;omega
theorem zK{t:List Int}{c:Int}{p:Nat}(hc:c≠0)(hp:p<=t.length):xf t p (pM t c p):=by
 unfold pM
 split
 ·rename_i h;exact⟨by omega,bq (h ▸ hc)⟩
 ·exact hp
theorem jb{α β:Type}{t:List Int}{p:Nat}{r:Res α}{f:α->Nat->Res β}(h:xf t p r)(hf:∀v q,p<q->q<=t.length->xf t q (f v q)\/ (∃v',f v q=.ok v' q)):xf t p (r.bind f):=by
 cases r with
 | bad e a=>exact h
 | ok v q=>
  rcases hf v q h.1 h.2 with h'| ⟨v',h'⟩
  ·show xf t p (f v q)
   cases hr:f v q with
   | bad e a=>rw[hr]at h';exact h'
   | ok v2 q2=>rw[hr]at h';exact⟨Nat.lt_trans h.1 h'.1,h'.2⟩
  ·show xf t p (f v q)
   rw[h'];exact h
open Go.RowKit
structure aj(S:Nat->Prop)(w w':World):Prop where
 os:w'.os=w.os
 tape:w'.tape=w.tape
 output:w'.output=w.output
 size:w.heap.size<=w'.heap.size
 block:∀k,k<w.heap.size->¬S k->w'.heap[k]?=w.heap[k]?
theorem aj.refl(S:Nat->Prop)(w:World):aj S w w:=⟨rfl,rfl,rfl,Nat.le_refl _,fun _ _ _=>rfl⟩
theorem aj.trans{S S':Nat->Prop}{a b c:World}(h:aj S a b)(k:aj S' b c)(hS:∀i,i<a.heap.size->S' i->S i):aj S a c:=
 ⟨k.os.trans h.os,k.tape.trans h.tape,k.output.trans h.output,Nat.le_trans h.size k.size,fun i hi hn=>(k.block i (Nat.lt_of_lt_of_le hi h.size) (fun h'=>hn (hS i hi h'))).trans (h.block i hi hn)⟩
theorem aj.then{S:Nat->Prop}{a b c:World}(h:aj S a b)(k:aj S b c):aj S a c:=h.trans k fun _ _ h=>h
theorem aj.mono{S S':Nat->Prop}{a b:World}(h:aj S a b)(hS:∀i,i<a.heap.size->S i->S' i):aj S' a b:=
 ⟨h.os,h.tape,h.output,h.size,fun i hi hn=>h.block i hi fun h'=>hn (hS i hi h')⟩
theorem aj.fO{S:Nat->Prop}{a b:World}(h:Below a.heap.size a b):aj S a b:=⟨h.os,h.tape,h.output,h.size,fun k hk _=>h.block k hk⟩
theorem aj.dm{S:Nat->Prop}{a b:World}{row:Option Nat}(h:a.grownBy b row)(hr:∀k,k<a.heap.size->row=some k->S k):aj S a b:=
 ⟨h.os,h.tape,h.output,h.size,fun k hk hn=>h.block k hk fun e=>hn (hr k hk e.symm)⟩
theorem aj.below{S:Nat->Prop}{a b:World}(h:aj S a b){B:Nat}(hB:B<=a.heap.size)(hS:∀k,k<B->¬S k):Below B a b:=
 ⟨h.os,h.tape,h.output,h.size,fun k hk=>h.block k (Nat.lt_of_lt_of_le hk hB) (hS k hk)⟩
theorem aj.cell{S:Nat->Prop}{a b:World}(h:aj S a b){p:Addr}(hp:p.block<a.heap.size)(hS:¬S p.block):b.cell? p=a.cell? p:=World.cell?_of_block (h.block _ hp hS)
theorem aj.drew{S:Nat->Prop}{a b:World}(h:aj S a b):aj S a b.drew:=⟨h.os,h.tape,h.output,h.size,h.block⟩
theorem aj.drewN{S:Nat->Prop}{a b:World}(h:aj S a b)(n:Nat):aj S a (b.drewN n):=⟨h.os,h.tape,h.output,h.size,h.block⟩
theorem aj.alloc{S:Nat->Prop}{a b:World}(h:aj S a b)(o:Obj):aj S a (b.alloc o):=
 h.trans (S':=fun _=>False) (aj.fO ((Below.refl _ _).alloc (Nat.le_refl _) o)) fun _ _ h=>h.elim
theorem aj.setCell{S:Nat->Prop}{a b:World}(h:aj S a b){p:Addr}(hp:p.block<a.heap.size->S p.block)(u:Value):aj S a (b.setCell p u):=
 ⟨h.os,h.tape,h.output,by rw[show(b.setCell p u).heap.size=b.heap.size by simp];exact h.size,fun k hk hn=>by
  rw[Below.heap_setCell b p u k (fun e=>hn (e ▸ hp (e ▸ hk)))];exact h.block k hk hn⟩
theorem bz{S:Nat->Prop}{w w':World}{B e size n:Nat}{v:Value}{xs:List Value}(h:w.ownsRow B e size v n xs)(hk:aj S w w')(hS:∀k,v.ownBlock=some k->¬S k):w'.ownsRow B e size v n xs:=by
 refine⟨h.1, ?_⟩
 rcases h.2 with hn| ⟨g,cap,cur,rfl,hg,xn,rest⟩
 ·exact .inl hn
 ·exact .inr ⟨g,cap,cur,rfl,hg,by rw[hk.block g (Array.getElem?_eq_some_iff.1 xn).1 (hS g rfl)];exact xn,rest⟩
def jT(O:Nat->Prop)(w:World)(p:Option Addr)(c:Nat)(ks:List ByteArray):Prop:=
 ks.length<=c/\∀j,j<ks.length->∃a,p=some a/\O a.block/\w.cell? (a.add j)=some (.string (ks.getD j aH))
theorem jT.nil(O:Nat->Prop)(w:World):jT O w none 0 []:=⟨Nat.le_refl _,fun j hj=>absurd hj (by simp)⟩
theorem jT.carry{O O':Nat->Prop}{w w':World}{p:Option Addr}{c:Nat}{ks:List ByteArray}(h:jT O w p c ks)(hO:∀k,O k->O' k/\w'.heap[k]?=w.heap[k]?):jT O' w' p c ks:=
 ⟨h.1,fun j hj=>by
  obtain⟨a,ha,hB,hc⟩:=h.2 j hj;exact⟨a,ha,(hO _ hB).1,(World.cell?_of_block (by rw[aY];exact(hO _ hB).2)).trans hc⟩⟩
mutual
def isJ(O:Nat->Prop)(w:World):J->List Value->Prop
 | .mk k i t ks l,cs=>∃pk ck pl cl,cs= [.int .i64 k,.int .i64 i,.string t,.slice pk ks.length ck,.slice pl l.length cl]/\jT O w pk ck ks/\l.length<=cl/\isJs O w pl 0 l
def isJs(O:Nat->Prop)(w:World)(p:Option Addr):Nat->List J->Prop
 | _, []=>True
 | n,j::r=>(∃b o cs,p=some ⟨b,o,none⟩/\O b/\(∀i v,cs[i]?=some v->w.cell? ⟨b,o+n*5+i,none⟩=some v)/\isJ O w j cs)/\isJs O w p (n+1) r
end
mutual
theorem isJ.carry{O O':Nat->Prop}{w w':World}(hO:∀k,O k->O' k/\w'.heap[k]?=w.heap[k]?):∀(j:J) (cs:List Value),isJ O w j cs->isJ O' w' j cs
 | .mk k i t ks l,cs,h=>by
  unfold isJ at h ⊢;obtain⟨pk,ck,pl,cl,e,h1,h2,h3⟩:=h;exact⟨pk,ck,pl,cl,e,h1.carry hO,h2,isJs.carry hO pl 0 l h3⟩
theorem isJs.carry{O O':Nat->Prop}{w w':World}(hO:∀k,O k->O' k/\w'.heap[k]?=w.heap[k]?)(p:Option Addr):∀(n:Nat) (l:List J),isJs O w p n l->isJs O' w' p n l
 | _, [],_=>by unfold isJs;trivial
 | n,j::r,h=>by
  unfold isJs at h ⊢;obtain⟨⟨b,o,cs,ha,hB,hc,hj⟩,hr⟩:=h;exact⟨⟨b,o,cs,ha,(hO _ hB).1,fun i v hi=>(World.cell?_of_block (a:=⟨b,o+n*5+i,none⟩) (hO _ hB).2).trans (hc i v hi),isJ.carry hO j cs hj⟩,isJs.carry hO p (n+1) r hr⟩
end
theorem isJs.at{O:Nat->Prop}{w:World}{p:Option Addr}:∀(l:List J) (n i:Nat),isJs O w p n l->i<l.length→
    ∃b o cs,p=some ⟨b,o,none⟩/\O b/\(∀m v,cs[m]?=some v->w.cell? ⟨b,o+(n+i)*5+m,none⟩=some v)/\isJ O w (l.getD i J.zero) cs
 | [],_,_,_,hi=>absurd hi (by simp)
 | j::r,n,0,h,_=>by
  unfold isJs at h;simpa using h.1
 | j::r,n,i+1,h,hi=>by
  unfold isJs at h;have:=isJs.at r (n+1) i h.2 (by simpa using hi);rw[show n+1+i=n+(i+1) by omega]at this;simpa using this
def isRow(O:Nat->Prop)(w:World):List J->List Value->Prop
 | [],xs=>xs= []
 | j::r,xs=>∃cs ys,xs=cs++ys/\cs.length=5/\isJ O w j cs/\isRow O w r ys
theorem isRow.carry{O O':Nat->Prop}{w w':World}(hO:∀k,O k->O' k/\w'.heap[k]?=w.heap[k]?):∀(l:List J) (xs:List Value),isRow O w l xs->isRow O' w' l xs
 | [],_,h=>h
 | _::r,_,⟨cs,ys,e,h5,hj,hr⟩=>⟨cs,ys,e,h5,hj.carry hO,isRow.carry hO r ys hr⟩
theorem isRow.snoc{O:Nat->Prop}{w:World}{j:J}{cs:List Value}(h5:cs.length=5)(hj:isJ O w j cs):∀(l:List J) (xs:List Value),isRow O w l xs->isRow O w (l++ [j]) (xs++cs)
 | [],xs,h=>by
  have h:xs= []:=h;subst h;exact⟨cs, [],by simp,h5,hj,rfl⟩
 | i::r,xs,⟨ds,ys,e,h5',hi,hr⟩=>⟨ds,ys++cs,by rw[e,List.append_assoc],h5',hi,isRow.snoc h5 hj r ys hr⟩
theorem isRow.isJs{O:Nat->Prop}{w:World}{b o:Nat}(ha:O b):∀(l:List J) (xs:List Value) (n:Nat),isRow O w l xs->(∀i v,xs[i]?=some v->w.cell? ⟨b,o+n*5+i,none⟩=some v)->isJs O w (some ⟨b,o,none⟩) n l
 | [],_,_,_,_=>by unfold Go.Proofs.YtegcgbjjpgjnmaaGreatDoor.isJs;trivial
 | j::r,xs,n,⟨cs,ys,e,h5,hj,hr⟩,hc=>by
  unfold Go.Proofs.YtegcgbjjpgjnmaaGreatDoor.isJs;refine⟨⟨b,o,cs,rfl,ha,fun i v hi=>hc i v ?_,hj⟩,isRow.isJs ha r ys (n+1) hr fun i v hi=> ?_⟩
  ·rw[e,List.getElem?_append_left (List.getElem?_eq_some_iff.1 hi).1];exact hi
  ·have:=hc (5+i) v (by rw[e,List.getElem?_append_right (by omega),h5];simpa using hi);rw[show o+(n+1)*5+i=o+n*5+(5+i) by omega];exact this
theorem isJ.pO{O:Nat->Prop}{w:World}{j:J}{cs:List Value}(h:isJ O w j cs):cs.length=5:=by
 cases j
 unfold isJ at h;obtain⟨_,_,_,_,rfl,_⟩:=h
 rfl
theorem pQ(O:Nat->Prop)(w:World):isJ O w J.zero [.int .i64 0,.int .i64 0,.string aH,.slice none 0 0,.slice none 0 0]:=by
 unfold J.zero isJ;exact⟨none,0,none,0,rfl,jT.nil _ _,Nat.le_refl _,by unfold isJs;trivial⟩
def b_(t:List Int)(i:Nat):Bool:=decide (ag t i / 64=2)
def dK(c:Int):Bool:=(decide (c<55296) || decide (57344<=c))&&decide (c<=1114111)
def bL(t:List Int)(p:Nat):Int×Nat:=
 if ag t p<128 then(ag t p,1)
 else if(decide (ag t p / 32=6)&&b_ t (p+1))=true then
  if 128<=ag t p % 32*64+ag t (p+1) % 64 then(ag t p % 32*64+ag t (p+1) % 64,2)else(0,0)
 else if(decide (ag t p / 16=14)&&b_ t (p+1)&&b_ t (p+2))=true then
  if(decide (2048<=ag t p % 16*4096+ag t (p+1) % 64*64+ag t (p+2) % 64)&&dK (ag t p % 16*4096+ag t (p+1) % 64*64+ag t (p+2) % 64))=true
  then(ag t p % 16*4096+ag t (p+1) % 64*64+ag t (p+2) % 64,3)else(0,0)
 else if(decide (ag t p / 8=30)&&b_ t (p+1)&&b_ t (p+2)&&b_ t (p+3))=true then
  if(decide (65536<=ag t p % 8*262144+ag t (p+1) % 64*4096+ag t (p+2) % 64*64+ag t (p+3) % 64)&&dK (ag t p % 8*262144+ag t (p+1) % 64*4096+ag t (p+2) % 64*64+ag t (p+3) % 64))=true
  then(ag t p % 8*262144+ag t (p+1) % 64*4096+ag t (p+2) % 64*64+ag t (p+3) % 64,4)else(0,0)
 else(0,0)
def strayL(t:List Int):Nat->Nat->Option Nat
 | 0,_=>none
 | m+1,p=>if p<t.length then(if(bL t p).2=0 then some p else strayL t m (p+(bL t p).2))else none
def gU(t:List Int):Option Nat:=strayL t t.length 0
theorem pR(s:ByteArray)(i:Nat):((s.get! i).toNat:Int)=ag (ints s) i:=by
 unfold ag
 by_cases h:i<s.size
 ·rw[dH s i h];have:s.get! i=s[i]:=by simp[ByteArray.get!,getElem!_pos,h];rfl
  rw[this]
 ·rw[List.getD_eq_getElem?_getD,List.getElem?_eq_none (by rw[ax];omega)];have:s.get! i=0:=by
   have hd:¬i<s.data.size:=h
   show s.data[i]! =0
   rw[getElem!_neg s.data i hd];rfl
  rw[this];rfl
theorem jV(s:ByteArray)(i:Nat):0<=ag (ints s) i/\ag (ints s) i<=255:=by
 rw[<-pR];have:=(s.get! i).toNat_lt;omega
theorem lS(s:ByteArray)(i:Nat)(h:s.size<=i):ag (ints s) i=0:=by
 unfold ag;rw[List.getD_eq_getElem?_getD,List.getElem?_eq_none (by rw[ax];omega)]
 rfl
theorem EF(s:ByteArray)(i:Nat):(decide (i<s.size)&&((s.get! i).toNat / 64==2))=b_ (ints s) i:=by
 unfold b_;have h1:=pR s i
 by_cases h:i<s.size
 ·rw[decide_eq_true h,Bool.true_and,Bool.eq_iff_iff];simp;omega
 ·rw[decide_eq_false h,lS s i (by omega)]
  rfl
theorem valid_eq(c:Nat):Utf8.valid c=dK c:=by
 unfold Utf8.valid dK;rw[Bool.eq_iff_iff];simp;omega
theorem si(s:ByteArray)(p:Nat):Utf8.decode s p=if(bL (ints s) p).2=0 then(65533,1)else((bL (ints s) p).1.toNat,(bL (ints s) p).2):=by
 have g0:=pR s p;have g1:=pR s (p+1);have g2:=pR s (p+2);have g3:=pR s (p+3);have e1:=EF s (p+1);have e2:=EF s (p+2);have e3:=EF s (p+3);unfold Utf8.decode bL;simp only[Nat.add_zero];rw[e1,e2,e3];obtain⟨b0,h0⟩:∃b,(s.get! p).toNat=b:=⟨_,rfl⟩;obtain⟨b1,h1⟩:∃b,(s.get! (p+1)).toNat=b:=⟨_,rfl⟩;obtain⟨b2,h2⟩:∃b,(s.get! (p+2)).toNat=b:=⟨_,rfl⟩;obtain⟨b3,h3⟩:∃b,(s.get! (p+3)).toNat=b:=⟨_,rfl⟩;simp only[h0,h1,h2,h3]at g0 g1 g2 g3 ⊢;rw[<-g0,<-g1,<-g2,<-g3];generalize b_ (ints s) (p+1)=k1;generalize b_ (ints s) (p+2)=k2;generalize b_ (ints s) (p+3)=k3;have f1:(b0 / 32==6)=decide ((b0:Int) / 32=6):=by rw[Bool.eq_iff_iff];simp;omega
 have f2:(b0 / 16==14)=decide ((b0:Int) / 16=14):=by rw[Bool.eq_iff_iff];simp;omega
 have f3:(b0 / 8==30)=decide ((b0:Int) / 8=30):=by rw[Bool.eq_iff_iff];simp;omega
 rw[f1,f2,f3]
 by_cases c0:b0<128
 ·have c0':(b0:Int)<128:=by omega
  rw[if_pos c0,if_pos c0'];simp
 have c0':¬(b0:Int)<128:=by omega
 rw[if_neg c0,if_neg c0']
 by_cases c1:(decide ((b0:Int) / 32=6)&&k1)=true
 ·rw[if_pos c1,if_pos c1]
  by_cases c2:128<=b0 % 32*64+b1 % 64
  ·have jU:(128:Int)<=(b0:Int) % 32*64+(b1:Int) % 64:=by omega
   rw[if_pos c2,if_pos jU];simp;omega
  ·have jU:¬(128:Int)<=(b0:Int) % 32*64+(b1:Int) % 64:=by omega
   rw[if_neg c2,if_neg jU]
   rfl
 rw[if_neg c1,if_neg c1]
 by_cases c3:(decide ((b0:Int) / 16=14)&&k1&&k2)=true
 ·rw[if_pos c3,if_pos c3];have ec:((b0 % 16*4096+b1 % 64*64+b2 % 64:Nat):Int)=(b0:Int) % 16*4096+(b1:Int) % 64*64+(b2:Int) % 64:=by omega
  rw[<-ec];generalize b0 % 16*4096+b1 % 64*64+b2 % 64=c
  by_cases c4:2048<=c
  ·rw[valid_eq c];have Nn:(2048:Int)<=c:=by omega
   rw[show decide (c≥2048)=true from decide_eq_true c4,decide_eq_true Nn,Bool.true_and]
   split
   ·simp
   ·rfl
  ·have Nn:¬(2048:Int)<=c:=by omega
   rw[show decide (c≥2048)=false from decide_eq_false c4,decide_eq_false Nn]
   rfl
 rw[if_neg c3,if_neg c3]
 by_cases c5:(decide ((b0:Int) / 8=30)&&k1&&k2&&k3)=true
 ·rw[if_pos c5,if_pos c5];have ec:((b0 % 8*262144+b1 % 64*4096+b2 % 64*64+b3 % 64:Nat):Int)=(b0:Int) % 8*262144+(b1:Int) % 64*4096+(b2:Int) % 64*64+(b3:Int) % 64:=by omega
  rw[<-ec];generalize b0 % 8*262144+b1 % 64*4096+b2 % 64*64+b3 % 64=c
  by_cases c4:65536<=c
  ·rw[valid_eq c];have Nn:(65536:Int)<=c:=by omega
   rw[show decide (c≥65536)=true from decide_eq_true c4,decide_eq_true Nn,Bool.true_and]
   split
   ·simp
   ·rfl
  ·have Nn:¬(65536:Int)<=c:=by omega
   rw[show decide (c≥65536)=false from decide_eq_false c4,decide_eq_false Nn]
   rfl
 rw[if_neg c5,if_neg c5]
 rfl
theorem zL(t:List Int)(p:Nat):(bL t p).2<=4:=by
 unfold bL
 (repeat' split);all_goals simp
theorem xq(t:List Int)(p:Nat)(h0:ag t p=239)(h1:ag t (p+1)=191)(h2:ag t (p+2)=189):bL t p=(65533,3):=by
 unfold bL b_;rw[h0,h1,h2,if_neg (by decide),if_neg (by decide),if_pos (by decide),if_pos (by decide)]
 rfl
theorem Np(t:List Int)(p:Nat)(hb:∀i,0<=ag t i/\ag t i<=255)(h:(bL t p).2≠0)(hr:(bL t p).1=65533):ag t p=239/\ag t (p+1)=191/\ag t (p+2)=189:=by
 have q0:=hb p;have q1:=hb (p+1);have q2:=hb (p+2);have q3:=hb (p+3);unfold bL b_ at h hr;generalize ag t p=b0 at*;generalize ag t (p+1)=b1 at*;generalize ag t (p+2)=b2 at*;generalize ag t (p+3)=b3 at*
 repeat' split at hr
 all_goals simp_all
 all_goals omega
def noKeyTwice:List ByteArray->Bool
 | []=>true
 | k::r=> !(r.any fun x=>decide (x.data=k.data))&&noKeyTwice r
def letters(s:ByteArray):Bool:=(gU (ints s)).isNone
def bare:J->Bool
 | .mk k i t ks l=>(decide (i=0) || decide (k=1) || decide (k=2))&&(decide (t.size=0) || decide (k=3))&&(decide (ks.length=0) || decide (k=5))&&(decide (l.length=0) || decide (k=4) || decide (k=5))
def goodJ:Nat->J->Bool
 | 0,_=>false
 | d+1,.mk k i t ks l=>bare (.mk k i t ks l)&&
  (if k=0 then true
   else if k=1 then decide (i=0) || decide (i=1)
   else if k=2 then decide (-bK<=i)&&decide (i<=bK)
   else if k=3 then letters t
   else if k=4 then l.all (goodJ d)
   else if k=5 then decide (ks.length=l.length)&&(ks.all letters&&noKeyTwice ks)&&l.all (goodJ d)
   else false)
mutual
def ord:J->J
 | .mk k i t ks l=>if k=5 then mapOf ks (ordL l)else .mk k i t [] (ordL l)
def ordL:List J->List J
 | []=> []
 | j::r=>ord j::ordL r
end
def Ci(n:Int):Int:=if n<10 then 48+n else 87+n
def aI(c:Int):List Int:=
 if c=34 then [92,34]else if c=92 then [92,92]else if c=8 then [92,98]else if c=9 then [92,116]else if c=10 then [92,110]
 else if c=12 then [92,102]else if c=13 then [92,114]else if c<32 then [92,117,48,48,Ci (c / 16),Ci (c % 16)]else [c]
def quote(t:List Int):List Int:=34::(t.flatMap aI++ [34])
def uy(n:Int):List Int:=(Lib.itoa n).map fun c=>(c.toNat:Int)
mutual
def aZ:J->List Int
 | .mk k i t ks l=>
  if k=0 then [110,117,108,108]
  else if k=1 then(if i=1 then [116,114,117,101]else [102,97,108,115,101])
  else if k=2 then uy i
  else if k=3 then quote (ints t)
  else if k=4 then 91::(gq true l++ [93])
  else if k=5 then 123::(fU true ks l++ [125])
  else []
def gq(first:Bool):List J->List Int
 | []=> []
 | j::r=>(if first then []else [44])++(aZ j++gq false r)
def fU(first:Bool)(ks:List ByteArray):List J->List Int
 | []=> []
 | j::r=>(if first then []else [44])++(quote (ints (ks.headD aH))++(58::(aZ j++fU false ks.tail r)))
end
def Ga(o s o':List Int):Prop:=((o++s).length<=16384/\o'=o++s)\/ (16384<(o++s).length/\16384<o'.length)
theorem Ga.nil(o:List Int):Ga o [] o:=by
 unfold Ga;rw[List.append_nil]
 rcases Nat.lt_or_ge 16384 o.length with h| h
 ·exact .inr ⟨h,h⟩
 ·exact .inl ⟨h,rfl⟩
theorem Ga.trans{o s o' s' o'':List Int}(h:Ga o s o')(h':Ga o' s' o''):Ga o (s++s') o'':=by
 unfold Ga at h h' ⊢;rw[<-List.append_assoc]
 rcases h with⟨h1,rfl⟩| ⟨h1,h2⟩
 ·exact h'
 ·rcases h' with⟨h3,rfl⟩| ⟨_,h3⟩
  ·right
   simp only[List.length_append]at h1 h3 ⊢;omega
  ·right
   simp only[List.length_append]at h1 ⊢;exact⟨by omega,h3⟩
theorem Ga.one(o s:List Int):Ga o s (if 16384<o.length then o else o++s):=by
 unfold Ga
 split
 ·rename_i h
  right
  simp only[List.length_append];exact⟨by omega,h⟩
 ·rcases Nat.lt_or_ge 16384 (o++s).length with h| h
  ·exact .inr ⟨h,h⟩
  ·exact .inl ⟨h,rfl⟩
theorem vV:∀x:List UInt8,lessB x x=false
 | []=>rfl
 | a::x=>by unfold lessB;rw[vV x];simp
theorem yj:∀x y z:List UInt8,lessB x y=true->lessB y z=true->lessB x z=true
 | [], [],_,h,_=>by cases h
 | [],_::_, [],_,h=>by cases h
 | [],_::_,_::_,_,_=>rfl
 | _::_, [],_,h,_=>by cases h
 | _::_,_::_, [],_,h=>by cases h
 | a::x,b::y,c::z,h,h'=>by
  unfold lessB at h h' ⊢;simp only[Bool.or_eq_true,Bool.and_eq_true,decide_eq_true_eq]at h h' ⊢
  rcases h with h| ⟨rfl,h⟩
  ·rcases h' with h'| ⟨rfl,h'⟩
   ·exact .inl (UInt8.lt_trans h h')
   ·exact .inl h
  ·rcases h' with h'| ⟨rfl,h'⟩
   ·exact .inl h'
   ·exact .inr ⟨rfl,yj x y z h h'⟩
theorem yl:∀x y:List UInt8,x≠y->lessB x y=true\/ lessB y x=true
 | [], [],h=>absurd rfl h
 | [],_::_,_=>.inl rfl
 | _::_, [],_=>.inr rfl
 | a::x,b::y,h=>by
  unfold lessB;simp only[Bool.or_eq_true,Bool.and_eq_true,decide_eq_true_eq]
  rcases UInt8.lt_or_lt_of_ne (a:=a) (b:=b) |>fun f=>(Classical.em (a=b)).imp id f with rfl| h'| h'
  ·rcases yl x y (fun e=>h (by rw[e]))with h'| h'
   ·exact .inl (.inr ⟨rfl,h'⟩)
   ·exact .inr (.inr ⟨rfl,h'⟩)
  ·exact .inl (.inl h')
  ·exact .inr (.inl h')
def pE(a b:ByteArray):Bool:=lessB a.data.toList b.data.toList
theorem nX(a:ByteArray):pE a a=false:=vV _
theorem nN{a b c:ByteArray}(h:pE a b=true)(h':pE b c=true):pE a c=true:=yj _ _ _ h h'
theorem Yp{a b:ByteArray}(h:pE a b=true):a≠b:=by
 intro e;subst e;rw[nX]at h;cases h
theorem pU{a b:ByteArray}(h:a≠b):pE a b=true\/ pE b a=true:=by
 refine yl _ _ fun e=>h ?_
 cases a;cases b
 simp only at e;rw[Array.toList_inj.1 e]
def rises:List ByteArray->Bool
 | []=>true
 | k::r=>r.all (pE k)&&rises r
theorem sj:∀(q:List (ByteArray×J)),rises (q.map (·.1))=true->fA q=q
 | [],_=>rfl
 | x::q,h=>by
  simp only[List.map_cons,rises,Bool.and_eq_true]at h;unfold fA;rw[sj q h.2]
  cases q with
  | nil=>rfl
  | cons y q=>
   have h1:=h.1;simp only[List.map_cons,List.all_cons,Bool.and_eq_true]at h1;have:lessB x.1.data.toList y.1.data.toList=true:=h1.1;unfold putK;rw[if_pos this]
theorem Gb{ks:List ByteArray}{l:List J}(hl:ks.length=l.length)(h:rises ks=true):mapOf ks l=.mk 5 0 aH ks l:=by
 unfold mapOf;have e:(ks.zip l).map (·.1)=ks:=List.map_fst_zip (by omega);have e':(ks.zip l).map (·.2)=l:=List.map_snd_zip (by omega);rw[sj _ (by rw[e];exact h),e,e']
mutual
def inOrd:J->Bool
 | .mk _ _ _ ks l=>rises ks&&inOrdL l
def inOrdL:List J->Bool
 | []=>true
 | j::r=>inOrd j&&inOrdL r
end
theorem OG{ks:List ByteArray}{k:ByteArray}{r:List ByteArray}(h:rises (ks++k::r)=true):∀x∈ks,x≠k:=by
 induction ks with
 | nil=>intro x hx;cases hx
 | cons a ks ih=>
  simp only[List.cons_append,rises,Bool.and_eq_true]at h;intro x hx
  rcases List.mem_cons.1 hx with rfl| hx
  ·exact Yp (List.all_eq_true.1 h.1 k (by simp))
  ·exact ih h.2 x hx
theorem zM{k:ByteArray}{v:J}{x:ByteArray×J}:∀(q:List (ByteArray×J)),x∈putK k v q↔x=(k,v)\/ x∈q
 | []=>by simp[putK]
 | y::q=>by
  unfold putK
  split
  ·simp
  ·rw[List.mem_cons,zM q,List.mem_cons]
   constructor
   ·rintro(h| h| h)
    ·exact .inr (.inl h)
    ·exact .inl h
    ·exact .inr (.inr h)
   ·rintro(h| h| h)
    ·exact .inr (.inl h)
    ·exact .inl h
    ·exact .inr (.inr h)
theorem De{x:ByteArray×J}:∀(q:List (ByteArray×J)),x∈fA q↔x∈q
 | []=>Iff.rfl
 | y::q=>by
  unfold fA;rw[zM,De q,List.mem_cons]
theorem zN{k:ByteArray}{v:J}:∀(q:List (ByteArray×J)),rises (q.map (·.1))=true->(∀x∈q,x.1≠k)->rises ((putK k v q).map (·.1))=true
 | [],_,_=>rfl
 | y::q,h,hn=>by
  simp only[List.map_cons,rises,Bool.and_eq_true]at h;unfold putK
  split
  ·rename_i hl;simp only[List.map_cons,rises,Bool.and_eq_true,List.all_cons];refine⟨⟨hl,List.all_eq_true.2 fun z hz=>nN hl (List.all_eq_true.1 h.1 z hz)⟩,h.1,h.2⟩
  ·rename_i hl;have hyk:pE y.1 k=true:=by
    rcases pU (hn y (by simp))with h'| h'
    ·exact h'
    ·exact absurd h' hl
   simp only[List.map_cons,rises,Bool.and_eq_true];refine⟨List.all_eq_true.2 fun z hz=> ?_,zN q h.2 fun x hx=>hn x (by simp[hx])⟩;obtain⟨x,hx,rfl⟩:=List.mem_map.1 hz
   rcases(zM q).1 hx with rfl| hx
   ·exact hyk
   ·exact List.all_eq_true.1 h.1 _ (List.mem_map.2 ⟨x,hx,rfl⟩)
def Yq(q:List (ByteArray×J)):Prop:=q.Pairwise fun x y=>x.1≠y.1
theorem lC:∀(q:List (ByteArray×J)),Yq q->rises ((fA q).map (·.1))=true
 | [],_=>rfl
 | y::q,h=>by
  unfold fA;have h':=List.pairwise_cons.1 h;exact zN _ (lC q h'.2) fun x hx=>(h'.1 x ((De q).1 hx)).symm
theorem ym{k:ByteArray}{v:J}:∀(q:List (ByteArray×J)),(putK k v q).length=q.length+1
 | []=>rfl
 | y::q=>by
  unfold putK
  split
  ·rfl
  ·simp[ym q]
theorem qI:∀(q:List (ByteArray×J)),(fA q).length=q.length
 | []=>rfl
 | y::q=>by unfold fA;rw[ym,qI q];rfl
open Go
section
variable {P : Program} {eH : Array Oper} {Q : Exit -> Act -> World -> Prop} {md : Region.Mode} {C : World -> Prop}
theorem OH{x y:Oper}{v:Value}{a:Act}{K:Act->World->Prop}{r:Result Next}(Q3:∀d,x.dst=some d->y.dst≠some d)
    (hQ:∀c a w,Q (.panic c) (a.put x.dst v) w->Q (.panic c) a w) (R:Act->Prop) (hR:∀u,R (a.put y.dst u)) (hD:∀d u,R ({a with defers:=d::a.defers}.put y.dst u))
    (h:y.upon P (a.put x.dst v) K Q r):y.upon P a (fun a' w'=>R a'/\K (a'.put x.dst v) w') Q r:=by
 match r with
 | .ok (.value u) w'=>exact⟨hR u,(Act.put_comm a v u Q3) ▸ h⟩
 | .ok .skip w'=>exact⟨hR _,(Act.put_comm a v undef Q3) ▸ h⟩
 | .ok (.defer d) w'=>
  refine⟨hD d _, ?_⟩;rw[<-Act.put_comm _ v undef Q3,<-Act.put_defers];exact h
 | .ok (.enter f args) w'=>
  refine Calls.mono h fun e w'' he=> ?_
  match e with
  | .returned u=>exact⟨hR u,(Act.put_comm a v u Q3) ▸ he⟩
  | .panicked c=>exact hQ _ _ _ he
  | .outgrown=>exact he
 | .ok (.row row args) w'=>exact Rows.mono h fun u w'' he=>⟨hR u,(Act.put_comm a v u Q3) ▸ he⟩
 | .halt (.panic u) w'=>exact hQ _ _ _ h
 | .halt .blocked _=>exact h
 | .halt .waiting _=>exact h
 | .halt (.stuck _) _=>exact h
 | .halt (.unsupported _) _=>exact h
theorem OJ{j:Nat}{x y:Oper}{v:Value}(hj:eH[j]?=some y)(hap:x.apart eH y=true)(hx:∀cs b,x.op≠ .select cs b)(hy:∀cs b,y.op≠ .select cs b)
    (hQ:∀c a w,Q (.panic c) (a.put x.dst v) w->Q (.panic c) a w) {K:Act->World->Prop} {a:Act} {w:World} (h:wpOp P eH Q j K (a.put x.dst v) w):
    wpOp P eH Q j (fun a' w'=>(execOp a'.eval x=execOp a.eval x/\Region.wanted x (yielded eH a'.tmps)=Region.wanted x (yielded eH a.tmps))/\K (a'.put x.dst v) w') a w:=by
 obtain⟨h1,h2,h3⟩:=Oper.apart_spec hap;have hR:∀u,execOp (a.put y.dst u).eval x=execOp a.eval x/\Region.wanted x (yielded eH (a.put y.dst u).tmps)=Region.wanted x (yielded eH a.tmps):=
  fun u=>⟨execOp_put x hx a y.dst u h3,wanted_put x a y.dst u h3⟩
 have hD:∀(d:Deferred) u,execOp ({a with defers:=d::a.defers}.put y.dst u:Act).eval x=execOp a.eval x/\Region.wanted x (yielded eH ({a with defers:=d::a.defers}.put y.dst u:Act).tmps)=Region.wanted x (yielded eH a.tmps):=
  fun d u=>⟨execOp_put x hx {a with defers:=d::a.defers} y.dst u h3,wanted_put x {a with defers:=d::a.defers} y.dst u h3⟩
 have e1:=wanted_put y a x.dst v h1;have e2:=execOp_put y hy a x.dst v h1;unfold wpOp at h ⊢;simp only[hj]at h ⊢;rw[e1]at h
 by_cases hw:Region.wanted y (yielded eH a.tmps)=true
 ·rw[if_pos hw]at h ⊢
  rcases h with h| ⟨ha,hl⟩
  ·left
   unfold Oper.wp at h ⊢;rw[e2]at h;exact OH h2 hQ (fun a'=>execOp a'.eval x=execOp a.eval x/\Region.wanted x (yielded eH a'.tmps)=Region.wanted x (yielded eH a.tmps)) hR hD h
  ·right
   unfold Oper.asks at ha ⊢;rw[e2]at ha;exact⟨ha,hl⟩
 ·rw[if_neg hw]at h ⊢;exact⟨hR _,(Act.put_comm a v undef h2) ▸ h⟩
def wpIn(P:Program)(md:Region.Mode)(eH:Array Oper)(Q:Exit->Act->World->Prop)(C:World->Prop):Nat->Array Bool->Act->World->Prop
 | 0,listed,a,w=>C w/\Region.ready md eH listed= []/\Q .normal a w
 | n+1,listed,a,w=>C w/\(Region.ready md eH listed= []->Q .normal a w)/\∀i∈Region.ready md eH listed,wpOp P eH Q i (wpIn P md eH Q C n (listed.setIfInBounds i true)) a w
theorem wpIn.any:∀{n:Nat} {listed:Array Bool} {a:Act} {w:World},wpIn P md eH Q C n listed a w->wpAny P md eH Q n listed a w
 | 0,_,_,_,h=>h.2
 | _+1,_,_,_,h=>⟨h.2.1,fun i hi=>wpOp_mono (fun _ _ h'=>wpIn.any h') (h.2.2 i hi)⟩
def Quiet(P:Program)(eH:Array Oper)(C:World->Prop)(o:Oper)(v:Value)(a:Act):Prop:=
 (Region.wanted o (yielded eH a.tmps)=true/\∀w,C w->(execOp a.eval o).run P w=.ok (.value v) w)\/ (Region.wanted o (yielded eH a.tmps)=false/\v=undef)
theorem Quiet.op{i:Nat}{o:Oper}{v:Value}{a:Act}(hi:eH[i]?=some o)(hy:Quiet P eH C o v a){K:Act->World->Prop}{w:World}(hC:C w)(h:K (a.put o.dst v) w):wpOp P eH Q i K a w:=by
 unfold wpOp;rw[hi];simp only
 rcases hy with⟨hw,hv⟩| ⟨hw,rfl⟩
 ·rw[if_pos hw]
  left
  unfold Oper.wp;rw[hv w hC];exact h
 ·rw[if_neg (by rw[hw];exact Bool.false_ne_true)];exact h
theorem Kb{i:Nat}{o:Oper}{v:Value}(hi:eH[i]?=some o)(hs:Region.noSelect eH=true)(hQ:∀c a w,Q (.panic c) (a.put o.dst v) w->Q (.panic c) a w):
    ∀(n:Nat) (listed:Array Bool) (a:Act) (w:World),
     (∀j y,eH[j]?=some y->j≠i->listed.getD j true=false->(∀e∈y.after,Region.binds md e=true->e.on≠i)->o.apart eH y=true)→
     i∈Region.ready md eH listed->Quiet P eH C o v a->wpIn P md eH Q C n (listed.setIfInBounds i true) (a.put o.dst v) w->wpIn P md eH Q C (n+1) listed a w:=by
 intro n
 induction n with
 | zero=>
  intro listed a w _ hr hy H;refine⟨H.1,fun h=>(by rw[h]at hr;cases hr),fun j hj=> ?_⟩
  by_cases Xz:j=i
  ·subst Xz;exact hy.op hi H.1 H
  ·have h':=ready_mono hj Xz;rw[H.2.1]at h'
   cases h'
 | succ n ih=>
  intro listed a w XA hr hy H;refine⟨H.1,fun h=>(by rw[h]at hr;cases hr),fun j hj=> ?_⟩
  by_cases Xz:j=i
  ·subst Xz;exact hy.op hi H.1 H
  ·obtain⟨zaH,y,hoy,eO⟩:=mem_ready.1 hj;have zcT:∀e∈y.after,Region.binds md e=true->e.on≠i:=by
    intro e he hb Yo;have g1:=eO e he hb;have g0:=(mem_ready.1 hr).1;rw[Yo]at g1
    by_cases Q4:i<listed.size
    ·simp[Q4]at g0 g1;rw[g0]at g1
     cases g1
    ·simp[Q4]at g1
   have h2:=OJ hoy (XA j y hoy Xz zaH zcT) (fun cs b=>Region.noSelect_spec hs i o cs b hi) (fun cs b=>Region.noSelect_spec hs j y cs b hoy) hQ (H.2.2 j (ready_mono hj Xz));refine wpOp_mono (fun a' w' h3=>ih (listed.setIfInBounds j true) a' w' ?_ (ready_mono hr (Ne.symm Xz)) ?_ ?_) h2
   ·intro k z hk Vo hun hno;refine XA k z hk Vo ?_ hno
    by_cases hjk:j=k
    ·subst hjk;exact zaH
    ·rw[getD_set_ne true hjk]at hun;exact hun
   ·unfold Quiet at hy ⊢;rw[h3.1.1,h3.1.2];exact hy
   ·rw[Array.setIfInBounds_comm _ _ Xz];exact h3.2
theorem ay{i:Nat}{o:Oper}{v:Value}{d:Option Tmp}{n:Nat}{listed:Array Bool}{a a':Act}{w:World}(hi:eH[i]?=some o)(hd:o.dst=d)
    (hs:Region.noSelect eH=true) (hf:Region.free md eH listed i=true) (hr:(Region.ready md eH listed).contains i=true)
    (hQ:∀c a w,Q (.panic c) (a.put d v) w->Q (.panic c) a w) (hy:Quiet P eH C o v a) (ha:a.put d v=a')
    (h:wpIn P md eH Q C n (listed.setIfInBounds i true) a' w):wpIn P md eH Q C (n+1) listed a w:=by
 subst hd ha;exact Kb hi hs hQ n listed a w (Region.free_spec hi hf) (by simpa using hr) hy h
theorem aa{i:Nat}{o:Oper}{v:Value}{d:Option Tmp}{n:Nat}{listed:Array Bool}{a a':Act}{w:World}(hi:eH[i]?=some o)
    (h:wpIn P md eH Q C n (listed.setIfInBounds i true) a' w) (hd:o.dst=d:=by rfl) (hw:Region.wanted o (yielded eH a.tmps)=true:=by rfl) (hy:∀w,C w->(execOp a.eval o).run P w=.ok (.value v) w:=by(intro wq hq;go_simp;first| done| with_reducible rfl)) (ha:a.put d v=a':=by(go_frame;rfl))
    (hs:Region.noSelect eH=true:=by kernel_rfl) (hf:Region.free md eH listed i=true:=by kernel_rfl) (hr:(Region.ready md eH listed).contains i=true:=by kernel_rfl)
    (hQ:∀c a w,Q (.panic c) (a.put d v) w->Q (.panic c) a w:=by exact fun _ _ _ h=>h):wpIn P md eH Q C (n+1) listed a w:=
 ay hi hd hs hf hr hQ (Or.inl ⟨hw,hy⟩) ha h
theorem aB{i:Nat}{o:Oper}{v:Value}{d:Option Tmp}{n:Nat}{listed:Array Bool}{a a':Act}{w:World}(hi:eH[i]?=some o)
    (hy:∀w,C w->(execOp a.eval o).run P w=.ok (.value v) w) (h:wpIn P md eH Q C n (listed.setIfInBounds i true) a' w)
    (ha:a.put d v=a':=by(go_frame;rfl)) (hd:o.dst=d:=by rfl) (hw:Region.wanted o (yielded eH a.tmps)=true:=by rfl)
    (hs:Region.noSelect eH=true:=by kernel_rfl) (hf:Region.free md eH listed i=true:=by kernel_rfl) (hr:(Region.ready md eH listed).contains i=true:=by kernel_rfl)
    (hQ:∀c a w,Q (.panic c) (a.put d v) w->Q (.panic c) a w:=by exact fun _ _ _ h=>h):wpIn P md eH Q C (n+1) listed a w:=
 ay hi hd hs hf hr hQ (Or.inl ⟨hw,hy⟩) ha h
theorem OL{i:Nat}{n:Nat}{listed:Array Bool}{a:Act}{w:World}(hC:C w)(hr:Region.ready md eH listed= [i])
    (h:wpOp P eH Q i (wpIn P md eH Q C n (listed.setIfInBounds i true)) a w):wpIn P md eH Q C (n+1) listed a w:=
 ⟨hC,fun h0=>(by rw[hr]at h0;cases h0),fun j hj=>by rw[hr]at hj;rw[List.mem_singleton.1 hj];exact h⟩
theorem Vp{i:Nat}{o:Oper}{n:Nat}{listed:Array Bool}{a:Act}{w:World}(hC:C w)(hr:Region.ready md eH listed= [i])(hi:eH[i]?=some o)(hw:Region.wanted o (yielded eH a.tmps)=true)
    (h:∀K':Act->World->Prop,(∀a w,wpIn P md eH Q C n (listed.setIfInBounds i true) a w->K' a w)->Oper.wp P o a w K' Q):wpIn P md eH Q C (n+1) listed a w:=by
 refine OL hC hr ?_;unfold wpOp;rw[hi];simp only;rw[if_pos hw];exact .inl (h _ fun _ _ h'=>h')
theorem ak{i:Nat}{o:Oper}{n:Nat}{listed:Array Bool}{a:Act}{w:World}(hC:C w)(hi:eH[i]?=some o)
    (h:∀K':Act->World->Prop,(∀a w,wpIn P md eH Q C n (listed.setIfInBounds i true) a w->K' a w)->Oper.wp P o a w K' Q) (hr:Region.ready md eH listed= [i]:=by kernel_rfl) (hw:Region.wanted o (yielded eH a.tmps)=true:=by rfl):wpIn P md eH Q C (n+1) listed a w:=Vp hC hr hi hw h
theorem aA{listed:Array Bool}{a:Act}{w:World}(hC:C w)(hr:Region.ready md eH listed= [])(h:Q .normal a w):∀n,wpIn P md eH Q C n listed a w
 | 0=>⟨hC,hr,h⟩
 | _+1=>⟨hC,fun _=>h,fun i hi=>by rw[hr]at hi;cases hi⟩
theorem aD{id:Nat}{a:Act}{w:World}(hm:P.follows .mixedOrders=true)(C:World->Prop)
    (h:wpIn P .any eH Q C eH.size (Array.replicate eH.size false) a {w with drawn:=w.drawn+1}):(Code.region id eH true).wp P Q a w:=
 wp_region_any hm h.any
end
end Go.Proofs.YtegcgbjjpgjnmaaGreatDoor
namespace Go.Proofs.YtegcgbjjpgjnmaaGreatDoor.Id
def num(c:Int):Int:=
 if 65<=c/\c<=90 then c - 65 else if 97<=c/\c<=122 then c - 71 else if 48<=c/\c<=57 then c+4
 else if c=43 then 62 else if c=47 then 63 else -1
def bV(c:Int):Int:=if 0<=num c then num c else 0
def isLet(c:Int):Bool:=decide (0<=num c)
def Nq(n:Int):Int:=
 if n<26 then n+65 else if n<52 then n+71 else if n<62 then n - 4 else if n=62 then 43 else 47
theorem Kc(c:Int):num c<=63:=by unfold num;(repeat' split);all_goals omega
theorem Yr(c:Int): -1<=num c:=by unfold num;(repeat' split);all_goals omega
theorem eD(c:Int):0<=bV c:=by unfold bV;split<;>omega
theorem eF(c:Int):bV c<=63:=by have:=Kc c;unfold bV;split<;>omega
theorem Vq(c:Int)(h:0<=num c):Nq (num c)=c:=by
 unfold num at h ⊢;unfold Nq
 (repeat' split);all_goals omega
theorem Vr(n:Int)(h0:0<=n)(h1:n<=63):num (Nq n)=n:=by
 unfold Nq num
 (repeat' split);all_goals omega
def uz(n:Int):Int:=if n<=1 then 0 else n - 1
theorem Vs(n:Int)(h1:n<=4):0<=uz n/\uz n<=3:=by unfold uz;split<;>omega
def ints(s:ByteArray):List Int:=s.data.toList.map fun c=>(c.toNat:Int)
theorem ax(s:ByteArray):(ints s).length=s.size:=by simp[ints]
theorem dH(s:ByteArray)(k:Nat)(h:k<s.size):(ints s).getD k 0=(s[k].toNat:Int):=by
 have h':k<s.data.toList.length:=by simpa using h
 simp only[ints,List.getD_eq_getElem?_getD,List.getElem?_map,List.getElem?_eq_getElem h',Option.map_some,Option.getD_some]
 rfl
theorem nE(s:ByteArray):∀x∈ints s,0<=x/\x<=255:=by
 intro x hx;simp only[ints,List.mem_map]at hx;obtain⟨c,_,rfl⟩:=hx;have:=c.toNat_lt;omega
theorem lq(s:ByteArray)(k:Nat):ints (s.extract k s.size)=(ints s).drop k:=by
 simp only[ints,ByteArray.data_extract,Array.toList_extract,List.extract_eq_take_drop,List.map_take,List.map_drop];rw[List.take_of_length_le];have:(List.drop k (List.map (fun c:UInt8=>(c.toNat:Int)) s.data.toList)).length=s.size - k:=by simp
 omega
def rW(zs:List Int):Int:=
 if zs.length % 4=2 then bV (zs.getD (zs.length - 1) 0) % 16 else if zs.length % 4=3 then bV (zs.getD (zs.length - 1) 0) % 4 else 0
def zO(zs:List Int):Nat:=(zs.takeWhile isLet).length
def pF(zs:List Int):Int×Int:=
 if zO zs<zs.length then(20,zO zs)else if zs.length % 4=1 then(22,zs.length)else if rW zs≠0 then(21,zs.length - 1)else(0,0)
theorem Rj(zs:List Int)(h:(pF zs).1=0):zO zs=zs.length/\zs.length % 4≠1/\rW zs=0:=by
 have hl:zO zs<=zs.length:=(List.takeWhile_sublist _).length_le;unfold pF at h
 split at h
 ·simp at h
 split at h
 ·simp at h
 split at h
 ·simp at h
 ·exact⟨by omega,by assumption,by simp_all⟩
theorem Nr(zs:List Int)(k:Nat)(hk:k<zs.length)(h:∀j,j<k->isLet (zs.getD j 0)=true)(hb:isLet (zs.getD k 0)=false):zO zs=k:=by
 induction zs generalizing k with
 | nil=>simp at hk
 | cons z r ih=>
  cases k with
  | zero=>simp at hb;simp[zO,hb]
  | succ k=>
   have h0:=h 0 (by omega);simp at h0;have:=ih k (by simpa using hk) (fun j hj=>by have:=h (j+1) (by omega);simpa using this) (by simpa using hb);simp only[zO,List.takeWhile_cons,h0,if_true,List.length_cons]at this ⊢;omega
theorem Gc(zs:List Int)(h:∀j,j<zs.length->isLet (zs.getD j 0)=true):zO zs=zs.length:=by
 induction zs with
 | nil=>rfl
 | cons z r ih=>
  have h0:=h 0 (by simp);simp at h0;have:=ih (fun j hj=>by have:=h (j+1) (by simpa using hj);simpa using this);simp only[zO,List.takeWhile_cons,h0,if_true,List.length_cons]at this ⊢;omega
def dec:List Int->List Int
 | []=> []
 | [_]=> []
 | [a,b]=> [bV a*4+bV b / 16]
 | [a,b,c]=> [bV a*4+bV b / 16,bV b % 16*16+bV c / 4]
 | a::b::c::d::r=>(bV a*4+bV b / 16)::(bV b % 16*16+bV c / 4)::(bV c % 4*64+bV d)::dec r
theorem Rk(rs:List Int)(m:Nat)(a b c d:Int)(EG:1<=m)(hm:m+1=min rs.length 4)(ha:rs.getD 0 0=a)(hb:rs.getD 1 0=b)(hc:rs.getD 2 0=c)(hd:rs.getD 3 0=d):
    dec rs= [bV a*4+bV b / 16,bV b % 16*16+bV c / 4,bV c % 4*64+bV d].take m++dec (rs.drop (m+1)):=by
 match rs with
 | []=>simp at hm
 | [_]=>simp at hm;omega
 | [x,y]=>simp at ha hb hc hd hm;subst ha hb hc hd hm;simp[dec]
 | [x,y,z]=>simp at ha hb hc hd hm;subst ha hb hc hd hm;simp[dec]
 | x::y::z::u::r=>
  simp at ha hb hc hd;have hm3:m=3:=by simp at hm;omega
  subst ha hb hc hd hm3;simp[dec]
theorem u_(zs:List Int):((dec zs).length:Int)=(zs.length:Int) / 4*3+uz ((zs.length:Int) % 4):=by
 induction zs using dec.induct with
 | case1=>rfl
 | case2 a=>simp[dec,uz]
 | case3 a b=>simp[dec,uz]
 | case4 a b c=>simp[dec,uz]
 | case5 a b c d r ih=>
  simp only[dec,List.length_cons,uz]at ih ⊢
  repeat' split at ih
  all_goals (repeat' split);all_goals omega
theorem Vt(zs:List Int)(h:zs.length % 4≠1):0<(dec zs).length↔0<zs.length:=by
 have h1:=u_ zs;unfold uz at h1
 split at h1<;>omega
theorem Yt(zs:List Int):∀x∈dec zs,0<=x/\x<=255:=by
 induction zs using dec.induct with
 | case1=>intro x hx;simp[dec]at hx
 | case2 a=>intro x hx;simp[dec]at hx
 | case3 a b=>
  have:=eD a;have:=eF a;have:=eD b;have:=eF b;intro x hx;simp only[dec,List.mem_cons,List.not_mem_nil,or_false]at hx;omega
 | case4 a b c=>
  have:=eD a;have:=eF a;have:=eD b;have:=eF b;have:=eD c;have:=eF c;intro x hx;simp only[dec,List.mem_cons,List.not_mem_nil,or_false]at hx;omega
 | case5 a b c d r ih=>
  have:=eD a;have:=eF a;have:=eD b;have:=eF b;have:=eD c;have:=eF c;have:=eD d;have:=eF d;intro x hx;simp only[dec,List.mem_cons]at hx
  rcases hx with hx| hx| hx| hx
  ·omega
  ·omega
  ·omega
  ·exact ih x hx
end Go.Proofs.YtegcgbjjpgjnmaaGreatDoor.Id
namespace Go.Proofs.YtegcgbjjpgjnmaaGreatDoor.Id
open Go.RowKit
theorem mE{k:IntKind}{a b:Int}(h:a=b):Ending.returned (.int k a)=.returned (.int k b):=by rw[h]
theorem Vu{a b:Int}{p q:Bool}(h:a=b)(hp:p=q):Ending.returned (.tuple #[.int .u32 a,.bool p])=.returned (.tuple #[.int .u32 b,.bool q]):=by rw[h,hp]
theorem yn(n:Int)(w:World)(h0:0<=n)(h1:n<=4):
    Calls Tryz.prog 153 #[.int .i64 n] w fun e w'=>e=.returned (.int .i64 (uz n))/\w=w':=by
 go_enter Tryz.func153,Tryz.ntmps153;go_wp2
 all_goals
  go_ret;exact⟨mE (by unfold uz;split<;>omega),rfl⟩
theorem Gd(m:Int)(w:World)(h0:1<=m)(h1:m<=3):
    Calls Tryz.prog 153 #[.int .i64 (m+1)] w fun e w'=>e=.returned (.int .i64 m)/\w=w':=by
 have h:=yn (m+1) w (by omega) (by omega);have e:uz (m+1)=m:=by unfold uz;rw[if_neg (by omega)];omega
 rw[e]at h;exact h
theorem zcU(c:Int)(n:Int)(b:Bool)(h:num c=if b then n else -1)(h0:0<=n)(hz:b=false->n=0):n=bV c/\b=isLet c:=by
 cases b
 ·simp[bV,isLet,h,hz rfl]
 ·simp[bV,isLet,h,h0]
theorem kK(c:Int)(w:World)(h0:0<=c)(h1:c<=255):
    Calls Tryz.prog 172 #[.int .u8 c] w fun e w'=>e=.returned (.tuple #[.int .u32 (bV c),.bool (isLet c)])/\w=w':=by
 by_cases e43:c=43
 ·subst e43;go_enter Tryz.func172,Tryz.ntmps172;go_wp2;go_ret2;exact⟨rfl,rfl⟩
 by_cases e47:c=47
 ·subst e47;go_enter Tryz.func172,Tryz.ntmps172;go_wp2;go_ret2;exact⟨rfl,rfl⟩
 go_enter Tryz.func172,Tryz.ntmps172;go_wp2
 all_goals
  go_ret2;refine⟨(fun h=>Vu h.1 h.2) (zcU c _ _ (by unfold num;(repeat' split);all_goals first| omega| (simp_all;done)| (simp_all;omega)) (by first| omega| simp) (by simp)),rfl⟩
theorem av{a b:Bool}(h:a=b):Ending.returned (.bool a)=.returned (.bool b):=by rw[h]
theorem oO(s:ByteArray)(c:Int)(w:World):
    Calls Tryz.prog 171 #[.string s,.int .u8 c] w fun e w'=>e=.returned (.int .i64 (Lib.indexByte s.data.toList c.toNat.toUInt8))/\w=w':=by
 go_enter Tryz.func171,Tryz.ntmps171;go_wp2;rw[run_callFunc_extern Tryz.func185 (by kernel_rfl) (by kernel_rfl) (by kernel_rfl) (e:=Extern.BytealgIndexByte.indexByte) (by kernel_rfl),Lib.run_indexByteString];simp only[Result.andThen];rw[Oper.upon_value];go_wp2;go_ret;exact⟨rfl,rfl⟩
theorem Cj(s:ByteArray)(c:Int)(w:World):
    Calls Tryz.prog 150 #[.string s,.int .u8 c] w fun e w'=>e=.returned (.int .i64 (Lib.indexByte s.data.toList c.toNat.toUInt8))/\w=w':=by
 go_enter Tryz.func150,Tryz.ntmps150;go_wp2_with(go_at_call 171;refine(oO _ _ _).mono ?_;rintro e w' ⟨rfl,rfl⟩);go_ret;exact⟨rfl,rfl⟩
def kind(o:List UInt8)(c:Int):Bool:=(decide (97<=c)&&decide (c<=122)) || (decide (48<=c)&&decide (c<=57)) || decide (0<=Lib.indexByte o c.toNat.toUInt8)
theorem zP(o:ByteArray)(c:Int)(B:Nat)(w:World)(hc:w.cell? ⟨B,0,none⟩=some (.string o))(h0:0<=c)(h1:c<=255):
    Calls Tryz.prog 149 #[.int .u8 c,.pointer (some ⟨B,0,none⟩)] w fun e w'=>e=.returned (.bool (kind o.data.toList c))/\w=w':=by
 go_enter Tryz.func149,Tryz.ntmps149;go_wp2_with(go_at_call 150;refine(Cj _ _ _).mono ?_;rintro e w' ⟨rfl,rfl⟩)
 all_goals
  go_ret;refine⟨av ?_,rfl⟩;unfold kind;rw[Bool.eq_iff_iff];simp;omega
def jC(k:Int->Bool)(m:Int)(s:ByteArray):Bool:=decide (1<=s.size)&&decide ((s.size:Int)<=m)&&(ints s).all k
theorem oP(k:Int->Bool)(m:Int)(s:ByteArray)(h:m<s.size):jC k m s=false:=by
 unfold jC;simp;omega
theorem oQ(k:Int->Bool)(m:Int)(s:ByteArray)(h:s.size=0):jC k m s=false:=by
 unfold jC;simp[h]
theorem qJ(k:Int->Bool)(m:Int)(s:ByteArray)(h:1<=s.size)(h':(s.size:Int)<=m)(ha:∀j,j<s.size->k ((ints s).getD j 0)=true):jC k m s=true:=by
 unfold jC;simp only[h,h',decide_true,Bool.true_and,List.all_eq_true];intro x hx;obtain⟨i,hi,rfl⟩:=List.mem_iff_getElem.1 hx;have:=ha i (by rw[<-ax];exact hi);rw[List.getD_eq_getElem?_getD,List.getElem?_eq_getElem hi]at this;exact this
theorem qK(k:Int->Bool)(m:Int)(s:ByteArray)(j:Nat)(hj:j<s.size)(ha:k ((ints s).getD j 0)=false):jC k m s=false:=by
 unfold jC;have zQ:j<(ints s).length:=by rw[ax];exact hj
 have:(ints s).all k=false:=by
  rw[List.all_eq_false];refine⟨(ints s)[j],List.getElem_mem zQ, ?_⟩;rw[List.getD_eq_getElem?_getD,List.getElem?_eq_getElem zQ]at ha;simpa using ha
 rw[this];simp
theorem zR(s o:ByteArray)(m:Int)(B:Nat)(w:World)(hs:s.size<=140737488351232)(hc:w.cell? ⟨B,0,none⟩=some (.string o)):
    Calls Tryz.prog 122 #[.string s,.int .i64 m,.func (.func 149) #[] #[.pointer (some ⟨B,0,none⟩)]] w fun e w'=>e=.returned (.bool (jC (kind o.data.toList) m s))/\w=w':=by
 by_cases he:s.size=0
 ·have he':(s.size:Int)=0:=by omega
  go_enter Tryz.func122,Tryz.ntmps122;go_wp2;go_ret;exact⟨av (oQ _ _ _ he).symm,rfl⟩
 by_cases hm:m<(s.size:Int)
 ·go_enter Tryz.func122,Tryz.ntmps122;go_wp2;go_ret;exact⟨av (oP _ _ _ hm).symm,rfl⟩
 go_enter Tryz.func122,Tryz.ntmps122;go_wp2
 go_loop [19] (fun i=>∃k:Nat,k<=s.size/\i=.int .i64 k/\∀j,j<k->kind o.data.toList ((ints s).getD j 0)=true) (fun i=>s.size - (intOf i).toNat)
 case atStart=>exact⟨0,Nat.zero_le _,rfl,fun j hj=>by omega⟩
 case round=>
  obtain⟨k,hk,rfl,eO⟩:=hrel;have HA:Hid (∀j,j<k->kind o.data.toList ((ints s).getD j 0)=true):=eO;clear eO
  by_cases bJ:k<s.size
  ·have HG:Hid ((ints s).getD k 0=(s[k].toNat:Int)):=dH s k bJ;have bI:(s[k].toNat:Int)<=255:=by have:=s[k].toNat_lt;omega
   by_cases hb:kind o.data.toList (s[k].toNat:Int)=true
   ·go_wp2_with(go_at_call 149;refine(zP o _ B _ hc (by omega) (by omega)).mono ?_;rintro e w' ⟨rfl,rfl⟩)
    go_round
    case rel=>exact⟨k+1,by omega,by go_num,fun j hj=>by
                          by_cases e:j=k
                          ·rw[e,HG.out];exact hb
                          ·exact HA.out j (by omega)⟩
    case measure=>simp[intOf];omega
   ·have zk:kind o.data.toList (s[k].toNat:Int)=false:=by simpa using hb
    clear hb;go_wp2_with(go_at_call 149;refine(zP o _ B _ hc (by omega) (by omega)).mono ?_;rintro e w' ⟨rfl,rfl⟩);go_ret;exact⟨av (qK _ _ _ k bJ (by rw[HG.out];exact zk)).symm,rfl⟩
  ·obtain rfl:k=s.size:=by omega
   go_wp2;go_ret;exact⟨av (qJ _ _ _ (by omega) (by omega) HA.out).symm,rfl⟩
def small(c:Int):Bool:=(decide (97<=c)&&decide (c<=122)) || (decide (48<=c)&&decide (c<=57)) || decide (c=46)
def zS(c:Int):Bool:=small c || decide (c=45)
def xt(c:Int):Bool:=small c || decide (c=45) || decide (c=95)
def zT(c:Int):Bool:=small c || decide (c=95)
def EH(s:ByteArray):Bool:=jC zS 32 s
def loc(s:ByteArray):Bool:=jC xt 32 s
def aQ(s:ByteArray):Bool:=jC zT 64 s
theorem Rl:∀n:Fin 256,kind [46,45] (n.val:Int)=zS n.val:=by decide+kernel
theorem Rm:∀n:Fin 256,kind [46,95,45] (n.val:Int)=xt n.val:=by decide+kernel
theorem Rn:∀n:Fin 256,kind [46,95] (n.val:Int)=zT n.val:=by decide+kernel
theorem qL{k k':Int->Bool}(h:∀n:Fin 256,k (n.val:Int)=k' n.val)(m:Int)(s:ByteArray):jC k m s=jC k' m s:=by
 unfold jC
 congr 1
 rw[Bool.eq_iff_iff,List.all_eq_true,List.all_eq_true]
 constructor<;>intro ha x hx
 ·have hb:=nE s x hx;have:=h ⟨x.toNat,by omega⟩;have e:((x.toNat:Nat):Int)=x:=by omega
  rw[e]at this;rw[<-this];exact ha x hx
 ·have hb:=nE s x hx;have:=h ⟨x.toNat,by omega⟩;have e:((x.toNat:Nat):Int)=x:=by omega
  rw[e]at this;rw[this];exact ha x hx
theorem zU(w:World)(v:Value)(t:Nat):(w.alloc (.cells #[v] t)).cell? ⟨w.heap.size,0,none⟩=some v:=
 World.cell?_alloc_at _ _ _ _ rfl
theorem qM(o:ByteArray)(w:World):
    Calls Tryz.prog 123 #[.string o] w fun e w'=>e=.returned (.func (.func 149) #[] #[.pointer (some ⟨w.heap.size,0,none⟩)])/\w'=w.alloc (.cells #[.string o] 9):=by
 go_enter Tryz.func123,Tryz.ntmps123;go_wp2;go_ret;exact⟨rfl,rfl⟩
theorem ve(s:ByteArray)(w:World)(hs:s.size<=140737488351232):
    Calls Tryz.prog 102 #[.string s] w fun e w'=>e=.returned (.bool (EH s))/\Below w.heap.size w w':=by
 have hc:=zU w (.string ⟨#[46,45]⟩) 9;go_enter Tryz.func102,Tryz.ntmps102;go_wp2_with(first
  | (go_at_call 123;refine(qM _ _).mono ?_;rintro e w' ⟨rfl,rfl⟩)
  | (go_at_call 122;refine(zR s _ 32 _ _ hs hc).mono ?_;rintro e w' ⟨rfl,rfl⟩))
 go_ret;exact⟨av (qL Rl 32 s),(Below.refl _ _).alloc (Nat.le_refl _) _⟩
theorem xu(s:ByteArray)(w:World)(hs:s.size<=140737488351232):
    Calls Tryz.prog 148 #[.string s] w fun e w'=>e=.returned (.bool (loc s))/\Below w.heap.size w w':=by
 have hc:=zU w (.string ⟨#[46,95,45]⟩) 9;go_enter Tryz.func148,Tryz.ntmps148;go_wp2_with(first
  | (go_at_call 123;refine(qM _ _).mono ?_;rintro e w' ⟨rfl,rfl⟩)
  | (go_at_call 122;refine(zR s _ 32 _ _ hs hc).mono ?_;rintro e w' ⟨rfl,rfl⟩))
 go_ret;exact⟨av (qL Rm 32 s),(Below.refl _ _).alloc (Nat.le_refl _) _⟩
theorem Ro(s:ByteArray)(w:World)(hs:s.size<=140737488351232):
    Calls Tryz.prog 98 #[.string s] w fun e w'=>e=.returned (.bool (aQ s))/\Below w.heap.size w w':=by
 have hc:=zU w (.string ⟨#[46,95]⟩) 9;go_enter Tryz.func98,Tryz.ntmps98;go_wp2_with(first
  | (go_at_call 123;refine(qM _ _).mono ?_;rintro e w' ⟨rfl,rfl⟩)
  | (go_at_call 122;refine(zR s _ 64 _ _ hs hc).mono ?_;rintro e w' ⟨rfl,rfl⟩))
 go_ret;exact⟨av (qL Rn 64 s),(Below.refl _ _).alloc (Nat.le_refl _) _⟩
theorem jh(c:Int)(w:World):
    Calls Tryz.prog 90 #[.int .u8 c] w fun e w'=>e=.returned (.bool (small c))/\w=w':=by
 go_enter Tryz.func90,Tryz.ntmps90;go_wp2
 all_goals
  go_ret;refine⟨av ?_,rfl⟩;unfold small;rw[Bool.eq_iff_iff];simp;omega
def aH:ByteArray:=⟨#[]⟩
def parts(c:Int)(s:ByteArray):ByteArray×ByteArray×Bool:=
 if 0<s.size/\(ints s).getD 0 0=c/\((ints s).drop 1).findIdx (· ==58)+1<s.size/\loc (s.extract 1 (((ints s).drop 1).findIdx (· ==58)+1))=true/\EH (s.extract (((ints s).drop 1).findIdx (· ==58)+2) s.size)=true
 then(s.extract 1 (((ints s).drop 1).findIdx (· ==58)+1),s.extract (((ints s).drop 1).findIdx (· ==58)+2) s.size,true)else(aH,aH,false)
theorem lT(l:List Int)(j:Nat):(l.drop 1).getD j 0=l.getD (j+1) 0:=by
 simp[List.getD_eq_getElem?_getD]
theorem Rp(l:List Int)(k:Nat)(hk:k<l.length)(hc:l.getD k 0=58)(ha:∀j,j<k->l.getD j 0≠58):l.findIdx (· ==58)=k:=by
 induction l generalizing k with
 | nil=>simp at hk
 | cons a l ih=>
  rw[List.findIdx_cons]
  match k with
  | 0=>simp at hc;simp[hc]
  | k+1=>
   have h0:=ha 0 (by omega);simp only[List.getD_cons_zero]at h0;have h1:(a==58)=false:=by simp[h0]
   rw[h1];simp only[cond_false];rw[ih k (by simpa using hk) (by simpa using hc) (fun j hj=>by simpa using ha (j+1) (by omega))]
theorem OM(l:List Int)(ha:∀j,j<l.length->l.getD j 0≠58):l.findIdx (· ==58)=l.length:=by
 induction l with
 | nil=>rfl
 | cons a l ih=>
  have h0:=ha 0 (by simp);simp only[List.getD_cons_zero]at h0;have h1:(a==58)=false:=by simp[h0]
  rw[List.findIdx_cons,h1];simp only[cond_false];rw[ih (fun j hj=>by simpa using ha (j+1) (by simpa using hj))];simp
theorem Vv(l:List UInt8)(k:Nat)(hk:k<l.length)(hc:(l.map fun c=>(c.toNat:Int)).getD k 0=58)(ha:∀j,j<k->(l.map fun c=>(c.toNat:Int)).getD j 0≠58):Lib.indexByte l 58=k:=by
 induction l generalizing k with
 | nil=>simp at hk
 | cons a l ih=>
  unfold Lib.indexByte
  match k with
  | 0=>
   have:a=58:=by
    simp at hc;exact UInt8.toNat_inj.1 (by simpa using(by omega:a.toNat=58))
   simp[this]
  | k+1=>
   have h0:=ha 0 (by omega);have h1:(a==58)=false:=by
    simp only[List.map_cons,List.getD_cons_zero]at h0;simp only[beq_eq_false_iff_ne,ne_eq];intro h;subst h;exact h0 rfl
   rw[h1,ih k (by simpa using hk) (by simpa using hc) (fun j hj=>by simpa using ha (j+1) (by omega))];have h2:((k:Int)== -1)=false:=by simp
   simp[h2]
theorem Rq(l:List UInt8)(ha:∀j,j<l.length->(l.map fun c=>(c.toNat:Int)).getD j 0≠58):Lib.indexByte l 58= -1:=by
 induction l with
 | nil=>rfl
 | cons a l ih=>
  unfold Lib.indexByte;have h0:=ha 0 (by simp);have h1:(a==58)=false:=by
   simp only[List.map_cons,List.getD_cons_zero]at h0;simp only[beq_eq_false_iff_ne,ne_eq];intro h;subst h;exact h0 rfl
  rw[h1,ih (fun j hj=>by simpa using ha (j+1) (by simpa using hj))];simp
theorem Df(c:Int)(s:ByteArray)(k:Nat)(h0:(ints s).getD 0 0=c)(h1:1<=k)(hk:k<s.size)(hc:(ints s).getD k 0=58)(ha:∀j,1<=j->j<k->(ints s).getD j 0≠58):
    parts c s=if loc (s.extract 1 k)=true/\EH (s.extract (k+1) s.size)=true then(s.extract 1 k,s.extract (k+1) s.size,true)else(aH,aH,false):=by
 have hf:((ints s).drop 1).findIdx (· ==58)=k - 1:=by
  refine Rp _ _ (by simp[ax];omega) ?_ fun j hj=> ?_
  ·rw[lT,Nat.sub_add_cancel h1];exact hc
  ·rw[lT];exact ha (j+1) (by omega) (by omega)
 unfold parts;rw[hf];have e1:k - 1+1=k:=by omega
 have e2:k - 1+2=k+1:=by omega
 rw[e1,e2]
 by_cases hl:loc (s.extract 1 k)=true/\EH (s.extract (k+1) s.size)=true
 ·rw[if_pos hl,if_pos ⟨by omega,h0,hk,hl.1,hl.2⟩]
 ·rw[if_neg hl,if_neg fun h=>hl ⟨h.2.2.2.1,h.2.2.2.2⟩]
theorem oU(c:Int)(s:ByteArray)(h:s.size=0\/ (ints s).getD 0 0≠c\/ ∀j,1<=j->j<s.size->(ints s).getD j 0≠58):parts c s=(aH,aH,false):=by
 unfold parts;rw[if_neg];intro⟨g0,g1,g2,_⟩
 rcases h with h| h| h
 ·omega
 ·exact h g1
 ·have:((ints s).drop 1).findIdx (· ==58)=((ints s).drop 1).length:=OM _ fun j hj=>by
    rw[lT];exact h (j+1) (by omega) (by simp[ax]at hj;omega)
  rw[this]at g2;simp[ax]at g2;omega
theorem Gf(s:ByteArray):(∃k,1<=k/\k<s.size/\(ints s).getD k 0=58/\∀j,1<=j->j<k->(ints s).getD j 0≠58)\/ ∀j,1<=j->j<s.size->(ints s).getD j 0≠58:=by
 have:∀n,(∃k,1<=k/\k<n/\(ints s).getD k 0=58/\∀j,1<=j->j<k->(ints s).getD j 0≠58)\/ ∀j,1<=j->j<n->(ints s).getD j 0≠58:=by
  intro n
  induction n with
  | zero=>exact .inr fun j _ hj=>by omega
  | succ n ih=>
   rcases ih with⟨k,h1,h2,h3,h4⟩| h
   ·exact .inl ⟨k,h1,by omega,h3,h4⟩
   ·by_cases hn:1<=n/\(ints s).getD n 0=58
    ·exact .inl ⟨n,hn.1,by omega,hn.2,h⟩
    ·refine .inr fun j h1 h2=> ?_
     by_cases e:j=n
     ·subst e;exact fun he=>hn ⟨h1,he⟩
     ·exact h j h1 (by omega)
 exact this s.size
theorem Rs(s:ByteArray)(k:Nat)(h1:1<=k)(hk:k<=s.size):(s.extract 1 s.size).extract 0 (k - 1)=s.extract 1 k:=by
 rw[ByteArray.extract_extract]
 congr 1
 omega
theorem Ke(s:ByteArray)(k:Nat):(s.extract 1 s.size).extract k (s.extract 1 s.size).size=s.extract (k+1) s.size:=by
 rw[ByteArray.extract_extract];simp
 congr 1
 all_goals omega
theorem below_drewN(w:World):∀n,Below w.heap.size w (w.drewN n)
 | 0=>by rw[World.drewN_zero];exact Below.refl _ _
 | n+1=>by rw[<-World.drew_drewN];exact(below_drewN w n).drew
theorem OO(l:List UInt8)(h:0<l.length):l.take 1= [l[0]]:=by
 cases l with
 | nil=>simp at h
 | cons a l=>simp
theorem Gg(s:ByteArray)(h:0<s.size):(s.extract 0 1).toList= [s[0]]:=by
 rw[Lib.toList_data,ByteArray.data_extract,Array.toList_extract];simp only[List.extract_eq_take_drop,List.drop_zero,Nat.sub_zero];rw[OO _ (by simpa using h)];simp[ByteArray.getElem_eq_getElem_data]
theorem Ck(s:ByteArray)(c:UInt8)(w:World)(hs:s.size<=140737488351232)(h:0<s.size)(hc:s[0]=c):
    Calls Tryz.prog 137 #[.string s,.string ⟨#[c]⟩] w fun e w'=>e=.returned (.bool true)/\w=w':=by
 have h1:((s.extract 0 1).toList== [c])=true:=by rw[Gg s h,hc];simp
 go_enter Tryz.func137,Tryz.ntmps137;go_wp2;go_ret;exact⟨rfl,rfl⟩
theorem EI(s:ByteArray)(c:UInt8)(w:World)(hs:s.size<=140737488351232)(h:∀h:0<s.size,s[0]≠c):
    Calls Tryz.prog 137 #[.string s,.string ⟨#[c]⟩] w fun e w'=>e=.returned (.bool false)/\w=w':=by
 by_cases h0:0<s.size
 ·have h1:((s.extract 0 1).toList== [c])=false:=by rw[Gg s h0];simp[h h0]
  go_enter Tryz.func137,Tryz.ntmps137;go_wp2;go_ret;exact⟨rfl,rfl⟩
 ·go_enter Tryz.func137,Tryz.ntmps137;go_wp2;go_ret;exact⟨rfl,rfl⟩
theorem vW(s:ByteArray)(c:UInt8)(w:World)(hs:s.size<=140737488351232)(h:0<s.size)(hc:s[0]=c):
    Calls Tryz.prog 151 #[.string s,.string ⟨#[c]⟩] w fun e w'=>e=.returned (.tuple #[.string (s.extract 1 s.size),.bool true])/\w=w':=by
 go_enter Tryz.func151,Tryz.ntmps151;go_wp2_with(go_at_call 137;refine(Ck s c _ hs h hc).mono ?_;rintro e w' ⟨rfl,rfl⟩);go_ret2;exact⟨rfl,rfl⟩
theorem xw(s:ByteArray)(c:UInt8)(w:World)(hs:s.size<=140737488351232)(h:∀h:0<s.size,s[0]≠c):
    Calls Tryz.prog 151 #[.string s,.string ⟨#[c]⟩] w fun e w'=>e=.returned (.tuple #[.string s,.bool false])/\w=w':=by
 go_enter Tryz.func151,Tryz.ntmps151;go_wp2_with(go_at_call 137;refine(EI s c _ hs h).mono ?_;rintro e w' ⟨rfl,rfl⟩);go_ret2;exact⟨rfl,rfl⟩
theorem ko(s:ByteArray)(c:UInt8)(w:World)(hs:s.size<=140737488351232)(h:0<s.size)(hc:s[0]=c):
    Calls Tryz.prog 125 #[.string s,.string ⟨#[c]⟩] w fun e w'=>e=.returned (.tuple #[.string (s.extract 1 s.size),.bool true])/\w=w':=by
 go_enter Tryz.func125,Tryz.ntmps125;go_wp2_with(go_at_call 151;refine(vW s c _ hs h hc).mono ?_;rintro e w' ⟨rfl,rfl⟩);go_ret2;exact⟨rfl,rfl⟩
theorem vX(s:ByteArray)(c:UInt8)(w:World)(hs:s.size<=140737488351232)(h:∀h:0<s.size,s[0]≠c):
    Calls Tryz.prog 125 #[.string s,.string ⟨#[c]⟩] w fun e w'=>e=.returned (.tuple #[.string s,.bool false])/\w=w':=by
 go_enter Tryz.func125,Tryz.ntmps125;go_wp2_with(go_at_call 151;refine(xw s c _ hs h).mono ?_;rintro e w' ⟨rfl,rfl⟩);go_ret2;exact⟨rfl,rfl⟩
theorem index_one(s:ByteArray)(w:World):
    Calls Tryz.prog 184 #[.string s,.string ⟨#[58]⟩] w fun e w'=>e=.returned (.int .i64 (Lib.indexByte s.data.toList 58))/\w=w':=by
 go_enter Tryz.func184,Tryz.ntmps184;go_wp2_with(go_at_call 171;refine(oO _ _ _).mono ?_;rintro e w' ⟨rfl,rfl⟩)
 ·have h:([58]==s.toList)=true:=by assumption
  go_ret;refine⟨?_,rfl⟩;have e:s.data.toList= [58]:=by rw[<-Lib.toList_data];exact(beq_iff_eq.1 h).symm
  rw[e];simp[Lib.indexByte]
 ·go_ret;exact⟨rfl,rfl⟩
theorem Kg(t:ByteArray)(w:World)(hi:Lib.indexByte t.data.toList 58= -1):
    Calls Tryz.prog 170 #[.string t,.string ⟨#[58]⟩] w fun e w'=>e=.returned (.tuple #[.string t,.string ⟨#[]⟩,.bool false])/\Below w.heap.size w w':=by
 go_enter Tryz.func170,Tryz.ntmps170;go_wp2_with(go_at_call 184;refine(index_one t _).mono ?_;rw[hi];rintro e w' ⟨rfl,rfl⟩)
 go_ret3
 exact⟨rfl,Below.refl _ _⟩
theorem Yu(t:ByteArray)(w:World)(hi:Lib.indexByte t.data.toList 58= -1):
    Calls Tryz.prog 147 #[.string t,.string ⟨#[58]⟩] w fun e w'=>e=.returned (.tuple #[.string t,.string ⟨#[]⟩,.bool false])/\Below w.heap.size w w':=by
 go_enter Tryz.func147,Tryz.ntmps147;go_wp2_with(go_at_call 170;refine(Kg t _ hi).mono ?_;rintro e w' ⟨rfl,hb⟩)
 go_ret3
 exact⟨rfl,hb⟩
theorem Gh(t:ByteArray)(k:Nat)(w:World)(hs:t.size<=140737488351232)(hk:k<t.size)(hi:Lib.indexByte t.data.toList 58=k):
    Calls Tryz.prog 170 #[.string t,.string ⟨#[58]⟩] w fun e w'=>e=.returned (.tuple #[.string (t.extract 0 k),.string (t.extract (k+1) t.size),.bool true])/\Below w.heap.size w w':=by
 go_enter Tryz.func170,Tryz.ntmps170;go_wp2_with(go_at_call 184;refine(index_one t _).mono ?_;rw[hi];rintro e w' ⟨rfl,rfl⟩);go_quiet (fail);go_wp2
 go_ret3
 exact⟨rfl,below_drewN _ _⟩
theorem Vw(t:ByteArray)(k:Nat)(w:World)(hs:t.size<=140737488351232)(hk:k<t.size)(hi:Lib.indexByte t.data.toList 58=k):
    Calls Tryz.prog 147 #[.string t,.string ⟨#[58]⟩] w fun e w'=>e=.returned (.tuple #[.string (t.extract 0 k),.string (t.extract (k+1) t.size),.bool true])/\Below w.heap.size w w':=by
 go_enter Tryz.func147,Tryz.ntmps147;go_wp2_with(go_at_call 170;refine(Gh t k _ hs hk hi).mono ?_;rintro e w' ⟨rfl,hb⟩)
 go_ret3
 exact⟨rfl,hb⟩
end Go.Proofs.YtegcgbjjpgjnmaaGreatDoor.Id

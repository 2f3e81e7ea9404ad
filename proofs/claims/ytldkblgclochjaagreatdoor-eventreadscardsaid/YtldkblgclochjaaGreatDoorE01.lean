/- A part. -/
import Derived.WalkKit
import Derived.WalkSpells
import Derived.WalkLawsBesides
import Derived.Laws.BytesArg
import Derived.Lib.Strings
import Derived.Lib.RuneBytes
import Derived.Lib.Bytealg
import Derived.Laws.RangeAny
import Derived.Lib.ItoaNum
import Derived.Test.YtldkblgclochjaaGreatDoorRows
import Derived.Laws.AppendOwnNone
set_option maxRecDepth 100000
set_option maxHeartbeats 16000000
namespace Go.Proofs.YtldkblgclochjaaGreatDoor
open Go.RowKit
def ints(s:ByteArray):List Int:=s.data.toList.map fun c=>(c.toNat:Int)
theorem ax(s:ByteArray):(ints s).length=s.size:=by simp[ints]
theorem dS(s:ByteArray)(k:Nat)(h:k<s.size):(ints s).getD k 0=(s[k].toNat:Int):=by
 have c:k<s.data.toList.length:=by simpa using h
 simp only[ints,List.getD_eq_getElem?_getD,List.getElem?_map,List.getElem?_eq_getElem c,Option.map_some,Option.getD_some]
 rfl
theorem nR(s:ByteArray):∀x∈ints s,0<=x/\x<=255:=by
 intro x d;simp only[ints,List.mem_map]at d;obtain⟨c,_,rfl⟩:=d;have:=c.toNat_lt;omega
theorem lH(s:ByteArray)(k:Nat):ints (s.extract k s.size)=(ints s).drop k:=by
 simp only[ints,ByteArray.data_extract,Array.toList_extract,List.extract_eq_take_drop,List.map_take,List.map_drop];rw[List.take_of_length_le];have:(List.drop k (List.map (fun c:UInt8=>(c.toNat:Int)) s.data.toList)).length=s.size - k:=by simp
 omega
theorem xD(l:List Int)(h:∀x∈l,0<=x/\x<=255):ints (strOfNums l)=l:=by
 simp only[ints,strOfNums,List.map_map]
 conv=>rhs;rw[<-List.map_id l]
 refine List.map_congr_left fun x c=> ?_;have:=h x c;simp only[Function.comp,id_eq];have c:x.toNat<256:=by omega
 rw[UInt8.toNat_ofNat_of_lt' c];omega
theorem BJ(s:ByteArray):strOfNums (ints s)=s:=by
 cases s with
 | mk d=>
  simp only[ints,strOfNums,List.map_map];have e:((fun n:Int=>UInt8.ofNat n.toNat)∘fun c:UInt8=>(c.toNat:Int))=id:=by
   funext c
   simp
  rw[e,List.map_id]
theorem fZ(l:List Int):(strOfNums l).size=l.length:=by
 show(strOfNums l).data.size=_
 simp[strOfNums]
theorem f_(a b:List Int):strOfNums a++strOfNums b=strOfNums (a++b):=by
 apply ByteArray.ext
 rw[ByteArray.data_append];simp[strOfNums]
theorem mW{k:IntKind}{a b:Int}(h:a=b):Ending.returned (.int k a)=.returned (.int k b):=by rw[h]
theorem ak{a b:Bool}(h:a=b):Ending.returned (.bool a)=.returned (.bool b):=by rw[h]
theorem Zd{a b:ByteArray}(h:a=b):Ending.returned (.string a)=.returned (.string b):=by rw[h]
def Rd(B:Nat)(w:World)(p:Option Addr)(c:Nat)(rs:List Int):Prop:=
 rs.length<=c/\(∀x∈rs,0<=x/\x<=255)/\∀j,j<rs.length->∃a,p=some a/\a.block<B/\w.cell? (a.add j)=some (.int .u8 (rs.getD j 0))
theorem bu(a:Addr)(m:Nat):(a.add m).block=a.block:=by unfold Addr.add;split<;>rfl
theorem aQ{w:World}{g t:Nat}{c:Nat×Nat}{cur:List Value}(h:w.heap[g]?=some (.cells cur.toArray t c))(j:Nat)(v:Value)(d:cur[j]?=some v):w.cell? ⟨g,j,none⟩=some v:=by
 simp[World.cell?,h,d]
theorem oz{w:World}{B e size n:Nat}{v:Value}{xs:List Value}(h:w.ownsRow B e size v n xs):∀k,v.ownBlock=some k->B<=k:=by
 intro k c
 rcases h.2 with⟨rfl,_⟩| ⟨g,cap,cur,rfl,d,_⟩
 ·cases c
 ·cases c;exact d
inductive J where
 | mk (kind int:Int) (text:ByteArray) (keys:List ByteArray) (list:List J)
def aH:ByteArray:=⟨#[]⟩
def J.zero:J:=.mk 0 0 aH [] []
def J.kind:J->Int| .mk k _ _ _ _=>k
def J.int:J->Int| .mk _ i _ _ _=>i
def J.text:J->ByteArray| .mk _ _ t _ _=>t
def J.keys:J->List ByteArray| .mk _ _ _ ks _=>ks
def J.list:J->List J| .mk _ _ _ _ l=>l
inductive Res(α:Type)where
 | ok (v:α) (p:Nat)
 | bad (e:Int) (at':Nat)
def Res.bind{α β:Type}:Res α->(α->Nat->Res β)->Res β
 | .ok v p,f=>f v p
 | .bad e a,_=>.bad e a
def ah(t:List Int)(i:Nat):Int:=t.getD i 0
def jG(c:Int):Bool:=decide (c=32) || decide (c=9) || decide (c=10) || decide (c=13)
def df(c:Int):Bool:=decide (48<=c)&&decide (c<=57)
def oC(c:Int):Bool:=decide (c=91) || decide (c=123) || decide (c=34) || decide (c=110) || decide (c=116) || decide (c=102) || decide (c=45) || df c
def aF(t:List Int)(p:Nat):Nat:=p+((t.drop p).takeWhile jG).length
def qz(t:List Int)(c:Int)(p:Nat):Res Unit:=if ah t p=c then .ok () (p+1)else .bad 11 p
def word(t:List Int):List Int->Nat->Res Unit
 | [],p=>.ok () p
 | c::r,p=>(qz t c p).bind fun _ q=>word t r q
def bI:Int:=9007199254740991
def oD(l:List Int):Int:=l.foldl (fun n c=>if n<=bI then n*10+(c - 48)else n) 0
def digits(t:List Int)(p:Nat):Int×Nat:=if ah t p=48 then(0,p+1)else(oD ((t.drop p).takeWhile df),p+((t.drop p).takeWhile df).length)
def number(t:List Int)(p:Nat):Res J:=
 if df (ah t (if ah t p=45 then p+1 else p))=true then
  let d:=digits t (if ah t p=45 then p+1 else p)
  let c:=ah t d.2
  if bI<d.1\/ c=46\/ c=101\/ c=69 then .bad 15 p else .ok (.mk 2 (if ah t p=45 then -d.1 else d.1) aH [] []) d.2
 else .bad 11 (if ah t p=45 then p+1 else p)
def iJ(c:Int):Option Int:=
 if df c=true then some (c - 48)else if 97<=c/\c<=102 then some (c - 97+10)else if 65<=c/\c<=70 then some (c - 65+10)else none
def hexL(t:List Int)(i:Nat):Nat->Nat->Int->Int×Nat
 | 0,k,n=>(n,k)
 | m+1,k,n=>match iJ (ah t (i+k))with
  | none=>(n,k)
  | some d=>hexL t i m (k+1) (n*16+d)
def gY(t:List Int)(i:Nat):Int×Nat:=hexL t i 4 0 0
def oF(t:List Int)(i:Nat):Option Int:=
 if ah t i=92/\ah t (i+1)=117 then
  if(gY t (i+2)).2=4/\56320<=(gY t (i+2)).1/\(gY t (i+2)).1<=57343 then some (gY t (i+2)).1 else none
 else none
def lg(t:List Int)(p:Nat):Res Int:=
 if(gY t (p+2)).2<4 then .bad 11 (p+2+(gY t (p+2)).2)
 else if(gY t (p+2)).1<55296\/ 57343<(gY t (p+2)).1 then .ok (gY t (p+2)).1 (p+6)
 else if 56320<=(gY t (p+2)).1 then .bad 11 p
 else match oF t (p+6)with
  | none=>.bad 11 p
  | some l=>.ok (65536+((gY t (p+2)).1 - 55296)*1024+(l - 56320)) (p+12)
def escape(t:List Int)(p:Nat):Res Int:=
 let c:=ah t (p+1)
 if c=34\/ c=92\/ c=47 then .ok c (p+2)
 else if c=98 then .ok 8 (p+2)
 else if c=102 then .ok 12 (p+2)
 else if c=110 then .ok 10 (p+2)
 else if c=114 then .ok 13 (p+2)
 else if c=116 then .ok 9 (p+2)
 else if c=117 then lg t p
 else .bad 11 (p+1)
def quoL(t:List Int):Nat->Nat->List Int->Res (List Int)
 | 0,_,_=>.bad 99 0
 | m+1,p,out=>
  if ah t p=34 then .ok out (p+1)
  else if ah t p=92 then(escape t p).bind fun l q=>quoL t m q (out++Lib.encodeRuneZ l)
  else if ah t p<32 then .bad 11 p
  else quoL t m (p+1) (out++ [ah t p])
def quoted(t:List Int)(p:Nat):Res (List Int):=quoL t (t.length+1) (p+1) []
def ku(t:List Int)(stood:List ByteArray)(p:Nat):Res ByteArray:=
 if ah t p=34 then
  (quoted t p).bind fun s q=>
   if stood.any (fun k=>decide (k.data=(strOfNums s).data))=true then .bad 14 p
   else(qz t 58 (aF t q)).bind fun _ r=>.ok (strOfNums s) (aF t r)
 else .bad 11 p
def lessB:List UInt8->List UInt8->Bool
 | [], []=>false
 | [],_::_=>true
 | _::_, []=>false
 | a::x,b::y=>decide (a<b) || (decide (a=b)&&lessB x y)
def putK(k:ByteArray)(v:J):List (ByteArray×J)->List (ByteArray×J)
 | []=> [(k,v)]
 | q::l=>if lessB k.data.toList q.1.data.toList=true then(k,v)::q::l else q::putK k v l
def fT:List (ByteArray×J)->List (ByteArray×J)
 | []=> []
 | q::l=>putK q.1 q.2 (fT l)
def mapOf(ks:List ByteArray)(l:List J):J:=.mk 5 0 aH ((fT (ks.zip l)).map (·.1)) ((fT (ks.zip l)).map (·.2))
def listL(t:List Int)(f:Nat->Res J):Nat->Nat->List J->Res J
 | 0,_,_=>.bad 99 0
 | m+1,p,dF=>(f (aF t p)).bind fun v q=>
  if ah t (aF t q)=93 then .ok (.mk 4 0 aH [] (dF++ [v])) (aF t q+1)
  else if ah t (aF t q)=44 then listL t f m (aF t q+1) (dF++ [v])
  else .bad 11 (aF t q)
def pairsL(t:List Int)(f:Nat->Res J):Nat->Nat->List ByteArray->List J->Res J
 | 0,_,_,_=>.bad 99 0
 | m+1,p,ks,dF=>(ku t ks (aF t p)).bind fun s q=>(f q).bind fun v r=>
  if ah t (aF t r)=125 then .ok (mapOf (ks++ [s]) (dF++ [v])) (aF t r+1)
  else if ah t (aF t r)=44 then pairsL t f m (aF t r+1) (ks++ [s]) (dF++ [v])
  else .bad 11 (aF t r)
def lI(t:List Int)(f:Nat->Res J)(p:Nat):Res J:=
 if ah t (aF t (p+1))=93 then .ok (.mk 4 0 aH [] []) (aF t (p+1)+1)else listL t f (t.length+1) (aF t (p+1)) []
def iT(t:List Int)(f:Nat->Res J)(p:Nat):Res J:=
 if ah t (aF t (p+1))=125 then .ok (.mk 5 0 aH [] []) (aF t (p+1)+1)else pairsL t f (t.length+1) (aF t (p+1)) [] []
def value(t:List Int):Nat->Nat->Res J
 | 0,p=>if oC (ah t p)=true then .bad 12 p else .bad 11 p
 | d+1,p=>
  if oC (ah t p)=true then
   if ah t p=110 then(word t [110,117,108,108] p).bind fun _ q=>.ok (.mk 0 0 aH [] []) q
   else if ah t p=116 then(word t [116,114,117,101] p).bind fun _ q=>.ok (.mk 1 1 aH [] []) q
   else if ah t p=102 then(word t [102,97,108,115,101] p).bind fun _ q=>.ok (.mk 1 0 aH [] []) q
   else if ah t p=34 then(quoted t p).bind fun s q=>.ok (.mk 3 0 (strOfNums s) [] []) q
   else if ah t p=91 then lI t (value t d) p
   else if ah t p=123 then iT t (value t d) p
   else number t p
  else .bad 11 p
def whole(t:List Int):Res J:=
 (value t 12 (aF t 0)).bind fun j q=>if aF t q<t.length then .bad 16 (aF t q)else .ok j (aF t q)
def yJ{α:Type}(t:List Int)(p:Nat):Res α->Prop
 | .ok _ q=>p<q/\q<=t.length
 | .bad _ a=>a<=t.length
theorem bz{t:List Int}{p:Nat}(h:ah t p≠0):p<t.length:=by
 unfold ah at h
 rcases Nat.lt_or_ge p t.length with c| c
 ·exact c
 ·rw[List.getD_eq_getElem?_getD,List.getElem?_eq_none c]at h;exact absurd rfl h
theorem iq(t:List Int)(p:Nat):p<=aF t p:=by unfold aF;omega
theorem fP{t:List Int}{p:Nat}(h:p<=t.length):aF t p<=t.length:=by
 unfold aF;have:=(List.takeWhile_sublist jG (l:=t.drop p)).length_le;simp at this;omega
theorem BK{t:List Int}{c:Int}{p:Nat}(d:c≠0)(f:p<=t.length):yJ t p (qz t c p):=by
 unfold qz
 split
 ·rename_i h;exact⟨by omega,bz (h ▸ d)⟩
 ·exact f
theorem jq{α β:Type}{t:List Int}{p:Nat}{r:Res α}{f:α->Nat->Res β}(h:yJ t p r)(j:∀v q,p<q->q<=t.length->yJ t q (f v q)\/ (∃d,f v q=.ok d q)):yJ t p (r.bind f):=by
 cases r with
 | bad e a=>exact h
 | ok v q=>
  rcases j v q h.1 h.2 with c| ⟨d,c⟩
  ·show yJ t p (f v q)
   cases hr:f v q with
   | bad e a=>rw[hr]at c;exact c
   | ok v2 q2=>rw[hr]at c;exact⟨Nat.lt_trans h.1 c.1,c.2⟩
  ·show yJ t p (f v q)
   rw[c];exact h
def dm(t:List Int)(i:Nat):Bool:=decide (ah t i / 64=2)
def dY(c:Int):Bool:=(decide (c<55296) || decide (57344<=c))&&decide (c<=1114111)
def bJ(t:List Int)(p:Nat):Int×Nat:=
 if ah t p<128 then(ah t p,1)
 else if(decide (ah t p / 32=6)&&dm t (p+1))=true then
  if 128<=ah t p % 32*64+ah t (p+1) % 64 then(ah t p % 32*64+ah t (p+1) % 64,2)else(0,0)
 else if(decide (ah t p / 16=14)&&dm t (p+1)&&dm t (p+2))=true then
  if(decide (2048<=ah t p % 16*4096+ah t (p+1) % 64*64+ah t (p+2) % 64)&&dY (ah t p % 16*4096+ah t (p+1) % 64*64+ah t (p+2) % 64))=true
  then(ah t p % 16*4096+ah t (p+1) % 64*64+ah t (p+2) % 64,3)else(0,0)
 else if(decide (ah t p / 8=30)&&dm t (p+1)&&dm t (p+2)&&dm t (p+3))=true then
  if(decide (65536<=ah t p % 8*262144+ah t (p+1) % 64*4096+ah t (p+2) % 64*64+ah t (p+3) % 64)&&dY (ah t p % 8*262144+ah t (p+1) % 64*4096+ah t (p+2) % 64*64+ah t (p+3) % 64))=true
  then(ah t p % 8*262144+ah t (p+1) % 64*4096+ah t (p+2) % 64*64+ah t (p+3) % 64,4)else(0,0)
 else(0,0)
def strayL(t:List Int):Nat->Nat->Option Nat
 | 0,_=>none
 | m+1,p=>if p<t.length then(if(bJ t p).2=0 then some p else strayL t m (p+(bJ t p).2))else none
def iB(t:List Int):Option Nat:=strayL t t.length 0
theorem qA(s:ByteArray)(i:Nat):((s.get! i).toNat:Int)=ah (ints s) i:=by
 unfold ah
 by_cases h:i<s.size
 ·rw[dS s i h];have:s.get! i=s[i]:=by simp[ByteArray.get!,getElem!_pos,h];rfl
  rw[this]
 ·rw[List.getD_eq_getElem?_getD,List.getElem?_eq_none (by rw[ax];omega)];have:s.get! i=0:=by
   have c:¬i<s.data.size:=h
   show s.data[i]! =0
   rw[getElem!_neg s.data i c];rfl
  rw[this];rfl
theorem j6(s:ByteArray)(i:Nat):0<=ah (ints s) i/\ah (ints s) i<=255:=by
 rw[<-qA];have:=(s.get! i).toNat_lt;omega
theorem mD(s:ByteArray)(i:Nat)(h:s.size<=i):ah (ints s) i=0:=by
 unfold ah;rw[List.getD_eq_getElem?_getD,List.getElem?_eq_none (by rw[ax];omega)]
 rfl
theorem GA(s:ByteArray)(i:Nat):(decide (i<s.size)&&((s.get! i).toNat / 64==2))=dm (ints s) i:=by
 unfold dm;have h1:=qA s i
 by_cases h:i<s.size
 ·rw[decide_eq_true h,Bool.true_and,Bool.eq_iff_iff];simp;omega
 ·rw[decide_eq_false h,mD s i (by omega)]
  rfl
theorem valid_eq(c:Nat):Utf8.valid c=dY c:=by
 unfold Utf8.valid dY;rw[Bool.eq_iff_iff];simp;omega
theorem uw(s:ByteArray)(p:Nat):Utf8.decode s p=if(bJ (ints s) p).2=0 then(65533,1)else((bJ (ints s) p).1.toNat,(bJ (ints s) p).2):=by
 have u:=qA s p;have k:=qA s (p+1);have m:=qA s (p+2);have g3:=qA s (p+3);have x:=GA s (p+1);have A:=GA s (p+2);have z:=GA s (p+3);unfold Utf8.decode bJ;simp only[Nat.add_zero];rw[x,A,z];obtain⟨b0,h0⟩:∃b,(s.get! p).toNat=b:=⟨_,rfl⟩;obtain⟨b1,h1⟩:∃b,(s.get! (p+1)).toNat=b:=⟨_,rfl⟩;obtain⟨b2,h2⟩:∃b,(s.get! (p+2)).toNat=b:=⟨_,rfl⟩;obtain⟨b3,h3⟩:∃b,(s.get! (p+3)).toNat=b:=⟨_,rfl⟩;simp only[h0,h1,h2,h3]at u k m g3 ⊢;rw[<-u,<-k,<-m,<-g3];generalize dm (ints s) (p+1)=k1;generalize dm (ints s) (p+2)=k2;generalize dm (ints s) (p+3)=k3;have F:(b0 / 32==6)=decide ((b0:Int) / 32=6):=by rw[Bool.eq_iff_iff];simp;omega
 have E:(b0 / 16==14)=decide ((b0:Int) / 16=14):=by rw[Bool.eq_iff_iff];simp;omega
 have f3:(b0 / 8==30)=decide ((b0:Int) / 8=30):=by rw[Bool.eq_iff_iff];simp;omega
 rw[F,E,f3]
 by_cases c0:b0<128
 ·have f:(b0:Int)<128:=by omega
  rw[if_pos c0,if_pos f];simp
 have f:¬(b0:Int)<128:=by omega
 rw[if_neg c0,if_neg f]
 by_cases c1:(decide ((b0:Int) / 32=6)&&k1)=true
 ·rw[if_pos c1,if_pos c1]
  by_cases c2:128<=b0 % 32*64+b1 % 64
  ·have h:(128:Int)<=(b0:Int) % 32*64+(b1:Int) % 64:=by omega
   rw[if_pos c2,if_pos h];simp;omega
  ·have h:¬(128:Int)<=(b0:Int) % 32*64+(b1:Int) % 64:=by omega
   rw[if_neg c2,if_neg h]
   rfl
 rw[if_neg c1,if_neg c1]
 by_cases c3:(decide ((b0:Int) / 16=14)&&k1&&k2)=true
 ·rw[if_pos c3,if_pos c3];have j:((b0 % 16*4096+b1 % 64*64+b2 % 64:Nat):Int)=(b0:Int) % 16*4096+(b1:Int) % 64*64+(b2:Int) % 64:=by omega
  rw[<-j];generalize b0 % 16*4096+b1 % 64*64+b2 % 64=c
  by_cases c4:2048<=c
  ·rw[valid_eq c];have d:(2048:Int)<=c:=by omega
   rw[show decide (c≥2048)=true from decide_eq_true c4,decide_eq_true d,Bool.true_and]
   split
   ·simp
   ·rfl
  ·have d:¬(2048:Int)<=c:=by omega
   rw[show decide (c≥2048)=false from decide_eq_false c4,decide_eq_false d]
   rfl
 rw[if_neg c3,if_neg c3]
 by_cases c5:(decide ((b0:Int) / 8=30)&&k1&&k2&&k3)=true
 ·rw[if_pos c5,if_pos c5];have j:((b0 % 8*262144+b1 % 64*4096+b2 % 64*64+b3 % 64:Nat):Int)=(b0:Int) % 8*262144+(b1:Int) % 64*4096+(b2:Int) % 64*64+(b3:Int) % 64:=by omega
  rw[<-j];generalize b0 % 8*262144+b1 % 64*4096+b2 % 64*64+b3 % 64=c
  by_cases c4:65536<=c
  ·rw[valid_eq c];have d:(65536:Int)<=c:=by omega
   rw[show decide (c≥65536)=true from decide_eq_true c4,decide_eq_true d,Bool.true_and]
   split
   ·simp
   ·rfl
  ·have d:¬(65536:Int)<=c:=by omega
   rw[show decide (c≥65536)=false from decide_eq_false c4,decide_eq_false d]
   rfl
 rw[if_neg c5,if_neg c5]
 rfl
theorem BL(t:List Int)(p:Nat):(bJ t p).2<=4:=by
 unfold bJ
 (repeat' split);all_goals simp
theorem yO(t:List Int)(p:Nat)(h0:ah t p=239)(h1:ah t (p+1)=191)(h2:ah t (p+2)=189):bJ t p=(65533,3):=by
 unfold bJ dm;rw[h0,h1,h2,if_neg (by decide),if_neg (by decide),if_pos (by decide),if_pos (by decide)]
 rfl
theorem PW(t:List Int)(p:Nat)(c:∀i,0<=ah t i/\ah t i<=255)(h:(bJ t p).2≠0)(d:(bJ t p).1=65533):ah t p=239/\ah t (p+1)=191/\ah t (p+2)=189:=by
 have f:=c p;have m:=c (p+1);have k:=c (p+2);have j:=c (p+3);unfold bJ dm at h d;generalize ah t p=b0 at*;generalize ah t (p+1)=b1 at*;generalize ah t (p+2)=b2 at*;generalize ah t (p+3)=b3 at*
 repeat' split at d
 all_goals simp_all
 all_goals omega
def noKeyTwice:List ByteArray->Bool
 | []=>true
 | k::r=> !(r.any fun x=>decide (x.data=k.data))&&noKeyTwice r
def letters(s:ByteArray):Bool:=(iB (ints s)).isNone
def bare:J->Bool
 | .mk k i t ks l=>(decide (i=0) || decide (k=1) || decide (k=2))&&(decide (t.size=0) || decide (k=3))&&(decide (ks.length=0) || decide (k=5))&&(decide (l.length=0) || decide (k=4) || decide (k=5))
def goodJ:Nat->J->Bool
 | 0,_=>false
 | d+1,.mk k i t ks l=>bare (.mk k i t ks l)&&
  (if k=0 then true
   else if k=1 then decide (i=0) || decide (i=1)
   else if k=2 then decide (-bI<=i)&&decide (i<=bI)
   else if k=3 then letters t
   else if k=4 then l.all (goodJ d)
   else if k=5 then decide (ks.length=l.length)&&(ks.all letters&&noKeyTwice ks)&&l.all (goodJ d)
   else false)
mutual
def ord:J->J
 | .mk k i t ks l=>if k=5 then mapOf ks (ordL l)else .mk k i t [] (ordL l)
def ordL:List J->List J
 | []=> []
 | j::r=>ord j::ordL r
end
def Eh(n:Int):Int:=if n<10 then 48+n else 87+n
def aG(c:Int):List Int:=
 if c=34 then [92,34]else if c=92 then [92,92]else if c=8 then [92,98]else if c=9 then [92,116]else if c=10 then [92,110]
 else if c=12 then [92,102]else if c=13 then [92,114]else if c<32 then [92,117,48,48,Eh (c / 16),Eh (c % 16)]else [c]
def quote(t:List Int):List Int:=34::(t.flatMap aG++ [34])
def vU(n:Int):List Int:=(Lib.itoa n).map fun c=>(c.toNat:Int)
mutual
def aY:J->List Int
 | .mk k i t ks l=>
  if k=0 then [110,117,108,108]
  else if k=1 then(if i=1 then [116,114,117,101]else [102,97,108,115,101])
  else if k=2 then vU i
  else if k=3 then quote (ints t)
  else if k=4 then 91::(gM true l++ [93])
  else if k=5 then 123::(gG true ks l++ [125])
  else []
def gM(first:Bool):List J->List Int
 | []=> []
 | j::r=>(if first then []else [44])++(aY j++gM false r)
def gG(first:Bool)(ks:List ByteArray):List J->List Int
 | []=> []
 | j::r=>(if first then []else [44])++(quote (ints (ks.headD aH))++(58::(aY j++gG false ks.tail r)))
end
def IV(o s o':List Int):Prop:=((o++s).length<=16384/\o'=o++s)\/ (16384<(o++s).length/\16384<o'.length)
theorem IV.nil(o:List Int):IV o [] o:=by
 unfold IV;rw[List.append_nil]
 rcases Nat.lt_or_ge 16384 o.length with h| h
 ·exact .inr ⟨h,h⟩
 ·exact .inl ⟨h,rfl⟩
theorem IV.trans{o s f s' c:List Int}(h:IV o s f)(d:IV f s' c):IV o (s++s') c:=by
 unfold IV at h d ⊢;rw[<-List.append_assoc]
 rcases h with⟨h1,rfl⟩| ⟨h1,h2⟩
 ·exact d
 ·rcases d with⟨h3,rfl⟩| ⟨_,h3⟩
  ·right
   simp only[List.length_append]at h1 h3 ⊢;omega
  ·right
   simp only[List.length_append]at h1 ⊢;exact⟨by omega,h3⟩
theorem IV.one(o s:List Int):IV o s (if 16384<o.length then o else o++s):=by
 unfold IV
 split
 ·rename_i h
  right
  simp only[List.length_append];exact⟨by omega,h⟩
 ·rcases Nat.lt_or_ge 16384 (o++s).length with h| h
  ·exact .inr ⟨h,h⟩
  ·exact .inl ⟨h,rfl⟩
theorem xE:∀x:List UInt8,lessB x x=false
 | []=>rfl
 | a::x=>by unfold lessB;rw[xE x];simp
theorem zR:∀x y z:List UInt8,lessB x y=true->lessB y z=true->lessB x z=true
 | [], [],_,h,_=>by cases h
 | [],_::_, [],_,h=>by cases h
 | [],_::_,_::_,_,_=>rfl
 | _::_, [],_,h,_=>by cases h
 | _::_,_::_, [],_,h=>by cases h
 | a::x,b::y,c::z,h,d=>by
  unfold lessB at h d ⊢;simp only[Bool.or_eq_true,Bool.and_eq_true,decide_eq_true_eq]at h d ⊢
  rcases h with h| ⟨rfl,h⟩
  ·rcases d with d| ⟨rfl,d⟩
   ·exact .inl (UInt8.lt_trans h d)
   ·exact .inl h
  ·rcases d with d| ⟨rfl,d⟩
   ·exact .inl d
   ·exact .inr ⟨rfl,zR x y z h d⟩
theorem zS:∀x y:List UInt8,x≠y->lessB x y=true\/ lessB y x=true
 | [], [],h=>absurd rfl h
 | [],_::_,_=>.inl rfl
 | _::_, [],_=>.inr rfl
 | a::x,b::y,h=>by
  unfold lessB;simp only[Bool.or_eq_true,Bool.and_eq_true,decide_eq_true_eq]
  rcases UInt8.lt_or_lt_of_ne (a:=a) (b:=b) |>fun f=>(Classical.em (a=b)).imp id f with rfl| c| c
  ·rcases zS x y (fun e=>h (by rw[e]))with c| c
   ·exact .inl (.inr ⟨rfl,c⟩)
   ·exact .inr (.inr ⟨rfl,c⟩)
  ·exact .inl (.inl c)
  ·exact .inr (.inl c)
def pQ(a b:ByteArray):Bool:=lessB a.data.toList b.data.toList
theorem jL(a:ByteArray):pQ a a=false:=xE _
theorem mE{a b c:ByteArray}(h:pQ a b=true)(d:pQ b c=true):pQ a c=true:=zR _ _ _ h d
theorem zbq{a b:ByteArray}(h:pQ a b=true):a≠b:=by
 intro e;subst e;rw[jL]at h;cases h
theorem qB{a b:ByteArray}(h:a≠b):pQ a b=true\/ pQ b a=true:=by
 refine zS _ _ fun e=>h ?_
 cases a;cases b
 simp only at e;rw[Array.toList_inj.1 e]
def rises:List ByteArray->Bool
 | []=>true
 | k::r=>r.all (pQ k)&&rises r
theorem uy:∀(q:List (ByteArray×J)),rises (q.map (·.1))=true->fT q=q
 | [],_=>rfl
 | x::q,h=>by
  simp only[List.map_cons,rises,Bool.and_eq_true]at h;unfold fT;rw[uy q h.2]
  cases q with
  | nil=>rfl
  | cons y q=>
   have h1:=h.1;simp only[List.map_cons,List.all_cons,Bool.and_eq_true]at h1;have:lessB x.1.data.toList y.1.data.toList=true:=h1.1;unfold putK;rw[if_pos this]
theorem IW{ks:List ByteArray}{l:List J}(d:ks.length=l.length)(h:rises ks=true):mapOf ks l=.mk 5 0 aH ks l:=by
 unfold mapOf;have e:(ks.zip l).map (·.1)=ks:=List.map_fst_zip (by omega);have c:(ks.zip l).map (·.2)=l:=List.map_snd_zip (by omega);rw[uy _ (by rw[e];exact h),e,c]
mutual
def inOrd:J->Bool
 | .mk _ _ _ ks l=>rises ks&&inOrdL l
def inOrdL:List J->Bool
 | []=>true
 | j::r=>inOrd j&&inOrdL r
end
theorem Rk{ks:List ByteArray}{k:ByteArray}{r:List ByteArray}(h:rises (ks++k::r)=true):∀x∈ks,x≠k:=by
 induction ks with
 | nil=>intro x c;cases c
 | cons a ks ih=>
  simp only[List.cons_append,rises,Bool.and_eq_true]at h;intro x c
  rcases List.mem_cons.1 c with rfl| c
  ·exact zbq (List.all_eq_true.1 h.1 k (by simp))
  ·exact ih h.2 x c
theorem BM{k:ByteArray}{v:J}{x:ByteArray×J}:∀(q:List (ByteArray×J)),x∈putK k v q↔x=(k,v)\/ x∈q
 | []=>by simp[putK]
 | y::q=>by
  unfold putK
  split
  ·simp
  ·rw[List.mem_cons,BM q,List.mem_cons]
   constructor
   ·rintro(h| h| h)
    ·exact .inr (.inl h)
    ·exact .inl h
    ·exact .inr (.inr h)
   ·rintro(h| h| h)
    ·exact .inr (.inl h)
    ·exact .inl h
    ·exact .inr (.inr h)
theorem EU{x:ByteArray×J}:∀(q:List (ByteArray×J)),x∈fT q↔x∈q
 | []=>Iff.rfl
 | y::q=>by
  unfold fT;rw[BM,EU q,List.mem_cons]
theorem BN{k:ByteArray}{v:J}:∀(q:List (ByteArray×J)),rises (q.map (·.1))=true->(∀x∈q,x.1≠k)->rises ((putK k v q).map (·.1))=true
 | [],_,_=>rfl
 | y::q,h,hn=>by
  simp only[List.map_cons,rises,Bool.and_eq_true]at h;unfold putK
  split
  ·rename_i hl;simp only[List.map_cons,rises,Bool.and_eq_true,List.all_cons];refine⟨⟨hl,List.all_eq_true.2 fun z j=>mE hl (List.all_eq_true.1 h.1 z j)⟩,h.1,h.2⟩
  ·rename_i hl;have f:pQ y.1 k=true:=by
    rcases qB (hn y (by simp))with d| d
    ·exact d
    ·exact absurd d hl
   simp only[List.map_cons,rises,Bool.and_eq_true];refine⟨List.all_eq_true.2 fun z j=> ?_,BN q h.2 fun x c=>hn x (by simp[c])⟩;obtain⟨x,c,rfl⟩:=List.mem_map.1 j
   rcases(BM q).1 c with rfl| c
   ·exact f
   ·exact List.all_eq_true.1 h.1 _ (List.mem_map.2 ⟨x,c,rfl⟩)
def zbr(q:List (ByteArray×J)):Prop:=q.Pairwise fun x y=>x.1≠y.1
theorem lK:∀(q:List (ByteArray×J)),zbr q->rises ((fT q).map (·.1))=true
 | [],_=>rfl
 | y::q,h=>by
  unfold fT;have c:=List.pairwise_cons.1 h;exact BN _ (lK q c.2) fun x d=>(c.1 x ((EU q).1 d)).symm
theorem zT{k:ByteArray}{v:J}:∀(q:List (ByteArray×J)),(putK k v q).length=q.length+1
 | []=>rfl
 | y::q=>by
  unfold putK
  split
  ·rfl
  ·simp[zT q]
theorem rU:∀(q:List (ByteArray×J)),(fT q).length=q.length
 | []=>rfl
 | y::q=>by unfold fT;rw[zT,rU q];rfl
open Go.RowKit
structure ag(S:Nat->Prop)(w w':World):Prop where
 os:w'.os=w.os
 tape:w'.tape=w.tape
 output:w'.output=w.output
 size:w.heap.size<=w'.heap.size
 block:∀k,k<w.heap.size->¬S k->w'.heap[k]?=w.heap[k]?
theorem ag.refl(S:Nat->Prop)(w:World):ag S w w:=⟨rfl,rfl,rfl,Nat.le_refl _,fun _ _ _=>rfl⟩
theorem ag.trans{S S':Nat->Prop}{a b c:World}(h:ag S a b)(k:ag S' b c)(m:∀i,i<a.heap.size->S' i->S i):ag S a c:=
 ⟨k.os.trans h.os,k.tape.trans h.tape,k.output.trans h.output,Nat.le_trans h.size k.size,fun i d f=>(k.block i (Nat.lt_of_lt_of_le d h.size) (fun j=>f (m i d j))).trans (h.block i d f)⟩
theorem ag.then{S:Nat->Prop}{a b c:World}(h:ag S a b)(k:ag S b c):ag S a c:=h.trans k fun _ _ h=>h
theorem ag.mono{S S':Nat->Prop}{a b:World}(h:ag S a b)(j:∀i,i<a.heap.size->S i->S' i):ag S' a b:=
 ⟨h.os,h.tape,h.output,h.size,fun i c f=>h.block i c fun d=>f (j i c d)⟩
theorem ag.fJ{S:Nat->Prop}{a b:World}(h:Below a.heap.size a b):ag S a b:=⟨h.os,h.tape,h.output,h.size,fun k c _=>h.block k c⟩
theorem ag.dt{S:Nat->Prop}{a b:World}{row:Option Nat}(h:a.grownBy b row)(d:∀k,k<a.heap.size->row=some k->S k):ag S a b:=
 ⟨h.os,h.tape,h.output,h.size,fun k c f=>h.block k c fun e=>f (d k c e.symm)⟩
theorem ag.below{S:Nat->Prop}{a b:World}(h:ag S a b){B:Nat}(d:B<=a.heap.size)(f:∀k,k<B->¬S k):Below B a b:=
 ⟨h.os,h.tape,h.output,h.size,fun k c=>h.block k (Nat.lt_of_lt_of_le c d) (f k c)⟩
theorem ag.cell{S:Nat->Prop}{a b:World}(h:ag S a b){p:Addr}(c:p.block<a.heap.size)(d:¬S p.block):b.cell? p=a.cell? p:=World.cell?_of_block (h.block _ c d)
theorem ag.drew{S:Nat->Prop}{a b:World}(h:ag S a b):ag S a b.drew:=⟨h.os,h.tape,h.output,h.size,h.block⟩
theorem ag.drewN{S:Nat->Prop}{a b:World}(h:ag S a b)(n:Nat):ag S a (b.drewN n):=⟨h.os,h.tape,h.output,h.size,h.block⟩
theorem ag.alloc{S:Nat->Prop}{a b:World}(h:ag S a b)(o:Obj):ag S a (b.alloc o):=
 h.trans (S':=fun _=>False) (ag.fJ ((Below.refl _ _).alloc (Nat.le_refl _) o)) fun _ _ h=>h.elim
theorem ag.setCell{S:Nat->Prop}{a b:World}(h:ag S a b){p:Addr}(f:p.block<a.heap.size->S p.block)(u:Value):ag S a (b.setCell p u):=
 ⟨h.os,h.tape,h.output,by rw[show(b.setCell p u).heap.size=b.heap.size by simp];exact h.size,fun k c d=>by
  rw[Below.heap_setCell b p u k (fun e=>d (e ▸ f (e ▸ c)))];exact h.block k c d⟩
theorem aX{S:Nat->Prop}{w w':World}{B e size n:Nat}{v:Value}{xs:List Value}(h:w.ownsRow B e size v n xs)(j:ag S w w')(m:∀k,v.ownBlock=some k->¬S k):w'.ownsRow B e size v n xs:=by
 refine⟨h.1, ?_⟩
 rcases h.2 with f| ⟨g,cap,cur,rfl,d,c,rest⟩
 ·exact .inl f
 ·exact .inr ⟨g,cap,cur,rfl,d,by rw[j.block g (Array.getElem?_eq_some_iff.1 c).1 (m g rfl)];exact c,rest⟩
def j5(O:Nat->Prop)(w:World)(p:Option Addr)(c:Nat)(ks:List ByteArray):Prop:=
 ks.length<=c/\∀j,j<ks.length->∃a,p=some a/\O a.block/\w.cell? (a.add j)=some (.string (ks.getD j aH))
theorem j5.nil(O:Nat->Prop)(w:World):j5 O w none 0 []:=⟨Nat.le_refl _,fun j c=>absurd c (by simp)⟩
theorem j5.carry{O O':Nat->Prop}{w w':World}{p:Option Addr}{c:Nat}{ks:List ByteArray}(h:j5 O w p c ks)(f:∀k,O k->O' k/\w'.heap[k]?=w.heap[k]?):j5 O' w' p c ks:=
 ⟨h.1,fun j x=>by
  obtain⟨a,u,d,m⟩:=h.2 j x;exact⟨a,u,(f _ d).1,(World.cell?_of_block (by rw[bu];exact(f _ d).2)).trans m⟩⟩
mutual
def isJ(O:Nat->Prop)(w:World):J->List Value->Prop
 | .mk k i t ks l,cs=>∃pk ck pl cl,cs= [.int .i64 k,.int .i64 i,.string t,.slice pk ks.length ck,.slice pl l.length cl]/\j5 O w pk ck ks/\l.length<=cl/\isJs O w pl 0 l
def isJs(O:Nat->Prop)(w:World)(p:Option Addr):Nat->List J->Prop
 | _, []=>True
 | n,j::r=>(∃b o cs,p=some ⟨b,o,none⟩/\O b/\(∀i v,cs[i]?=some v->w.cell? ⟨b,o+n*5+i,none⟩=some v)/\isJ O w j cs)/\isJs O w p (n+1) r
end
mutual
theorem isJ.carry{O O':Nat->Prop}{w w':World}(c:∀k,O k->O' k/\w'.heap[k]?=w.heap[k]?):∀(j:J) (cs:List Value),isJ O w j cs->isJ O' w' j cs
 | .mk k i t ks l,cs,h=>by
  unfold isJ at h ⊢;obtain⟨pk,ck,pl,cl,e,h1,h2,h3⟩:=h;exact⟨pk,ck,pl,cl,e,h1.carry c,h2,isJs.carry c pl 0 l h3⟩
theorem isJs.carry{O O':Nat->Prop}{w w':World}(c:∀k,O k->O' k/\w'.heap[k]?=w.heap[k]?)(p:Option Addr):∀(n:Nat) (l:List J),isJs O w p n l->isJs O' w' p n l
 | _, [],_=>by unfold isJs;trivial
 | n,j::r,h=>by
  unfold isJs at h ⊢;obtain⟨⟨b,o,cs,z,d,f,u⟩,m⟩:=h;exact⟨⟨b,o,cs,z,(c _ d).1,fun i v x=>(World.cell?_of_block (a:=⟨b,o+n*5+i,none⟩) (c _ d).2).trans (f i v x),isJ.carry c j cs u⟩,isJs.carry c p (n+1) r m⟩
end
theorem isJs.at{O:Nat->Prop}{w:World}{p:Option Addr}:∀(l:List J) (n i:Nat),isJs O w p n l->i<l.length→
    ∃b o cs,p=some ⟨b,o,none⟩/\O b/\(∀m v,cs[m]?=some v->w.cell? ⟨b,o+(n+i)*5+m,none⟩=some v)/\isJ O w (l.getD i J.zero) cs
 | [],_,_,_,hi=>absurd hi (by simp)
 | j::r,n,0,h,_=>by
  unfold isJs at h;simpa using h.1
 | j::r,n,i+1,h,hi=>by
  unfold isJs at h;have:=isJs.at r (n+1) i h.2 (by simpa using hi);rw[show n+1+i=n+(i+1) by omega]at this;simpa using this
def isRow(O:Nat->Prop)(w:World):List J->List Value->Prop
 | [],xs=>xs= []
 | j::r,xs=>∃cs ys,xs=cs++ys/\cs.length=5/\isJ O w j cs/\isRow O w r ys
theorem isRow.carry{O O':Nat->Prop}{w w':World}(c:∀k,O k->O' k/\w'.heap[k]?=w.heap[k]?):∀(l:List J) (xs:List Value),isRow O w l xs->isRow O' w' l xs
 | [],_,h=>h
 | _::r,_,⟨cs,ys,e,h5,hj,hr⟩=>⟨cs,ys,e,h5,hj.carry c,isRow.carry c r ys hr⟩
theorem isRow.snoc{O:Nat->Prop}{w:World}{j:J}{cs:List Value}(h5:cs.length=5)(c:isJ O w j cs):∀(l:List J) (xs:List Value),isRow O w l xs->isRow O w (l++ [j]) (xs++cs)
 | [],xs,h=>by
  have h:xs= []:=h;subst h;exact⟨cs, [],by simp,h5,c,rfl⟩
 | i::r,xs,⟨ds,ys,e,h5',hi,hr⟩=>⟨ds,ys++cs,by rw[e,List.append_assoc],h5',hi,isRow.snoc h5 c r ys hr⟩
theorem isRow.isJs{O:Nat->Prop}{w:World}{b o:Nat}(d:O b):∀(l:List J) (xs:List Value) (n:Nat),isRow O w l xs->(∀i v,xs[i]?=some v->w.cell? ⟨b,o+n*5+i,none⟩=some v)->isJs O w (some ⟨b,o,none⟩) n l
 | [],_,_,_,_=>by unfold Go.Proofs.YtldkblgclochjaaGreatDoor.isJs;trivial
 | j::r,xs,n,⟨cs,ys,e,h5,hj,hr⟩,hc=>by
  unfold Go.Proofs.YtldkblgclochjaaGreatDoor.isJs;refine⟨⟨b,o,cs,rfl,d,fun i v c=>hc i v ?_,hj⟩,isRow.isJs d r ys (n+1) hr fun i v c=> ?_⟩
  ·rw[e,List.getElem?_append_left (List.getElem?_eq_some_iff.1 c).1];exact c
  ·have:=hc (5+i) v (by rw[e,List.getElem?_append_right (by omega),h5];simpa using c);rw[show o+(n+1)*5+i=o+n*5+(5+i) by omega];exact this
theorem isJ.qC{O:Nat->Prop}{w:World}{j:J}{cs:List Value}(h:isJ O w j cs):cs.length=5:=by
 cases j
 unfold isJ at h;obtain⟨_,_,_,_,rfl,_⟩:=h
 rfl
theorem uz(O:Nat->Prop)(w:World):isJ O w J.zero [.int .i64 0,.int .i64 0,.string aH,.slice none 0 0,.slice none 0 0]:=by
 unfold J.zero isJ;exact⟨none,0,none,0,rfl,j5.nil _ _,Nat.le_refl _,by unfold isJs;trivial⟩
theorem Tryz.IX:(Tryz.prog.info? 5).map (fun i=>(i.zero,i.size,i.bytes))=some (some (.int .u8 0),1,1):=by kernel_rfl
theorem o5{w:World}{dQ:Array Oper}{rest:List Oper}{o:Oper}{a:Act}{Q:Exit->Act->World->Prop}(V:o.guard=none)(s x:Operand)(t e:TypeId)(k:IntKind)(bytes:Nat)
    (F:o.op=.call {callee:=.builtin .append,args:=#[s,x],argTypes:=#[t,t]}) (A:Tryz.prog.underlying t=some (.slice e))
    (G:(Tryz.prog.info? e).map (fun i=>(i.zero,i.size,i.bytes))=some (some (.int k 0),1,bytes)) (K:bytes<=8)
    (base:Nat) (v:Value) (L:List Int) (Z:a.eval s=v) (X:w.ownsRow base e 1 v L.length (L.map (Value.int k)))
    (f:Addr) (y:Int) (Y:a.eval x=.slice (some f) 1 1) (z:w.cell? f=some (.int k y)) (cB:L.length<=1000000000) (S:base<=w.heap.size)
    (h:∀c w',w'.ownsRow base e 1 c (L++ [y]).length ((L++ [y]).map (Value.int k))->w.grownBy w' v.ownBlock->wpList Tryz.prog dQ Q rest (a.put o.dst c) w'):wpList Tryz.prog dQ Q (o::rest) a w:=by
 obtain⟨i0,U,E,T,N⟩:=info_parts G;refine wpList_append_own w V s x t F base e i0 (.int k 0) 1 bytes A U E T N rfl (by decide) v L.length (L.map (Value.int k)) Z X f 1 1 [.int k y] Y rfl (fun j u d=> ?_) (fun u m=> ?_) (by unfold maxLen;omega) ?_ S ?_
 ·match j,d with
  | 0,d=>simp at d;subst d;simpa [Addr.add]using z
 ·simp at m;subst m;rfl
 ·have:(L.length+1)*bytes<=(L.length+1)*8:=Nat.mul_le_mul_left _ K;omega
 ·intro c w' H I _;exact h c w' (by rw[List.length_append,List.map_append];exact H) I
theorem Ms{w:World}{B:Nat}{v:Value}{xs:List Int}(h:w.ownsRow B 5 1 v xs.length (xs.map (Value.int .u8))):
    (convert 36 9 v).run Tryz.prog w=.ok (.string (strOfNums xs)) w:=by
 rcases h.2 with⟨rfl,d⟩| ⟨g,cap,cur,rfl,f,_⟩
 ·obtain rfl:xs= []:=List.eq_nil_of_length_eq_zero d;exact run_convert_bytes_nil w 36 5 Tryz.underlying36 Tryz.underlying5 0 0 9 Tryz.underlying9
 ·refine run_convert_bytes_arg w 36 5 Tryz.underlying36 Tryz.underlying5 g 0 xs.length cap xs rfl (fun i c=> ?_) 9 Tryz.underlying9;rw[Nat.zero_add,h.cellAt i (by omega),List.getElem?_map,List.getElem?_eq_getElem c,List.getD_eq_getElem?_getD,List.getElem?_eq_getElem c]
  rfl
theorem aJ{w:World}{B e size n:Nat}{v:Value}{xs:List Value}(h:w.ownsRow B e size v n xs):∀k,v.ownBlock=some k->B<=k/\k<w.heap.size:=by
 intro k c
 rcases h.2 with⟨rfl,_⟩| ⟨g,cap,cur,rfl,f,d,_⟩
 ·cases c
 ·cases c;exact⟨f,(Array.getElem?_eq_some_iff.1 d).1⟩
theorem ag.grown{S:Nat->Prop}{a b c:World}{row:Option Nat}(h:ag S a b)(f:b.grownBy c row)(d:∀k,row=some k->a.heap.size<=k):ag S a c:=
 h.trans (S':=fun k=>row=some k) (ag.dt f fun _ _ e=>e) fun i j e=>absurd (d i e) (by omega)
end Go.Proofs.YtldkblgclochjaaGreatDoor

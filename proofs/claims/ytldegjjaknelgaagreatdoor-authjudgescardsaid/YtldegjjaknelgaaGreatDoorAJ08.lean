/- A part. -/
import Derived.Test.YtldegjjaknelgaaGreatDoorAJ07
import Derived.Lib.SlBytesConst
import Derived.Deep.Cut
import Derived.RangeFuncNested
set_option maxRecDepth 100000
set_option maxHeartbeats 64000000
namespace Go.Proofs.YtldegjjaknelgaaGreatDoor
open Go.RowKit
theorem jW(n:Int)(h0:0<=n)(w:World):Calls Tryz.prog 99 #[.int .i64 n] w fun x w'=>x=.returned (.bool (dz n))/\w=w':=by
 by_cases h1:n<=1114111
 ·by_cases h2:n<55296
  ·have HL:Hid (dz n=true):=by show _=_;unfold dz;simp[h1,h2]
   go_enter Tryz.func99,Tryz.ntmps99;go_wp2;go_ret;refine⟨aj ?_,rfl⟩
   first| exact HL.out.symm| (rw[HL.out];simp;omega)
  ·have HL:Hid (dz n=decide (57344<=n)):=by show _=_;unfold dz;simp[h1,h2]
   go_enter Tryz.func99,Tryz.ntmps99;go_wp2;go_ret;refine⟨aj ?_,rfl⟩;rw[HL.out,decide_eq_decide];omega
 ·have HL:Hid (dz n=false):=by show _=_;unfold dz;simp[h1]
  go_enter Tryz.func99,Tryz.ntmps99;go_wp2;go_ret;refine⟨aj ?_,rfl⟩
  first| exact HL.out.symm| (rw[HL.out];simp;omega)
def Runes:Prop:=∀(s:ByteArray) (p:Nat) (w:World),p<s.size->s.size<=1000000000→
 Calls Tryz.prog 70 #[.string s,.int .i64 p] w fun x w'=>x=.returned (.tuple #[.int .i64 (bN (ints s) p).1,.int .i64 ((bN (ints s) p).2:Nat)])/\w=w'
def BV(r:Option Nat):Int:=match r with
 | none=> -1
 | some p=>p
theorem C8(V:Runes)(s:ByteArray)(w:World)(hs:s.size<=1000000000):Calls Tryz.prog 36 #[.string s] w fun x w'=>x=.returned (.int .i64 (BV (iO (ints s))))/\w=w':=by
 go_enter Tryz.func36,Tryz.ntmps36;go_wp2
 go_loopw [3] (fun i wr=>∃(p m:Nat),i=.int .i64 p/\p<=s.size+4/\s.size<=p+m/\strayL (ints s) m p=iO (ints s)/\wr=w) (fun i _=>s.size - (intOf i).toNat)
 case atStart=>exact⟨0,s.size,rfl,by omega,by omega,by unfold iO;rw[aM],rfl⟩
 case round=>
  obtain⟨p,m,rfl,UY,hpm,lG,rfl⟩:=hrel;have HS:Hid (strayL (ints s) m p=iO (ints s)):=lG;clear lG
  by_cases hp:p<s.size
  ·have hpc:(p:Int)<(s.size:Int):=by omega
   have hV:=V s p wr hp hs;obtain⟨m,rfl⟩:∃m',m=m'+1:=⟨m - 1,by omega⟩;unfold strayL at HS;rw[aM,if_pos hp]at HS;have II:=yM (ints s) p;obtain⟨⟨c,wd⟩,hr⟩:∃r,bN (ints s) p=r:=⟨_,rfl⟩;rw[hr]at HS hV II;simp only at HS hV II;clear hr
   by_cases h0:wd=0
   ·subst h0;rw[if_pos rfl]at HS;go_wp2_with(go_at_call 70;refine hV.mono ?_;rintro x w' ⟨rfl,rfl⟩);go_ret;rw[<-HS.out];exact⟨rfl,rfl⟩
   ·rw[if_neg h0]at HS;have hwi:(wd:Int)≠0:=by omega
    go_wp2_with(go_at_call 70;refine hV.mono ?_;rintro x w' ⟨rfl,rfl⟩);go_roundw
    case rel=>exact⟨p+wd,m,by go_num,by omega,by omega,HS.out,trivial⟩
    case measure=>simp[intOf];omega
  ·go_wp2;go_ret;have hn:strayL (ints s) m p=none:=by
    cases m with
    | zero=>rfl
    | succ m=>unfold strayL;rw[aM,if_neg hp]
   rw[<-HS.out,hn];exact⟨rfl,rfl⟩
theorem gy{B:Nat}{a b c:World}(h:Below B a b)(hB:B<=b.heap.size)(g:Below b.heap.size b c):Below B a c:=h.trans ⟨g.os,g.tape,g.output,g.size,fun k hk=>g.block k (by omega)⟩
theorem Fg{ks:List ByteArray}{m:Nat}(hm:m<ks.length):ks.getD m aT=ks[m]:=by
 rw[List.getD_eq_getElem?_getD,List.getElem?_eq_getElem hm];rfl
theorem ky:∀(d e:Nat) (j:J),d<=e->szJ e j=true->szJ d j=true
 | 0,_,_,_,_=>by unfold szJ;rfl
 | d+1,0,_,h,_=>by omega
 | d+1,e+1,.mk k i t ks l,h,hs=>by
  unfold szJ at hs ⊢;simp only[Bool.and_eq_true]at hs ⊢;refine⟨hs.1,hs.2.1,hs.2.2.1,hs.2.2.2.1, ?_⟩;rw[List.all_eq_true];intro x hx;exact ky d e x (by omega) (List.all_eq_true.1 hs.2.2.2.2 x hx)
def eG(j:J):J:=if goodJ 12 j=true then ord j else J.zero
theorem U5{w:World}(o1 o2:Obj):((w.alloc o1).alloc o2).heap[w.heap.size+1]?=some o2:=by
 have:=heap_alloc_new (w.alloc o1) o2;simpa using this
theorem xA{w w2 w3:World}(h:Below w.heap.size w w2)(hk:ay (One (w.heap.size+1)) w2 w3):Below w.heap.size w w3:=
 h.trans (hk.below h.size fun k U6 e=>by unfold One at e;omega)
theorem Ov{w:World}{O:Nat->Prop}{j:J}{k i:Int}{t:ByteArray}{pk pl:Option Addr}{nk ck nl cl:Nat}(hO:∀x,O x->x<w.heap.size)(fK:szJ 12 j=true)
    (hj:isJ O w j [.int .i64 k,.int .i64 i,.string t,.slice pk nk ck,.slice pl nl cl]):
    Calls Tryz.prog 143 #[.agg #[.int .i64 k,.int .i64 i,.string t,.slice pk nk ck,.slice pl nl cl]] w fun x w'=>(∃kr ir tr pr nr cr qr mr dr,x=.returned (.agg #[.int .i64 kr,.int .i64 ir,.string tr,.slice pr nr cr,.slice qr mr dr])/\isJ (fun b=>b<w'.heap.size) w' (eG j) [.int .i64 kr,.int .i64 ir,.string tr,.slice pr nr cr,.slice qr mr dr])/\Below w.heap.size w w':=by
 have CS:Below w.heap.size w ((w.alloc (.cells #[.int .i64 k,.int .i64 i,.string t,.slice pk nk ck,.slice pl nl cl] 25)).alloc (.cells #[.int .i64 0,.int .i64 0,.string ⟨#[]⟩,.slice none 0 0,.slice none 0 0] 25)):=((Below.refl _ _).alloc (Nat.le_refl _) _).alloc (by simp) _;obtain⟨wB,vD⟩:∃wB,wB=((w.alloc (.cells #[.int .i64 k,.int .i64 i,.string t,.slice pk nk ck,.slice pl nl cl] 25)).alloc (.cells #[.int .i64 0,.int .i64 0,.string ⟨#[]⟩,.slice none 0 0,.slice none 0 0] 25)):=⟨_,rfl⟩;have hA:wB.heap[w.heap.size]?=some (.cells #[.int .i64 k,.int .i64 i,.string t,.slice pk nk ck,.slice pl nl cl] 25 (0,0)):=by
  rw[vD,Below.heap_alloc _ _ _ (by simp)];exact heap_alloc_new _ _
 have hR:wB.heap[w.heap.size+1]?=some (.cells #[.int .i64 0,.int .i64 0,.string ⟨#[]⟩,.slice none 0 0,.slice none 0 0] 25 (0,0)):=by rw[vD];exact U5 _ _
 rw[<-vD]at CS;have YW:∀x,O x->x<wB.heap.size:=fun x hx=>Nat.lt_of_lt_of_le (hO x hx) CS.size;have P9:=hj.carry (O':=O) (w':=wB) fun x hx=>⟨hx,CS.block x (hO x hx)⟩;have hG:=zu YW fK P9;have hsA:w.heap.size<wB.heap.size:=(Array.getElem?_eq_some_iff.1 hA).1;have YS:w.heap.size+1<wB.heap.size:=(Array.getElem?_eq_some_iff.1 hR).1;have c0:=yx hA
 cases hg:goodJ 12 j with
 | false=>
  have HZ:Hid (eG j=J.zero):=by show _=_;unfold eG;rw[hg];rfl
  rw[hg]at hG;rw[vD]at hG;clear hj P9 c0;go_enter Tryz.func143,Tryz.ntmps143;go_wp2_with(go_at_call 110;refine hG.mono ?_;rintro x w2 ⟨rfl,aY⟩;rw[<-vD]at aY;have jq:=(aY.block _ YS).trans hR;obtain⟨i0,i1,i2,i3,i4⟩:=aU jq;obtain⟨z0,z1,z2,z3,z4⟩:=fZ jq);have h5:=dS jq (.int .i64 0) (.int .i64 0) (.string ⟨#[]⟩) (.slice none 0 0) (.slice none 0 0);have eD:ay (One (w.heap.size+1)) w2 _:=dU w2 (w.heap.size+1) (.int .i64 0) (.int .i64 0) (.string ⟨#[]⟩) (.slice none 0 0) (.slice none 0 0);unfold lN at h5 eD;obtain⟨k0,k1,k2,k3,k4⟩:=aU h5;refine bodyPost_ret (v:=.agg #[.int .i64 0,.int .i64 0,.string ⟨#[]⟩,.slice none 0 0,.slice none 0 0]) (by simp[results,Tryz.results143,go_sem,k0,k1,k2,k3,k4]) rfl ?_;refine⟨⟨_,_,_,_,_,_,_,_,_,rfl, ?_⟩,xA (av CS aY) eD⟩;rw[HZ.out];exact yL _ _
 | true=>
  have HZ:Hid (eG j=ord j):=by show _=_;unfold eG;rw[hg];rfl
  have Xf:Hid (goodJ 12 j=true):=hg;have HJ:Hid (isJ O wB j [.int .i64 k,.int .i64 i,.string t,.slice pk nk ck,.slice pl nl cl]):=P9;rw[hg]at hG;rw[vD]at hG;clear hj P9 hg c0;go_enter Tryz.func143,Tryz.ntmps143;go_wp2_with(first
   | (go_at_call 110;refine hG.mono ?_;rintro x w2 ⟨rfl,aY⟩
      rw[<-vD]at aY;have YX:=(aY.block _ hsA).trans hA;obtain⟨c0,c1,c2,c3,c4⟩:=aU YX;have YY:=U2 12 w2 O j k i t pk pl nk ck nl cl (fun x hx=>Nat.lt_of_lt_of_le (YW x hx) aY.size) Xf.out fK (HJ.out.carry fun x hx=>⟨hx,aY.block x (YW x hx)⟩))
   | (go_at_call 112;refine YY.mono ?_;rintro x w4 ⟨kr,ir,tr,pr,nr,cr,qr,mr,dr,rfl,Ht,dF⟩
      have vE:=av aY dF;have jq:=(vE.block _ YS).trans hR;obtain⟨i0,i1,i2,i3,i4⟩:=aU jq;obtain⟨z0,z1,z2,z3,z4⟩:=fZ jq))
  have h5:=dS jq (.int .i64 kr) (.int .i64 ir) (.string tr) (.slice pr nr cr) (.slice qr mr dr);have eD:ay (One (w.heap.size+1)) w4 _:=dU w4 (w.heap.size+1) (.int .i64 kr) (.int .i64 ir) (.string tr) (.slice pr nr cr) (.slice qr mr dr);unfold lN at h5 eD;obtain⟨k0,k1,k2,k3,k4⟩:=aU h5;refine bodyPost_ret (v:=.agg #[.int .i64 kr,.int .i64 ir,.string tr,.slice pr nr cr,.slice qr mr dr]) (by simp[results,Tryz.results143,go_sem,k0,k1,k2,k3,k4]) rfl ?_;refine⟨⟨_,_,_,_,_,_,_,_,_,rfl, ?_⟩,xA (av CS vE) eD⟩;rw[HZ.out];refine Ht.carry fun x hx=> ?_;have bQ:x<w4.heap.size/\x≠w.heap.size+1:=by
   have s2:=aY.size;have s4:=dF.size
   rcases hx with hx| hx
   ·have:=hO x hx;exact⟨by have:=CS.size;omega,by omega⟩
   ·have:=hx.1;exact⟨hx.2,by omega⟩
  exact⟨Nat.lt_of_lt_of_le bQ.1 eD.size,eD.block x bQ.1 (by unfold One;exact bQ.2)⟩
abbrev jl:=List (ByteArray×Int)
theorem Fh{a b:ByteArray}(h:a.toList=b.toList):a=b:=by
 rw[Lib.toList_data,Lib.toList_data]at h
 cases a;cases b
 exact congrArg ByteArray.mk (Array.toList_inj.1 h)
theorem iU{a b:ByteArray}:(a.toList==b.toList)=true↔a=b:=by
 constructor
 ·intro h;exact Fh (by simpa using h)
 ·rintro rfl;simp
def fnd:jl->ByteArray->Option Int
 | [],_=>none
 | p::r,s=>if p.1.toList==s.toList then some p.2 else fnd r s
theorem fnd_append(a b:jl)(s:ByteArray):fnd (a++b) s=match fnd a s with| some x=>some x| none=>fnd b s:=by
 induction a with
 | nil=>rfl
 | cons p r ih=>
  simp only[List.cons_append,fnd]
  split
  ·rfl
  ·exact ih
theorem jZ{α:Type}{l:List α}{k:Nat}{z:α}(h:k<l.length):l.take (k+1)=l.take k++ [l.getD k z]:=by
 rw[List.take_add_one,List.getElem?_eq_getElem h,List.getD_eq_getElem?_getD,List.getElem?_eq_getElem h];rfl
theorem BX{α:Type}{l:List α}{k:Nat}{z:α}(h:k<l.length):l=l.take k++(l.getD k z::l.drop (k+1)):=by
 rw[List.getD_eq_getElem?_getD,List.getElem?_eq_getElem h,Option.getD_some,<-List.drop_eq_getElem_cons h,List.take_append_drop]
abbrev zN:ByteArray×Int:=(⟨#[]⟩,0)
theorem Fj{l:jl}{s:ByteArray}{k:Nat}(h:fnd (l.take k) s=none)(hk:k<l.length)(he:((l.getD k zN).1.toList==s.toList)=false):fnd (l.take (k+1)) s=none:=by
 rw[jZ (z:=zN) hk,fnd_append,h];simp only[fnd,he]
 rfl
theorem ML{l:jl}{s:ByteArray}{k:Nat}(h:fnd (l.take k) s=none)(hk:k<l.length)(he:((l.getD k zN).1.toList==s.toList)=true):fnd l s=some (l.getD k zN).2:=by
 conv=>lhs;rw[BX (z:=zN) hk,fnd_append,h]
 simp only[fnd,he,if_pos]
structure Lv where
 nN:Int
 h_:Int
 dA:Int
 fM:Int
 state:Int
 events:Int
 iB:Int
 dP:jl
 dQ:jl
def pY(l:Lv)(u:ByteArray):Int:=(fnd l.dP u).getD l.iB
def pg(l:Lv)(t:ByteArray)(st:Bool):Int:=(fnd l.dQ t).getD (if st then l.state else l.events)
abbrev uE:ByteArray:=⟨#[98,97,110]⟩
abbrev mI:ByteArray:=⟨#[107,105,99,107]⟩
abbrev ic:ByteArray:=⟨#[105,110,118,105,116,101]⟩
abbrev ig:ByteArray:=⟨#[114,101,100,97,99,116]⟩
abbrev jG:ByteArray:=⟨#[115,116,97,116,101,95,100,101,102,97,117,108,116]⟩
abbrev il:ByteArray:=⟨#[101,118,101,110,116,115,95,100,101,102,97,117,108,116]⟩
abbrev jH:ByteArray:=⟨#[117,115,101,114,115,95,100,101,102,97,117,108,116]⟩
abbrev gp:ByteArray:=⟨#[117,115,101,114,115]⟩
abbrev gq:ByteArray:=⟨#[101,118,101,110,116,115]⟩
def nums(l:Lv):jl:= [(uE,l.nN),(mI,l.h_),(ic,l.dA),(ig,l.fM),(jG,l.state),(il,l.events),(jH,l.iB)]
structure iw where
 name:ByteArray
 Hu:Option Int
 next:Option Int
def zx(a b:jl)(p:ByteArray×Int):iw:=⟨p.1,fnd a p.1,fnd b p.1⟩
def iw.turns(c:iw):Bool:= !(c.Hu==c.next)
def yz(a b l:jl):List iw:=(l.map (zx a b)).filter iw.turns
theorem Q6(a b l:jl)(p:ByteArray×Int):yz a b (l++ [p])=if(zx a b p).turns=true then yz a b l++ [zx a b p]else yz a b l:=by
 unfold yz;rw[List.map_append,List.filter_append]
 by_cases h:(zx a b p).turns=true
 ·rw[if_pos h];simp[h]
 ·rw[if_neg h];simp[h]
theorem U7(a b l:jl):(yz a b l).length<=l.length:=by
 unfold yz;exact Nat.le_trans (List.length_filter_le _ _) (by simp)
def over(s:Int):Option Int->Bool
 | none=>false
 | some x=>decide (s<x)
def least(s:Int):Option Int->Bool
 | none=>false
 | some x=>decide (s<=x)
def iw.gJ(s:Int)(c:iw):Bool:=over s c.Hu || over s c.next
def iw.bad(u:ByteArray)(s:Int)(c:iw):Bool:=c.gJ s || (!(c.name.toList==u.toList)&&least s c.Hu)
def quiet(f:iw->Bool)(a b:jl):Bool:= !(yz a b (a++b)).any f
def Bb(a b:Lv)(u:ByteArray):Bool:=quiet (iw.gJ (pY a u)) (nums a) (nums b)&&(quiet (iw.gJ (pY a u)) a.dQ b.dQ&&quiet (iw.bad u (pY a u)) a.dP b.dP)
theorem Ow(b o j:Nat):(⟨b,o,none⟩:Addr).add j=⟨b,o+j,none⟩:=by unfold Addr.add;split<;>simp_all
def ib(O:Nat->Prop)(w:World)(p:Option Addr)(c:Nat)(l:jl):Prop:=
 (l.length<=c/\(p=none->c=0))/\(l≠ []->∃b o,p=some ⟨b,o,none⟩/\O b/\∀j x,l[j]?=some x->w.cell? ⟨b,o+j*2,none⟩=some (.string x.1)/\w.cell? ⟨b,o+j*2+1,none⟩=some (.int .i64 x.2))
theorem ib.nil(O:Nat->Prop)(w:World)(p:Option Addr)(c:Nat)(h:p=none->c=0):ib O w p c []:=⟨⟨Nat.zero_le _,h⟩,fun h=>absurd rfl h⟩
theorem ib.carry{O O':Nat->Prop}{w w':World}{p:Option Addr}{c:Nat}{l:jl}(h:ib O w p c l)(hO:∀k,O k->O' k/\w'.heap[k]?=w.heap[k]?):ib O' w' p c l:=
 ⟨h.1,fun hn=>by
  obtain⟨b,o,hp,hb,hc⟩:=h.2 hn;exact⟨b,o,hp,(hO b hb).1,fun j x hj=>⟨(World.cell?_of_block (hO b hb).2).trans (hc j x hj).1,(World.cell?_of_block (hO b hb).2).trans (hc j x hj).2⟩⟩⟩
theorem ib.below{O:Nat->Prop}{w w':World}{p:Option Addr}{c:Nat}{l:jl}{B:Nat}(h:ib O w p c l)(hO:∀k,O k->k<B)(hb:Below B w w'):ib O w' p c l:=h.carry fun k hk=>⟨hk,hb.block k (hO k hk)⟩
theorem ib.at{O:Nat->Prop}{w:World}{p:Option Addr}{c:Nat}{l:jl}(h:ib O w p c l){j:Nat}(hj:j<l.length):∃b o,p=some ⟨b,o,none⟩/\O b/\w.cell? ⟨b,o+j*2,none⟩=some (.string (l.getD j zN).1)/\w.cell? ⟨b,o+j*2+1,none⟩=some (.int .i64 (l.getD j zN).2):=by
 obtain⟨b,o,hp,hb,hc⟩:=h.2 (by rintro rfl;simp at hj);have:=hc j (l.getD j zN) (by rw[List.getD_eq_getElem?_getD,List.getElem?_eq_getElem hj];rfl);exact⟨b,o,hp,hb,this.1,this.2⟩
def vU(l:jl):Prop:=l.length<=100000/\∀p∈l,p.1.size<=1000000000
theorem vU.at{l:jl}(h:vU l){j:Nat}(hj:j<l.length):(l.getD j zN).1.size<=1000000000:=by
 rw[List.getD_eq_getElem?_getD,List.getElem?_eq_getElem hj];exact h.2 _ (List.getElem_mem hj)
structure Pl where
 pu:Option Addr
 cu:Nat
 pt:Option Addr
 ct:Nat
abbrev aG(l:Lv)(p:Pl):List Value:= [.int .i64 l.nN,.int .i64 l.h_,.int .i64 l.dA,.int .i64 l.fM,.int .i64 l.state,.int .i64 l.events,.int .i64 l.iB,.slice p.pu l.dP.length p.cu,.slice p.pt l.dQ.length p.ct]
abbrev fA(l:Lv)(p:Pl):Value:=.agg (aG l p).toArray
structure qV(O:Nat->Prop)(w:World)(l:Lv)(p:Pl):Prop where
 us:ib O w p.pu p.cu l.dP
 ty:ib O w p.pt p.ct l.dQ
structure zy(l:Lv):Prop where
 us:vU l.dP
 ty:vU l.dQ
theorem qV.carry{O O':Nat->Prop}{w w':World}{l:Lv}{p:Pl}(h:qV O w l p)(hO:∀k,O k->O' k/\w'.heap[k]?=w.heap[k]?):qV O' w' l p:=⟨h.us.carry hO,h.ty.carry hO⟩
theorem qV.below{O:Nat->Prop}{w w':World}{l:Lv}{p:Pl}{B:Nat}(h:qV O w l p)(hO:∀k,O k->k<B)(hb:Below B w w'):qV O w' l p:=⟨h.us.below hO hb,h.ty.below hO hb⟩
theorem BZ{O:Nat->Prop}{w:World}{p:Option Addr}{c:Nat}{l:jl}(h:ib O w p c l)(hO:∀k,O k->k<w.heap.size)(hz:vU l)(s:ByteArray)(d:Int):
    Calls Tryz.prog 91 #[.slice p l.length c,.string s,.int .i64 d] w fun e w'=>e=.returned (.int .i64 ((fnd l s).getD d))/\Below w.heap.size w w':=by
 obtain⟨n,hn⟩:∃n,l.length=n:=⟨_,rfl⟩;have HN:Hid (l.length=n):=hn;have pR:=hz.1;have hc:=h.1.1;rw[hn]at pR hc ⊢;clear hn;go_enter Tryz.func91,Tryz.ntmps91;go_wp2
 go_loopw [11] (fun i wr=>∃k:Nat,i=.int .i64 k/\k<=n/\fnd (l.take k) s=none/\Below w.heap.size w wr) (fun i _=>n - (intOf i).toNat)
 case atStart=>exact⟨0,rfl,Nat.zero_le _,rfl,Below.refl _ _⟩
 case round=>
  obtain⟨k,rfl,hk,hf,ed⟩:=hrel
  by_cases mW:k<n
  ·have eQ:k<l.length:=by rw[HN.out];exact mW
   obtain⟨b,o,rfl,hb,h1,h2⟩:=h.at eQ;have ED:=(ed.cell (p:=⟨b,o+k*2,none⟩) (hO b hb)).trans h1;have Qs:=(ed.cell (p:=⟨b,o+k*2+1,none⟩) (hO b hb)).trans h2;have Q7:=ed.size;have Oh:=hO b hb
   cases he:((l.getD k zN).1.toList==s.toList)with
   | true=>
    have HF:Hid (fnd l s=some (l.getD k zN).2):=ML hf eQ he;generalize l.getD k zN=x at ED Qs he HF;obtain⟨xn,xl⟩:=x;simp only at ED Qs he;clear h1 h2 hf;go_wp2;go_ret;refine⟨by rw[HF.out];rfl, ?_⟩;exact ed.trans (((Below.refl _ _).alloc Q7 _))
   | false=>
    have HF:Hid (fnd (l.take (k+1)) s=none):=Fj hf eQ he;generalize l.getD k zN=x at ED Qs he;obtain⟨xn,xl⟩:=x;simp only at ED Qs he;clear h1 h2 hf;go_wp2;go_roundw
    case rel=>exact⟨k+1,by simp,by omega,HF.out,ed.trans (((Below.refl _ _).alloc Q7 _))⟩
    case measure=>simp[intOf];omega
  ·obtain rfl:k=n:=by omega
   have HF:Hid (fnd l s=none):=by show _=_;rw[<-List.take_length (l:=l),HN.out];exact hf
   clear hf;go_wp2;go_ret;exact⟨by rw[HF.out];rfl,ed⟩
theorem bz{w:World}(o:Obj):(w.alloc o).heap[w.heap.size]?=some o:=heap_alloc_new w o
theorem ag{a b c:World}(h:Below a.heap.size a b)(g:Below b.heap.size b c):Below a.heap.size a c:=h.trans ⟨g.os,g.tape,g.output,g.size,fun k hk=>g.block k (by have:=h.size;omega)⟩
theorem aP{w:World}{b:Nat}{o:Obj}(h:w.heap[b]?=some o):b<w.heap.size:=(Array.getElem?_eq_some_iff.1 h).1
theorem ai{w:World}{b t:Nat}{cur:Array Value}{fr:Nat×Nat}(h:w.heap[b]?=some (.cells cur t fr))(j:Nat)(v:Value)(hj:cur[j]?=some v):w.cell? ⟨b,j,none⟩=some v:=by
 simp[World.cell?,h,hj]
theorem gB{w:World}{b t:Nat}{cur:Array Value}(h:w.heap[b]?=some (.cells cur t (0,0)))(j:Nat):w.frozen? ⟨b,j,none⟩=false:=frozen_of_row w b j _ _ h
def aJ(b:Nat):Nat->Prop:=fun k=>k=b
def setL(w:World)(b:Nat):Nat->List Value->World
 | _, []=>w
 | i,v::r=>setL (w.setCell ⟨b,i,none⟩ v) b (i+1) r
theorem bS(b:Nat):∀(vs:List Value) (w:World) (i:Nat),ay (aJ b) w (setL w b i vs)
 | [],w,_=>ay.refl _ w
 | v::r,w,i=>by
  unfold setL;exact(ay.setCell (p:=⟨b,i,none⟩) (ay.refl (aJ b) w) (fun _=>(rfl:b=b)) v).then (bS b r _ (i+1))
theorem B_(b t:Nat):∀(vs pre cur:List Value) (w:World),w.heap[b]?=some (.cells (pre++cur).toArray t (0,0))->cur.length=vs.length->(setL w b pre.length vs).heap[b]?=some (.cells (pre++vs).toArray t (0,0))
 | [],pre,cur,w,h,hl=>by
  obtain rfl:cur= []:=List.eq_nil_of_length_eq_zero hl;exact h
 | v::r,pre,c::cur,w,h,hl=>by
  unfold setL;have h0:(w.setCell ⟨b,pre.length,none⟩ v).heap[b]?=some (.cells ((pre++ [v])++cur).toArray t (0,0)):=by
   rw[heap_setCell_same w b pre.length _ _ _ h];simp
  have:=B_ b t r (pre++ [v]) cur _ h0 (by simpa using hl);rw[List.length_append]at this;simpa using this
theorem cZ{w:World}{b t:Nat}{cur:List Value}(vs:List Value)(h:w.heap[b]?=some (.cells cur.toArray t (0,0)))(hl:cur.length=vs.length):(setL w b 0 vs).heap[b]?=some (.cells vs.toArray t (0,0)):=B_ b t vs [] cur w h hl
def flatN:jl->List Value
 | []=> []
 | x::r=>.string x.1::.int .i64 x.2::flatN r
theorem nO:∀l:jl,(flatN l).length=l.length*2
 | []=>rfl
 | x::r=>by simp only[flatN,List.length_cons,nO r];omega
theorem uF:∀a b:jl,flatN (a++b)=flatN a++flatN b
 | [],_=>rfl
 | x::r,b=>by simp only[List.cons_append,flatN,uF r b]
theorem zA:∀(l:jl) (j:Nat) (x:ByteArray×Int),l[j]?=some x->(flatN l)[j*2]?=some (.string x.1)/\(flatN l)[j*2+1]?=some (.int .i64 x.2)
 | [],_,_,h=>by simp at h
 | y::r,0,x,h=>by simp at h;subst h;exact⟨rfl,rfl⟩
 | y::r,j+1,x,h=>by
  have:=zA r j x (by simpa using h);rw[show(j+1)*2=j*2+1+1 by omega];exact this
theorem Q8{w:World}{O:Nat->Prop}{b t o c:Nat}{fr:Nat×Nat}{l:jl}{cur:List Value}(hO:O b)(h:w.heap[b]?=some (.cells cur.toArray t fr))(hl:l.length<=c)(hc:∀j,j<(flatN l).length->cur[o+j]?=(flatN l)[j]?):ib O w (some ⟨b,o,none⟩) c l:=by
 refine⟨⟨hl,fun h=>by cases h⟩,fun _=>⟨b,o,rfl,hO,fun j x hj=> ?_⟩⟩;have bQ:j<l.length:=(List.getElem?_eq_some_iff.1 hj).1;have hf:=zA l j x hj;have hn:=nO l;refine⟨ai h _ _ ?_,ai h _ _ ?_⟩
 ·have:=hc (j*2) (by omega);rw[hf.1]at this;simpa using this
 ·have:=hc (j*2+1) (by omega);rw[hf.2]at this;simpa [Nat.add_assoc]using this
theorem jI{w:World}{O:Nat->Prop}{b t:Nat}{fr:Nat×Nat}{l:jl}(hO:O b)(h:w.heap[b]?=some (.cells (flatN l).toArray t fr)):ib O w (some ⟨b,0,none⟩) l.length l:=
 Q8 hO h (Nat.le_refl _) fun j _=>by rw[Nat.zero_add]
theorem iM{w:World}{b t:Nat}{a0 a1 a2 a3 a4 a5 a6 a7 a8:Value}(h:w.heap[b]?=some (.cells #[a0,a1,a2,a3,a4,a5,a6,a7,a8] t (0,0))):(loadVar 47 ⟨b,0,none⟩).run Tryz.prog w=.ok (.agg #[a0,a1,a2,a3,a4,a5,a6,a7,a8]) w:=by
 have k0:=ai h 0 _ rfl;have k1:=ai h 1 _ rfl;have k2:=ai h 2 _ rfl;have k3:=ai h 3 _ rfl;have k4:=ai h 4 _ rfl;have k5:=ai h 5 _ rfl;have k6:=ai h 6 _ rfl;have k7:=ai h 7 _ rfl;have k8:=ai h 8 _ rfl;simp[loadVar,go_sem,k0,k1,k2,k3,k4,k5,k6,k7,k8]
theorem gY{fn:Func}{a:Tmp}{t:TypeId}(h:fn.results=#[.cell a t])(tmps:Array Value)(P:Program)(w:World){ad:Addr}{v:Value}(hp:tmps.getD a undef=.pointer (some ad))(hl:(loadVar t ad).run P w=.ok v w):
    (results fn tmps).run P w=.ok v w:=by
 rw[Array.getD_eq_getD_getElem?]at hp;simp[results,h,hp,hl,asAddr]
theorem Fp{d:Nat}(ih:∀j,goodJ d j=true->szJ d j=true->szJ d (ord j)=true):∀l:List J,l.all (goodJ d)=true->l.all (szJ d)=true->(ordL l).all (szJ d)=true
 | [],_,_=>rfl
 | j::r,hg,hs=>by
  rw[List.all_cons,Bool.and_eq_true]at hg hs;rw[ordL,List.all_cons,ih j hg.1 hs.1,Fp ih r hg.2 hs.2]
  rfl
theorem MM:∀(d:Nat) (j:J),goodJ d j=true->szJ d j=true->szJ d (ord j)=true
 | 0,j,_,_=>by unfold szJ;rfl
 | d+1,.mk k i t ks l,hg,hs=>by
  obtain⟨Jq,jr,Jr⟩:=iT hg;unfold szJ at hs;simp only[Bool.and_eq_true,decide_eq_true_eq]at hs;obtain⟨hts,mW,sG,vO,BP⟩:=hs;have hol:=Fp (MM d) l Jq BP
  by_cases h5:k=5
  ·subst h5;have fw:ks.length=(ordL l).length:=by rw[b_];exact(jr rfl).1
   have p1:=xy fw;have p2:=mH fw;rw[ord,if_pos rfl];unfold mapOf szJ;simp only[Bool.and_eq_true,decide_eq_true_eq];refine⟨by decide,by rw[p1.length_eq];exact mW, ?_,by rw[p2.length_eq,b_];exact vO, ?_⟩
   ·rw[List.all_eq_true]at sG ⊢;exact fun x hx=>sG x (p1.subset hx)
   ·rw[List.all_eq_true]at hol ⊢;exact fun x hx=>hol x (p2.subset hx)
  ·rw[ord,if_neg h5];unfold szJ;simp only[Bool.and_eq_true,decide_eq_true_eq];exact⟨hts,by simp,by rfl,by rw[b_];exact vO,hol⟩
def Ju(d:Nat)(j:J):Prop:=goodJ d j=true/\inOrd j=true/\szJ d j=true
theorem uG{j:J}(hs:szJ 12 j=true):Ju 12 (eG j):=by
 unfold eG
 split
 ·rename_i hg;exact⟨zw 12 j hg,BU 12 j hg,MM 12 j hg hs⟩
 ·exact⟨by kernel_rfl,by kernel_rfl,by kernel_rfl⟩
theorem Ju.parts{d:Nat}{k i:Int}{t:ByteArray}{ks:List ByteArray}{l:List J}(h:Ju (d+1) (.mk k i t ks l)):
    rises ks=true/\(k=5->ks.length=l.length)/\(k≠5->ks= [])/\ks.length<=100000/\(∀x∈ks,x.size<=1000000000)/\∀x∈l,Ju d x:=by
 obtain⟨hg,ho,hs⟩:=h;obtain⟨Jq,jr,Jr⟩:=iT hg;rw[inOrd,Bool.and_eq_true,oO]at ho;unfold szJ at hs;simp only[Bool.and_eq_true,decide_eq_true_eq]at hs;obtain⟨_,mW,sG,_,BP⟩:=hs;refine⟨ho.1,fun e=>(jr e).1,Jr,mW,fun x hx=>by simpa using List.all_eq_true.1 sG x hx,fun x hx=>⟨List.all_eq_true.1 Jq x hx,ho.2 x hx,List.all_eq_true.1 BP x hx⟩⟩
theorem Ju.lens{d:Nat}{k i:Int}{t:ByteArray}{ks:List ByteArray}{l:List J}(h:Ju (d+1) (.mk k i t ks l)):ks.length<=l.length:=by
 obtain⟨_,h5,hn,_⟩:=h.parts
 by_cases e:k=5
 ·exact Nat.le_of_eq (h5 e)
 ·rw[hn e];exact Nat.zero_le _
def J.ks:J->List ByteArray
 | .mk _ _ _ ks _=>ks
def J.ls:J->List J
 | .mk _ _ _ _ l=>l
def J.kd:J->Int
 | .mk k _ _ _ _=>k
def J.nm:J->Int
 | .mk _ i _ _ _=>i
theorem Q9{a b:ByteArray}(h:jB a b=true):a≠b:=by
 intro e;subst e;rw[lL]at h;cases h
def lookV:List ByteArray->List J->ByteArray->Option J
 | k::ks,v::l,s=>if k.toList==s.toList then some v else lookV ks l s
 | _,_,_=>none
theorem Fq:∀{ks:List ByteArray} {l:List J} {s:ByteArray} {n:Nat},ks.length<=l.length->n<ks.length->ks.getD n aT=s->(∀m,m<n->ks.getD m aT≠s)->lookV ks l s=some (l.getD n J.zero)
 | [],_,_,_,_,h,_,_=>absurd h (by simp)
 | _::_, [],_,_,h,_,_,_=>absurd h (by simp)
 | k::ks,v::l,s,0,_,_,he,_=>by
  have he:k=s:=by simpa using he
  subst he;simp[lookV]
 | k::ks,v::l,s,n+1,h1,h2,he,hm=>by
  have h0:k≠s:=by have:=hm 0 (by omega);simpa using this
  unfold lookV;rw[if_neg (fun e=>h0 (iU.1 e)),Fq (n:=n) (by simpa using h1) (by simpa using h2) (by simpa using he) (fun m h=>by have:=hm (m+1) (by omega);simpa using this)];simp
theorem zB:∀{ks:List ByteArray} {l:List J} {s:ByteArray},s∉ks->lookV ks l s=none
 | [],_,_,_=>by unfold lookV;rfl
 | k::ks, [],_,_=>by unfold lookV;rfl
 | k::ks,v::l,s,h=>by
  unfold lookV;rw[if_neg (fun e=>h (by simp[iU.1 e]))];exact zB (fun h'=>h (by simp[h']))
theorem j5:∀{ks:List ByteArray} {l:List J} {s:ByteArray} {v:J},lookV ks l s=some v->v∈l
 | [],_,_,_,h=>by unfold lookV at h;cases h
 | _::_, [],_,_,h=>by unfold lookV at h;cases h
 | k::ks,x::l,s,v,h=>by
  unfold lookV at h
  split at h
  ·cases h;simp
  ·exact List.mem_cons_of_mem _ (j5 h)
theorem uH:∀{ks:List ByteArray},rises ks=true->∀{m n:Nat},m<n->n<ks.length->jB (ks.getD m aT) (ks.getD n aT)=true
 | [],_,_,_,_,h=>absurd h (by simp)
 | k::ks,h,0,n+1,_,hn=>by
  rw[rises,Bool.and_eq_true]at h;have U8:n<ks.length:=by simpa using hn
  have:=List.all_eq_true.1 h.1 ks[n] (List.getElem_mem U8);simpa [List.getD_eq_getElem?_getD,List.getElem?_eq_getElem U8]using this
 | k::ks,h,m+1,n+1,Eo,hn=>by
  rw[rises,Bool.and_eq_true]at h;have:=uH h.2 (m:=m) (n:=n) (by omega) (by simpa using hn);simpa using this
theorem rP:∀x y:List UInt8,Op.bytesLess x y=lessB x y
 | _, []=>by cases ‹List UInt8› <;>rfl
 | [],_::_=>rfl
 | a::x,b::y=>by
  unfold Op.bytesLess lessB;rw[rP x y]
  cases h:decide (a=b)<;>simp_all
theorem Ox(a b:ByteArray):Op.bytesLess a.toList b.toList=jB a b:=by
 rw[rP];unfold jB;rw[Lib.toList_data,Lib.toList_data]
theorem Q_{w:World}(s:ByteArray):Calls Tryz.prog 215 #[.string s] w fun e w'=>e=.returned (.bool false)/\w=w':=by
 go_enter Tryz.func215,Tryz.ntmps215;go_wp2;go_ret;exact⟨by simp,rfl⟩
theorem Ra{w:World}(s:ByteArray):Calls Tryz.prog 198 #[.string s] w fun e w'=>e=.returned (.bool false)/\w=w':=by
 go_enter Tryz.func198,Tryz.ntmps198;go_wp2;go_ret;exact⟨by simp,rfl⟩
theorem Rc{w:World}(s t:ByteArray):Calls Tryz.prog 197 #[.string s,.string t] w fun e w'=>e=.returned (.bool (jB s t))/\w=w':=by
 have hl:=Ox s t;go_enter Tryz.func197,Tryz.ntmps197;go_wp2_with(go_at_call 215;refine(Q_ s).mono ?_;rintro e w' ⟨rfl,rfl⟩);go_ret;exact⟨rfl,rfl⟩
structure At(ks:List ByteArray)(s:ByteArray)(n:Nat):Prop where
 le:n<=ks.length
 lo:∀m,m<n->jB (aF ks m) s=true
 hi:∀m,n<=m->m<ks.length->jB (aF ks m) s=false
theorem Jv{O:Nat->Prop}{w:World}{p:Option Addr}{c:Nat}{ks:List ByteArray}(h:jP O w p c ks)(hr:rises ks=true)(hn:ks.length<=100000)(s:ByteArray):
    Calls Tryz.prog 184 #[.slice p ks.length c,.string s] w fun e w'=>(∃n:Nat,e=.returned (.tuple #[.int .i64 n,.bool (decide (n<ks.length)&&((aF ks n).toList==s.toList))])/\At ks s n)/\w=w':=by
 obtain⟨m,hm⟩:∃m,ks.length=m:=⟨_,rfl⟩;have HM:Hid (ks.length=m):=hm;have hc:=h.1;rw[hm]at hn hc ⊢;clear hm;have HR:Hid (rises ks=true):=hr;clear hr;go_enter Tryz.func184,Tryz.ntmps184;go_wp2
 go_loopw [7,8] (fun i j wr=>(∃a b:Nat,i=.int .i64 a/\j=.int .i64 b/\a<=b/\b<=m/\Hid ((∀x,x<a->jB (aF ks x) s=true)/\(∀x,b<=x->x<ks.length->jB (aF ks x) s=false)))/\wr=w) (fun i j _=>(intOf j).toNat - (intOf i).toNat)
 case atStart=>exact⟨⟨0,m,rfl,rfl,Nat.zero_le _,Nat.le_refl _,fun x hx=>absurd hx (by omega),fun x h1 h2=>absurd h2 (by rw[HM.out];omega)⟩,rfl⟩
 case round=>
  obtain⟨⟨a,b,rfl,rfl,jQ,hbm,Ha⟩,P_⟩:=hrel;rw[P_];clear P_
  by_cases bQ:a<b
  ·go_upto_region 5 with fail
   obtain⟨h2,he⟩:∃h2:Nat,((a:Int)+b) / 2=h2/\a<=h2/\h2<b:=⟨(a+b) / 2,by omega,by omega,by omega⟩;have HE:Hid (a<=h2/\h2<b):=he.2;rw[he.1];clear he;have hkm:h2<m:=by have:=HE.out;omega
   have eQ:h2<ks.length:=by rw[HM.out];exact hkm
   obtain⟨ad,rfl,_,BF⟩:=h.2 h2 eQ;have MN:Hid (∀x,x<h2->jB (aF ks x) (aF ks h2)=true):=fun x hx=>uH HR.out hx eQ;have HGT:Hid (∀x,h2<x->x<ks.length->jB (aF ks h2) (aF ks x)=true):=fun x hx hl=>uH HR.out hx hl;have Xg:Hid ((∀x,x<a->jB (aF ks x) s=true)/\(∀x,b<=x->x<ks.length->jB (aF ks x) s=false)):=Ha;change w.cell? (ad.add h2)=some (.string (aF ks h2))at BF;generalize hK:aF ks h2=K at BF MN HGT;have HKK:Hid (aF ks h2=K):=hK;clear hK Ha eQ;have Nl:=Rc (w:=w) K s
   cases hl:jB K s with
   | true=>
    have HL:Hid (jB K s=true):=hl;rw[hl]at Nl;clear hl;go_wp2_with(go_at_call 197;refine Nl.mono ?_;rintro e w' ⟨rfl,rfl⟩);go_roundw
    case rel=>
     have:=HE.out;refine⟨⟨h2+1,b,by simp,rfl,by omega,hbm,fun x hx=> ?_,Xg.out.2⟩,trivial⟩
     by_cases e:x=h2
     ·subst e;rw[HKK.out];exact HL.out
     ·exact jh (MN.out x (by omega)) HL.out
    case measure=>have:=HE.out;simp[intOf];omega
   | false=>
    have HL:Hid (jB K s=false):=hl;rw[hl]at Nl;clear hl;go_wp2_with(go_at_call 197;refine Nl.mono ?_;rintro e w' ⟨rfl,rfl⟩);go_roundw
    case rel=>
     have:=HE.out;refine⟨⟨a,h2,rfl,rfl,by omega,by omega,Xg.out.1,fun x h1 h3=> ?_⟩,trivial⟩
     by_cases e:x=h2
     ·subst e;rw[HKK.out];exact HL.out
     ·cases hx:jB (aF ks x) s with
      | false=>rfl
      | true=>
       have:=jh (HGT.out x (by omega) h3) hx;rw[HL.out]at this
       cases this
    case measure=>have:=HE.out;simp[intOf];omega
  ·obtain rfl:a=b:=by omega
   have Xg:Hid (At ks s a):=⟨by rw[HM.out];exact hbm,Ha.out.1,Ha.out.2⟩;clear Ha
   by_cases ham:a<m
   ·obtain⟨ad,rfl,_,BF⟩:=h.2 a (by rw[HM.out];exact ham);change w.cell? (ad.add a)=some (.string (aF ks a))at BF;have Re:Hid (∀v,v=(.tuple #[.int .i64 a,.bool (decide (a<m)&&((aF ks a).toList==s.toList))]:Value)->∃n:Nat,Ending.returned v=.returned (.tuple #[.int .i64 n,.bool (decide (n<m)&&((aF ks n).toList==s.toList))])/\At ks s n):=fun v hv=>⟨a,by rw[hv],Xg.out⟩;generalize aF ks a=K at BF Re;have Ep:=Ra (w:=w) K
    cases hq:(K.toList==s.toList)with
    | true=>
     rw[hq]at Re;go_wp2;go_ret2;exact⟨Re.out _ (by simp[ham]),rfl⟩
    | false=>
     rw[hq]at Re;go_wp2_with(go_at_call 198;refine Ep.mono ?_;rintro e w' ⟨rfl,rfl⟩);go_ret2;exact⟨Re.out _ (by simp),rfl⟩
   ·have Re:Hid (∀v,v=(.tuple #[.int .i64 a,.bool false]:Value)->∃n:Nat,Ending.returned v=.returned (.tuple #[.int .i64 n,.bool (decide (n<m)&&((aF ks n).toList==s.toList))])/\At ks s n):=fun v hv=>⟨a,by rw[hv];simp[ham],Xg.out⟩;go_wp2;go_ret2;exact⟨Re.out _ rfl,rfl⟩
theorem aK{fn:Func}{a u:Tmp}{t:TypeId}(h:fn.results=#[.cell a t,.tmp u])(tmps:Array Value)(P:Program)(w:World){ad:Addr}{v:Value}(hp:tmps.getD a undef=.pointer (some ad))(hl:(loadVar t ad).run P w=.ok v w):
    (results fn tmps).run P w=.ok (.tuple #[v,tmps.getD u undef]) w:=by
 rw[Array.getD_eq_getD_getElem?]at hp;simp[results,h,hp,hl,asAddr]
theorem vV{w:World}{b t:Nat}{a0 a1 a2 a3 a4:Value}(h:w.heap[b]?=some (.cells #[a0,a1,a2,a3,a4] t (0,0))):(loadVar 25 ⟨b,0,none⟩).run Tryz.prog w=.ok (.agg #[a0,a1,a2,a3,a4]) w:=by
 have k0:=ai h 0 _ rfl;have k1:=ai h 1 _ rfl;have k2:=ai h 2 _ rfl;have k3:=ai h 3 _ rfl;have k4:=ai h 4 _ rfl;simp[loadVar,go_sem,k0,k1,k2,k3,k4]
theorem bU{O:Nat->Prop}{w:World}{kx ix:Int}{tx:ByteArray}{ks:List ByteArray}{l:List J}{k i:Int}{t:ByteArray}{pk pl:Option Addr}{nk ck nl cl:Nat}(h:isJ O w (.mk kx ix tx ks l) [.int .i64 k,.int .i64 i,.string t,.slice pk nk ck,.slice pl nl cl]):
    k=kx/\i=ix/\t=tx/\nk=ks.length/\nl=l.length/\jP O w pk ck ks/\l.length<=cl/\isJs O w pl 0 l:=by
 unfold isJ at h;obtain⟨YH,U0,YI,A_,e,h1,h2,h3⟩:=h;simp only[List.cons.injEq,Value.int.injEq,Value.string.injEq,Value.slice.injEq,true_and,and_true]at e;obtain⟨rfl,rfl,rfl,⟨rfl,rfl,rfl⟩,rfl,rfl,rfl⟩:=e;exact⟨rfl,rfl,rfl,rfl,rfl,h1,h2,h3⟩
abbrev zJP:Value:=.agg #[.int .i64 0,.int .i64 0,.string ⟨#[]⟩,.slice none 0 0,.slice none 0 0]
def C9(O:Nat->Prop)(w':World):Option J->Ending->Prop
 | none,e=>e=.returned (.tuple #[zJP,.bool false])
 | some v,e=>∃k i t p n c q m d,e=.returned (.tuple #[.agg #[.int .i64 k,.int .i64 i,.string t,.slice p n c,.slice q m d],.bool true])/\isJ O w' v [.int .i64 k,.int .i64 i,.string t,.slice p n c,.slice q m d]
theorem At.found{ks:List ByteArray}{s:ByteArray}{n:Nat}(h:At ks s n){l:List J}(hl:ks.length<=l.length)(hn:n<ks.length)(he:(aF ks n).toList==s.toList):lookV ks l s=some (l.getD n J.zero):=
 Fq hl hn (iU.1 he) fun m hm=>Q9 (h.lo m hm)
theorem At.none{ks:List ByteArray}{s:ByteArray}{n:Nat}(h:At ks s n)(hr:rises ks=true){l:List J}(he:(decide (n<ks.length)&&((aF ks n).toList==s.toList))=false):lookV ks l s=none:=by
 refine zB fun hm=> ?_;obtain⟨m,AX,hms⟩:=List.getElem_of_mem hm;have hk:aF ks m=s:=by unfold aF;rw[List.getD_eq_getElem?_getD,List.getElem?_eq_getElem AX];exact hms
 rcases Nat.lt_or_ge m n with h1| h1
 ·exact Q9 (h.lo m h1) hk
 ·have o_:n<ks.length:=by omega
  by_cases e:m=n
  ·subst e;rw[hk]at he;simp[o_]at he
  ·have:=uH hr (m:=n) (n:=m) (by omega) AX;rw[show ks.getD m aT=s from hk]at this;have h2:=h.hi n (Nat.le_refl _) o_;unfold aF at h2;rw[this]at h2
   cases h2
theorem vW{O:Nat->Prop}{w:World}{Rb d:Nat}{j:J}{k i:Int}{t:ByteArray}{pk pl:Option Addr}{nk ck nl cl:Nat}{bad:Bool}(hR:w.heap[Rb]?=some (.cells #[.int .i64 k,.int .i64 i,.string t,.slice pk nk ck,.slice pl nl cl,.bool bad] 155 (0,0)))
    (hj:isJ O w j [.int .i64 k,.int .i64 i,.string t,.slice pk nk ck,.slice pl nl cl]) (hO:∀x,O x->x<w.heap.size) (jv:Ju (d+1) j) (s:ByteArray):
    Calls Tryz.prog 166 #[.pointer (some ⟨Rb,0,none⟩),.string s] w fun e w'=>C9 O w' (lookV j.ks j.ls s) e/\Below w.heap.size w w':=by
 obtain⟨kx,ix,tx,ks,l⟩:=j;obtain⟨rfl,rfl,rfl,rfl,rfl,hk,BF,oo⟩:=bU hj;clear hj;have YZ:=jv.parts.1;have mW:=jv.parts.2.2.2.1;have fw:=jv.lens;simp only[J.ks,J.ls];obtain⟨wA,g_⟩:∃wA,wA=w.alloc (.cells #[.int .i64 0,.int .i64 0,.string ⟨#[]⟩,.slice none 0 0,.slice none 0 0] 25):=⟨_,rfl⟩;have bM:Below w.heap.size w wA:=by rw[g_];exact(Below.refl _ _).alloc (Nat.le_refl _) _
 have hA:wA.heap[w.heap.size]?=some (.cells #[.int .i64 0,.int .i64 0,.string ⟨#[]⟩,.slice none 0 0,.slice none 0 0] 25 (0,0)):=by rw[g_];exact bz _
 have Xh:=(bM.block Rb (aP hR)).trans hR;have hS:=Jv (hk.carry (O':=O) (w':=wA) fun x hx=>⟨hx,bM.block x (hO x hx)⟩) YZ mW s;have r3:=ai Xh 3 _ rfl;have r4:=ai Xh 4 _ rfl;have zlV:=aP hR;have i0:=ai hA 0 _ rfl;have i1:=ai hA 1 _ rfl;have i2:=ai hA 2 _ rfl;have i3:=ai hA 3 _ rfl;have i4:=ai hA 4 _ rfl;have z0:=gB hA 0;have z1:=gB hA 1;have z2:=gB hA 2;have z3:=gB hA 3;have z4:=gB hA 4;have HA:Hid (wA.heap[w.heap.size]?=some (.cells #[.int .i64 0,.int .i64 0,.string ⟨#[]⟩,.slice none 0 0,.slice none 0 0] 25 (0,0))):=hA;have HRI:Hid (rises ks=true):=YZ;have Fs:Hid (ks.length<=l.length):=fw;have U9:Hid (isJs O w pl 0 l):=oo;obtain⟨nk,kX⟩:∃n,ks.length=n:=⟨_,rfl⟩;obtain⟨nl,o_⟩:∃n,l.length=n:=⟨_,rfl⟩;have kG:Hid (ks.length=nk):=kX;have yX:Hid (l.length=nl):=o_;rw[kX]at hS r3 mW;rw[o_]at r4 BF;clear kX o_ YZ fw oo hk jv hR Xh hA;go_enter Tryz.func166,Tryz.ntmps166
 go_upto_region 1 with fail
 rw[<-g_];clear g_
 go_upto_region 2 with(go_at_call 184;refine hS.mono ?_;rintro e w' ⟨⟨n,rfl,iR⟩,rfl⟩)
 have T9:Hid (At ks s n):=iR
 cases hf:(decide (n<nk)&&((aF ks n).toList==s.toList))with
 | false=>
  have yA:Hid (lookV ks l s=none):=T9.out.none HRI.out (by rw[kG.out];exact hf);clear hS iR T9 U9;go_wp2;have h5:=cZ (b:=w.heap.size) [.int .i64 0,.int .i64 0,.string ⟨#[]⟩,.slice none 0 0,.slice none 0 0] HA.out rfl;have eD:=bS w.heap.size [.int .i64 0,.int .i64 0,.string ⟨#[]⟩,.slice none 0 0,.slice none 0 0] wA 0;simp only[setL,Nat.zero_add,Nat.reduceAdd]at h5 eD;refine bodyPost_ret (aK rfl _ _ _ rfl (vV h5)) rfl ?_;rw[yA.out];exact⟨rfl,bM.trans (eD.below bM.size fun k hk e=>by unfold aJ at e;omega)⟩
 | true=>
  have Xi:=hf;simp only[Bool.and_eq_true,decide_eq_true_eq]at Xi;have o_:n<nl:=by have:=Fs.out;rw[kG.out,yX.out]at this;omega
  have yA:Hid (lookV ks l s=some (l.getD n J.zero)):=T9.out.found Fs.out (by rw[kG.out];exact Xi.1) Xi.2;obtain⟨lb,lo,cs,tO,lY,bC,iL⟩:=isJs.at l 0 n U9.out (by rw[yX.out];exact o_);subst tO;obtain⟨kv,iv,tv,pv,nv,cv,qv,mv,dv,rfl⟩:=dw iL;have cc:∀m v, [Value.int .i64 kv,.int .i64 iv,.string tv,.slice pv nv cv,.slice qv mv dv][m]?=some v->wA.cell? ⟨lb,lo+n*5+m,none⟩=some v:=fun m v h=>by
   have:=bC m v h;rw[Nat.zero_add]at this;exact(World.cell?_of_block (a:=⟨lb,lo+n*5+m,none⟩) (bM.block lb (hO lb lY))).trans this
  have y0:wA.cell? ⟨lb,lo+n*5,none⟩=some (.int .i64 kv):=cc 0 _ rfl;have y1:=cc 1 _ rfl;have y2:=cc 2 _ rfl;have y3:=cc 3 _ rfl;have y4:=cc 4 _ rfl;have HYJ:Hid (isJ O w (l.getD n J.zero) [Value.int .i64 kv,.int .i64 iv,.string tv,.slice pv nv cv,.slice qv mv dv]):=iL;have T_:=hO lb lY;clear cc bC iL hS iR T9 U9 Xi;go_wp2;have h5:=cZ (b:=w.heap.size) [.int .i64 kv,.int .i64 iv,.string tv,.slice pv nv cv,.slice qv mv dv] HA.out rfl;have eD:=bS w.heap.size [.int .i64 kv,.int .i64 iv,.string tv,.slice pv nv cv,.slice qv mv dv] wA 0;simp only[setL,Nat.zero_add,Nat.reduceAdd]at h5 eD;refine bodyPost_ret (aK rfl _ _ _ rfl (vV h5)) rfl ?_;rw[yA.out];have gU:=bM.trans (eD.below bM.size fun k hk e=>by unfold aJ at e;omega);exact⟨⟨_,_,_,_,_,_,_,_,_,rfl,HYJ.out.carry fun x hx=>⟨hx,gU.block x (hO x hx)⟩⟩,gU⟩
def lu(k i:Int):Bool:=decide (k=2)&&(decide (-1073741824<=i)&&decide (i<=1073741824))
abbrev eO(w:World)(Rb:Nat)(a0 a1 a2 a3 a4:Value)(bad:Bool):Prop:=w.heap[Rb]?=some (.cells #[a0,a1,a2,a3,a4,.bool bad] 155 (0,0))
theorem eO.set{w:World}{Rb:Nat}{a0 a1 a2 a3 a4:Value}{bad:Bool}(h:eO w Rb a0 a1 a2 a3 a4 bad)(b:Bool):eO (w.setCell ⟨Rb,5,none⟩ (.bool b)) Rb a0 a1 a2 a3 a4 b:=by
 show(w.setCell ⟨Rb,5,none⟩ (.bool b)).heap[Rb]?=_
 rw[heap_setCell_same w Rb 5 _ _ _ h]
 rfl
theorem nP{w:World}{Rb:Nat}{a0 a1 a2 a3 a4:Value}{bad:Bool}(hR:eO w Rb a0 a1 a2 a3 a4 bad)(k i:Int)(t:ByteArray)(p q:Option Addr)(n c m d:Nat):
    Calls Tryz.prog 167 #[.pointer (some ⟨Rb,0,none⟩),.agg #[.int .i64 k,.int .i64 i,.string t,.slice p n c,.slice q m d]] w fun e w'=>e=.returned (.int .i64 i)/\eO w' Rb a0 a1 a2 a3 a4 (bad || !lu k i)/\ay (aJ Rb) w w':=by
 obtain⟨wA,g_⟩:∃wA,wA=w.alloc (.cells #[.int .i64 k,.int .i64 i,.string t,.slice p n c,.slice q m d] 25):=⟨_,rfl⟩;have bM:Below w.heap.size w wA:=by rw[g_];exact(Below.refl _ _).alloc (Nat.le_refl _) _
 have hA:wA.heap[w.heap.size]?=some (.cells #[.int .i64 k,.int .i64 i,.string t,.slice p n c,.slice q m d] 25 (0,0)):=by rw[g_];exact bz _
 have bQ:=aP hR;have Xh:eO wA Rb a0 a1 a2 a3 a4 bad:=(bM.block Rb bQ).trans hR;have i0:=ai hA 0 _ rfl;have i1:=ai hA 1 _ rfl;have r5:=ai Xh 5 _ rfl;have rz:=gB Xh 5;have Ua:Hid (ay (aJ Rb) w wA):=ay.bq bM;have HRA:Hid (eO wA Rb a0 a1 a2 a3 a4 bad):=Xh;have i0':(wA.setCell ⟨Rb,5,none⟩ (.bool true)).cell? ⟨w.heap.size,0,none⟩=some (.int .i64 k):=by
  rw[World.cell?_of_block (Below.heap_setCell wA ⟨Rb,5,none⟩ _ w.heap.size (by simp;omega))];exact i0
 have i1':(wA.setCell ⟨Rb,5,none⟩ (.bool true)).cell? ⟨w.heap.size,1,none⟩=some (.int .i64 i):=by
  rw[World.cell?_of_block (Below.heap_setCell wA ⟨Rb,5,none⟩ _ w.heap.size (by simp;omega))];exact i1
 clear hA Xh hR
 by_cases hk:k=2
 ·by_cases h1: -1073741824<=i
  ·by_cases h2:i<=1073741824
   ·have HL:Hid (lu k i=true):=by show _=_;simp[lu,hk,h1,h2]
    subst hk;go_enter Tryz.func167,Tryz.ntmps167
    go_upto_region 1 with fail
    rw[<-g_];clear g_;go_wp2;go_ret;rw[HL.out];exact⟨rfl,by simpa using HRA.out,Ua.out⟩
   ·have HL:Hid (lu k i=false):=by show _=_;simp[lu,hk,h1,h2]
    subst hk;go_enter Tryz.func167,Tryz.ntmps167
    go_upto_region 1 with fail
    rw[<-g_];clear g_;go_wp2;go_ret;rw[HL.out];exact⟨rfl,by simpa using HRA.out.set true,Ua.out.setCell (p:=⟨Rb,5,none⟩) (fun _=>(rfl:Rb=Rb)) _⟩
  ·have HL:Hid (lu k i=false):=by show _=_;simp[lu,hk,h1]
   subst hk;go_enter Tryz.func167,Tryz.ntmps167
   go_upto_region 1 with fail
   rw[<-g_];clear g_;go_wp2;go_ret;rw[HL.out];exact⟨rfl,by simpa using HRA.out.set true,Ua.out.setCell (p:=⟨Rb,5,none⟩) (fun _=>(rfl:Rb=Rb)) _⟩
 ·have HL:Hid (lu k i=false):=by show _=_;simp[lu,hk]
  go_enter Tryz.func167,Tryz.ntmps167
  go_upto_region 1 with fail
  rw[<-g_];clear g_;go_wp2;go_ret;rw[HL.out];exact⟨rfl,by simpa using HRA.out.set true,Ua.out.setCell (p:=⟨Rb,5,none⟩) (fun _=>(rfl:Rb=Rb)) _⟩
def numT(d:Int):Option J->Int×Bool
 | none=>(d,false)
 | some v=>(v.nm, !lu v.kd v.nm)
theorem Fu{O:Nat->Prop}{w:World}{Rb d:Nat}{j:J}{k i:Int}{t:ByteArray}{pk pl:Option Addr}{nk ck nl cl:Nat}{bad:Bool}(hR:eO w Rb (.int .i64 k) (.int .i64 i) (.string t) (.slice pk nk ck) (.slice pl nl cl) bad)
    (hj:isJ O w j [.int .i64 k,.int .i64 i,.string t,.slice pk nk ck,.slice pl nl cl]) (hO:∀x,O x->x<w.heap.size) (jv:Ju (d+1) j) (s:ByteArray) (z:Int):
    Calls Tryz.prog 144 #[.pointer (some ⟨Rb,0,none⟩),.string s,.int .i64 z] w fun e w'=>e=.returned (.int .i64 (numT z (lookV j.ks j.ls s)).1)/\eO w' Rb (.int .i64 k) (.int .i64 i) (.string t) (.slice pk nk ck) (.slice pl nl cl) (bad || (numT z (lookV j.ks j.ls s)).2)/\ay (aJ Rb) w w':=by
 have hU:=vW hR hj hO jv s;have HR:Hid (∀X,Below w.heap.size w X->eO X Rb (.int .i64 k) (.int .i64 i) (.string t) (.slice pk nk ck) (.slice pl nl cl) bad):=fun X hX=>(hX.block Rb (aP hR)).trans hR;have MN:Hid (Rb<w.heap.size):=aP hR;clear hR hj jv hO;generalize lookV j.ks j.ls s=o at hU
 cases o with
 | none=>
  go_enter Tryz.func144,Tryz.ntmps144;go_wp2_with(go_at_call 166;refine hU.mono ?_;rintro e w1 ⟨he,aL⟩;replace he:e=_:=he;subst he);go_ret;refine⟨rfl, ?_, ?_⟩
  ·simp only[numT,Bool.or_false];exact HR.out _ (ag aL ((Below.refl _ _).alloc (Nat.le_refl _) _))
  ·exact ay.bq (ag aL ((Below.refl _ _).alloc (Nat.le_refl _) _))
 | some v=>
  go_enter Tryz.func144,Tryz.ntmps144;go_wp2_with(first
   | (go_at_call 166;refine hU.mono ?_;rintro e w1 ⟨⟨kv,iv,tv,pv,nv,cv,qv,mv,dv,rfl,hv⟩,aL⟩
      have HV:Hid (v.kd=kv/\v.nm=iv):=by obtain⟨_,_,_,_,_⟩:=v;obtain⟨rfl,rfl,_⟩:=bU hv;exact⟨rfl,rfl⟩
      have bM:Below w.heap.size w (w1.alloc (.cells #[.int .i64 kv,.int .i64 iv,.string tv,.slice pv nv cv,.slice qv mv dv] 25)):=ag aL ((Below.refl _ _).alloc (Nat.le_refl _) _);have hL:=nP (HR.out _ bM) kv iv tv pv qv nv cv mv dv;clear hv)
   | (go_at_call 167;refine hL.mono ?_;rintro e w2 ⟨rfl,hr2,rM⟩))
  go_ret;simp only[numT,HV.out.1,HV.out.2];exact⟨rfl,hr2,(ay.bq bM).then rM⟩
theorem C_{O:Nat->Prop}{w:World}{l:Lv}{p:Pl}(h:qV O w l p)(hO:∀k,O k->k<w.heap.size)(hz:zy l)(s:ByteArray):
    Calls Tryz.prog 90 #[fA l p,.string s] w fun e w'=>e=.returned (.int .i64 (pY l s))/\Below w.heap.size w w':=by
 have hb:Below w.heap.size w (w.alloc (.cells (aG l p).toArray 47)):=(Below.refl _ _).alloc (Nat.le_refl _) _;have hf:=BZ (h.us.below hO hb) (fun k hk=>Nat.lt_of_lt_of_le (hO k hk) hb.size) hz.us s l.iB;have HB:Hid (Below w.heap.size w (w.alloc (.cells (aG l p).toArray 47))):=hb;obtain⟨nN,h_,dA,fM,state,events,iB,us,ty⟩:=l;obtain⟨pu,cu,pt,ct⟩:=p;simp only[fA,aG,pY]at hf hb ⊢;clear h hz hb;go_enter Tryz.func90,Tryz.ntmps90;go_wp2_with(go_at_call 91;refine hf.mono ?_;rintro e w1 ⟨rfl,aL⟩);go_ret;exact⟨rfl,ag HB.out aL⟩
theorem U_{O:Nat->Prop}{w:World}{l:Lv}{p:Pl}(h:qV O w l p)(hO:∀k,O k->k<w.heap.size)(hz:zy l)(s:ByteArray)(st:Bool):
    Calls Tryz.prog 57 #[fA l p,.string s,.bool st] w fun e w'=>e=.returned (.int .i64 (pg l s st))/\Below w.heap.size w w':=by
 have hb:Below w.heap.size w (w.alloc (.cells (aG l p).toArray 47)):=(Below.refl _ _).alloc (Nat.le_refl _) _;have hf:=BZ (h.ty.below hO hb) (fun k hk=>Nat.lt_of_lt_of_le (hO k hk) hb.size) hz.ty s (if st then l.state else l.events);have HB:Hid (Below w.heap.size w (w.alloc (.cells (aG l p).toArray 47))):=hb;obtain⟨nN,h_,dA,fM,state,events,iB,us,ty⟩:=l;obtain⟨pu,cu,pt,ct⟩:=p;simp only[fA,aG,pg]at hf hb ⊢;clear h hz hb
 cases st<;>simp only[Bool.false_eq_true,if_true,if_false]at hf ⊢
 all_goals
  go_enter Tryz.func57,Tryz.ntmps57;go_wp2_with(go_at_call 91;refine hf.mono ?_;rintro e w1 ⟨rfl,aL⟩);go_ret;exact⟨rfl,ag HB.out aL⟩
abbrev jJ(s:ByteArray):Lv:=⟨50,50,0,50,0,0,0, [(s,100)], []⟩
theorem Rf{w:World}(s:ByteArray):
    Calls Tryz.prog 82 #[.string s] w fun e w'=>(∃p,e=.returned (fA (jJ s) p)/\qV (fun b=>w.heap.size<=b/\b<w'.heap.size) w' (jJ s) p)/\Below w.heap.size w w':=by
 go_enter Tryz.func82,Tryz.ntmps82;go_wp2;obtain⟨W,hW⟩:∃W,W=((w.alloc (.cells #[.int .i64 50,.int .i64 50,.int .i64 0,.int .i64 50,.int .i64 0,.int .i64 0,.int .i64 0,.slice (some ⟨w.heap.size+1,0,none⟩) 1 1,.slice none 0 0] 47)).alloc (.cells #[.string s,.int .i64 100] 109)):=⟨_,rfl⟩;have hB:Below w.heap.size w W:=by rw[hW];exact((Below.refl _ _).alloc (Nat.le_refl _) _).alloc (by simp) _
 have h0:W.heap[w.heap.size]?=some (.cells #[.int .i64 50,.int .i64 50,.int .i64 0,.int .i64 50,.int .i64 0,.int .i64 0,.int .i64 0,.slice (some ⟨w.heap.size+1,0,none⟩) 1 1,.slice none 0 0] 47 (0,0)):=by
  rw[hW,Below.heap_alloc _ _ _ (by simp)];exact bz _
 have h1:W.heap[w.heap.size+1]?=some (.cells #[.string s,.int .i64 100] 109 (0,0)):=by
  rw[hW];have:=bz (w:=(w.alloc (.cells #[.int .i64 50,.int .i64 50,.int .i64 0,.int .i64 50,.int .i64 0,.int .i64 0,.int .i64 0,.slice (some ⟨w.heap.size+1,0,none⟩) 1 1,.slice none 0 0] 47))) (.cells #[.string s,.int .i64 100] 109);rw[World.size_alloc]at this;exact this
 rw[<-hW];refine bodyPost_ret (gY rfl _ _ _ rfl (iM h0)) rfl ?_;have bQ:=aP h1;exact⟨⟨⟨some ⟨w.heap.size+1,0,none⟩,1,none,0⟩,rfl,jI (l:= [(s,100)]) ⟨by simp,bQ⟩ h1,ib.nil _ _ _ _ fun _=>rfl⟩,hB⟩
theorem zC{w:World}{l:Lv}{p:Pl}:
    Calls Tryz.prog 125 #[fA l p] w fun e w'=>(∃b,e=.returned (.slice (some ⟨b,0,none⟩) 7 7)/\w.heap.size<=b/\b<w'.heap.size/\ib (fun k=>k=b) w' (some ⟨b,0,none⟩) 7 (nums l))/\Below w.heap.size w w':=by
 obtain⟨nN,h_,dA,fM,state,events,iB,us,ty⟩:=l;obtain⟨pu,cu,pt,ct⟩:=p;simp only[fA,aG];go_enter Tryz.func125,Tryz.ntmps125;go_wp2;go_ret;refine⟨⟨_,rfl,by simp,by simp,jI (l:=nums _) (t:=109) (fr:=(0,0)) rfl ?_⟩,((Below.refl _ _).alloc (Nat.le_refl _) _).alloc (by simp) _⟩;have:=bz (w:=w.alloc (.cells #[.int .i64 nN,.int .i64 h_,.int .i64 dA,.int .i64 fM,.int .i64 state,.int .i64 events,.int .i64 iB,.slice pu us.length cu,.slice pt ty.length ct] 47)) (.cells (flatN (nums ⟨nN,h_,dA,fM,state,events,iB,us,ty⟩)).toArray 109);rw[World.size_alloc]at this;exact this
abbrev gD(c:iw):List Value:= [.string c.name,.bool c.Hu.isSome,.int .i64 (c.Hu.getD 0),.bool c.next.isSome,.int .i64 (c.next.getD 0)]
abbrev lC(c:iw):Value:=.agg (gD c).toArray
theorem zD{w:World}(c:iw)(s:Int):
    Calls Tryz.prog 126 #[lC c,.int .i64 s] w fun e w'=>e=.returned (.bool (c.gJ s))/\Below w.heap.size w w':=by
 obtain⟨n,o,x⟩:=c;have hb:∀v,Below w.heap.size w (w.alloc (.cells v 143)):=fun v=>(Below.refl _ _).alloc (Nat.le_refl _) _;unfold iw.gJ
 cases o<;>cases x<;>simp only[lC,gD,Option.isSome,Option.getD,over,Bool.false_or,Bool.or_false]
 ·go_enter Tryz.func126,Tryz.ntmps126;go_wp2;go_ret;exact⟨rfl,hb _⟩
 ·rename_i x
  by_cases h:s<x
  all_goals
   go_enter Tryz.func126,Tryz.ntmps126;go_wp2;go_ret;exact⟨by simp[h],hb _⟩
 ·rename_i x
  by_cases h:s<x
  all_goals
   go_enter Tryz.func126,Tryz.ntmps126;go_wp2;go_ret;exact⟨by simp[h],hb _⟩
 ·rename_i x y
  by_cases h:s<x<;>by_cases h2:s<y
  all_goals
   go_enter Tryz.func126,Tryz.ntmps126;go_wp2;go_ret;exact⟨by simp[h,h2],hb _⟩
open Go.RowKit Go.Maps
def Va(s:ByteArray):Lit:=.string s.data.toList
def Ub(s:ByteArray):Prop:=s.size<=maxLen
theorem MO{s t:ByteArray}(h:Va s=Va t):s=t:=by
 unfold Va at h
 cases s;cases t
 simp only[Lit.string.injEq]at h;rw[Array.toList_inj.1 h]
theorem zej{s:ByteArray}(h:Ub s):keyOf Tryz.prog 9 (.string s)=some (Va s):=WideMaps.keyOf_string_mk Tryz.underlying9 h
theorem Rh:Keyed Tryz.prog 9:=string_keyed Tryz.underlying9
def Y0(v:Value):Option (DataW Value×List MemPlace):=some (.held v, [])
def lookP:List (ByteArray×Value)->ByteArray->Option Value
 | [],_=>none
 | p::r,s=>if p.1.data=s.data then some p.2 else lookP r s
theorem nQ{a b:ByteArray}(h:a.data=b.data):a=b:=by
 cases a;cases b
 simp only at h;rw[h]
theorem sK{es:List (ByteArray×Value)}{s:ByteArray}:lookP es s=none↔s∉es.map (·.1):=by
 induction es with
 | nil=>simp[lookP]
 | cons p r ih=>
  unfold lookP
  by_cases h:p.1.data=s.data
  ·rw[if_pos h];simp[nQ h]
  ·rw[if_neg h,ih];simp;intro _ e;exact h (by rw[e])
theorem sM{es:List (ByteArray×Value)}{k s:ByteArray}{v:Value}(hk:k∉es.map (·.1)):lookP (es++ [(k,v)]) s=if k.data=s.data then some v else lookP es s:=by
 induction es with
 | nil=>simp[lookP]
 | cons p r ih=>
  have AJ:k≠p.1:=fun e=>hk (by simp[e]);have rM:k∉r.map (·.1):=fun h=>hk (by simp at h ⊢;exact .inr h);simp only[List.cons_append,lookP,ih rM]
  by_cases h:p.1.data=s.data
  ·rw[if_pos h,if_neg (fun e=>AJ (nQ (e.trans h.symm))),if_pos h]
  ·rw[if_neg h,if_neg h]
structure zF(w:World)(M:Nat)(es:List (ByteArray×Value)):Prop where
 own:∃D n,w.ownsMap Tryz.prog 9 Y0 M n D/\n<=200000/\(∀s,Ub s->Maps.has D (Va s)=(lookP es s).isSome)/\(∀s z,Ub s->D.atKey (Va s) (.held z)=.held ((lookP es s).getD z))/\Maps.size D=es.length
 apart:(es.map (·.1)).Pairwise (· ≠ ·)
theorem zF.lt{w:World}{M:Nat}{es:List (ByteArray×Value)}(h:zF w M es):M<w.heap.size:=by
 obtain⟨⟨D,n,ho,_⟩,_⟩:=h;exact ho.lt
theorem zF.made(w:World):zF (w.alloc (.map #[] 0)) w.heap.size []:=
 ⟨⟨.map [],0,World.ownsMap_made _ _ _ _,by omega,fun _ _=>rfl,fun _ _ _=>rfl,rfl⟩,List.Pairwise.nil⟩
abbrev zHv:Value:=.agg #[.bool false,.int .i64 0]
theorem zek(w:World):(zeroValue 141).run Tryz.prog w=.ok zHv w:=by kernel_rfl
theorem zF.look{w:World}{M:Nat}{es:List (ByteArray×Value)}(h:zF w M es){s:ByteArray}(hs:Ub s):(Instr.lookup 161 (.map (some M)) (.string s) false).run Tryz.prog w=.ok ((lookP es s).getD zHv) w:=by
 obtain⟨⟨D,n,ho,_,_,iR,_⟩,_⟩:=h;obtain⟨v,ps,CL,hv⟩:=ho.lookup Rh Tryz.underlying161 (zek w) (zd:=.held zHv) (zp:= []) rfl (zej hs);rw[iR s _ hs]at hv;unfold Y0 at hv;have:v=(lookP es s).getD zHv:=by
  have:=Option.some.inj hv;have:=congrArg Prod.fst this;exact DataW.held.inj this
 rw[CL,this]
theorem zF.put{w:World}{M:Nat}{es:List (ByteArray×Value)}(h:zF w M es){s:ByteArray}(hs:Ub s)(hn:s∉es.map (·.1))(hl:es.length<150000)(v:Value):
    ∃w',(Instr.mapUpdate 161 (.map (some M)) (.string s) v).run Tryz.prog w=.ok () w'/\zF w' M (es++ [(s,v)])/\w.grownBy w' (some M):=by
 obtain⟨⟨D,n,ho,MB,hh,iR,fK⟩,ha⟩:=h;have ho':=ho;obtain⟨ms,clock,hb,F,hms,hD⟩:=ho';have AX:ms.size=Maps.size D:=by
  rw[hD];simp[Maps.size,length_sorted]
 have Jj:w.ownsMap Tryz.prog 9 Y0 M es.length D:=⟨ms,clock,hb,F,by omega,hD⟩;obtain⟨w',CL,QQ,hg⟩:=Jj.update Rh Tryz.underlying161 (by unfold maxLen;omega) (zej hs) (d:=.held v) (ps:= []) rfl;have hm:=Jj.isMap;have hns:=sK.2 hn;refine⟨w',CL,⟨⟨D.put (Va s) (.held v),es.length+1,QQ,by omega,fun x hx=> ?_,fun x z hx=> ?_, ?_⟩, ?_⟩,hg⟩
 ·rw[sM hn]
  by_cases e:x=s
  ·subst e;rw[has_put_same hm (show WideAt.IsKeyLit (Va x)from trivial),if_pos rfl];rfl
  ·rw[has_put_other (fun h'=>e (MO h')),hh x hx,if_neg (fun h'=>e (nQ h').symm)]
 ·rw[sM hn]
  by_cases e:x=s
  ·subst e;rw[atKey_put_same hm (show WideAt.IsKeyLit (Va x)from trivial),if_pos rfl];rfl
  ·rw[atKey_put_other (fun h'=>e (MO h')),iR x z hx,if_neg (fun h'=>e (nQ h').symm)]
 ·rw[size_put (Jj.tidy Rh),hh s hs,hns,fK];simp
 ·rw[List.map_append,List.pairwise_append];refine⟨ha,by simp,fun a WR b Hd e=> ?_⟩;simp at Hd;subst Hd;exact hn (e ▸ WR)
def heldV:Option Int->Value
 | none=>.agg #[.bool false,.int .i64 0]
 | some x=>.agg #[.bool true,.int .i64 x]
def iC(w:World)(M:Nat)(l:jl):Prop:=∃es,zF w M es/\es.length<=l.length/\∀s,(lookP es s).getD zHv=heldV (fnd l s)/\(lookP es s).isSome=(fnd l s).isSome
theorem iC.made(w:World):iC (w.alloc (.map #[] 0)) w.heap.size []:=⟨[],zF.made w,Nat.le_refl _,fun _=>⟨rfl,rfl⟩⟩
theorem iC.same{w w':World}{M:Nat}{l:jl}(h:iC w M l)(e:w'.heap[M]?=w.heap[M]?):iC w' M l:=by
 obtain⟨es,⟨⟨D,n,⟨ms,clock,hb,r1⟩,r2⟩,r3⟩,r4⟩:=h;exact⟨es,⟨⟨D,n,⟨ms,clock,e.trans hb,r1⟩,r2⟩,r3⟩,r4⟩
theorem iC.lt{w:World}{M:Nat}{l:jl}(h:iC w M l):M<w.heap.size:=by
 obtain⟨es,h,_⟩:=h;exact h.lt
theorem iC.walk{w:World}{M:Nat}{l:jl}(h:iC w M l):∃o,w.heap[M]?=some o/\o.isWalk=true/\o.isCells=false:=by
 obtain⟨es,⟨⟨D,n,⟨ms,clock,hb,r1⟩,r2⟩,r3⟩,r4⟩:=h;exact⟨_,hb,rfl,rfl⟩
theorem iC.look{w:World}{M:Nat}{l:jl}(h:iC w M l){s:ByteArray}(hs:Ub s):(Instr.lookup 161 (.map (some M)) (.string s) false).run Tryz.prog w=.ok (heldV (fnd l s)) w:=by
 obtain⟨es,h,_,hl⟩:=h;rw[h.look hs,(hl s).1]
theorem Da{l:jl}{s:ByteArray}{x y:Int}(h:fnd l s=some y)(t:ByteArray):fnd (l++ [(s,x)]) t=fnd l t:=by
 rw[fnd_append]
 cases e:fnd l t with
 | some z=>rfl
 | none=>
  simp only[fnd]
  by_cases e2:(s.toList==t.toList)=true
  ·rw[iU.1 e2,e]at h;cases h
  ·rw[if_neg e2]
theorem Db{l:jl}{s:ByteArray}{x:Int}(h:fnd l s=none)(t:ByteArray):fnd (l++ [(s,x)]) t=if s.toList==t.toList then some x else fnd l t:=by
 rw[fnd_append]
 by_cases e2:(s.toList==t.toList)=true
 ·rw[if_pos e2,<-iU.1 e2,h];simp[fnd]
 ·rw[if_neg e2]
  cases e:fnd l t with
  | some z=>rfl
  | none=>simp only[fnd];rw[if_neg e2]
theorem iC.Hu{w:World}{M:Nat}{l:jl}(h:iC w M l){s:ByteArray}{x y:Int}(hf:fnd l s=some y):iC w M (l++ [(s,x)]):=by
 obtain⟨es,hm,hl,hq⟩:=h;exact⟨es,hm,by simp;omega,fun t=>by rw[Da hf];exact hq t⟩
theorem iC.put{w:World}{M:Nat}{l:jl}(h:iC w M l){s:ByteArray}(hs:Ub s){x:Int}(hf:fnd l s=none)(hl:l.length<150000):
    ∃w',(Instr.mapUpdate 161 (.map (some M)) (.string s) (.agg #[.bool true,.int .i64 x])).run Tryz.prog w=.ok () w'/\iC w' M (l++ [(s,x)])/\w.grownBy w' (some M):=by
 obtain⟨es,hm,Nl,hq⟩:=h;have hn:lookP es s=none:=by
  have:=(hq s).2;rw[hf]at this
  cases e:lookP es s with
  | none=>rfl
  | some v=>rw[e]at this;cases this
 obtain⟨w',hr,hm',hg⟩:=hm.put hs (sK.1 hn) (by omega) (.agg #[.bool true,.int .i64 x]);refine⟨w',hr,⟨_,hm',by simp;omega,fun t=> ?_⟩,hg⟩;rw[Db hf,sM (sK.1 hn)]
 by_cases e:s=t
 ·subst e;simp[heldV]
 ·rw[if_neg (fun h=>e (nQ h)),if_neg (fun h=>e (iU.1 h))];exact hq t
theorem uI{t k e:TypeId}(ht:Tryz.prog.underlying t=some (.map k e))(n:Int)(w:World):(Instr.makeMap t (some (.int .i64 n))).run Tryz.prog w=.ok (.map (some w.heap.size)) (w.alloc (.map #[] 0)):=by
 simp[Instr.makeMap,run_underlying ht,asInt,asIntOf,Result.andThen]
theorem Ri{s:ByteArray}(h:s.size<=1000000000):Ub s:=by unfold Ub maxLen;omega
theorem Oy(a b:Value)(w:World):(Instr.field 141 (.agg #[a,b]) 0).run Tryz.prog w=.ok a w:=by kernel_rfl
theorem zG{O:Nat->Prop}{w:World}{p:Option Addr}{c:Nat}{l:jl}(h:ib O w p c l)(hO:∀k,O k->k<w.heap.size)(hz:vU l):
    Calls Tryz.prog 151 #[.slice p l.length c] w fun e w'=>(∃M,e=.returned (.map (some M))/\w.heap.size<=M/\iC w' M l)/\Below w.heap.size w w':=by
 obtain⟨n,hn⟩:∃n,l.length=n:=⟨_,rfl⟩;have HN:Hid (l.length=n):=hn;have pR:=hz.1;have hc:=h.1.1;rw[hn]at pR hc ⊢;clear hn;have hmm:=uI Tryz.underlying161;go_enter Tryz.func151,Tryz.ntmps151;go_wp2
 go_loopw [11] (fun i wr=>∃k:Nat,i=.int .i64 k/\k<=n/\iC wr w.heap.size (l.take k)/\Below w.heap.size w wr) (fun i _=>n - (intOf i).toNat)
 case atStart=>exact⟨0,rfl,Nat.zero_le _,iC.made w,(Below.refl _ _).alloc (Nat.le_refl _) _⟩
 case round=>
  clear hmm;obtain⟨k,rfl,hk,hm,ed⟩:=hrel
  by_cases mW:k<n
  ·have eQ:k<l.length:=by rw[HN.out];exact mW
   obtain⟨b,o,rfl,hb,h1,h2⟩:=h.at eQ;have ED:=(ed.cell (p:=⟨b,o+k*2,none⟩) (hO b hb)).trans h1;have Qs:=(ed.cell (p:=⟨b,o+k*2+1,none⟩) (hO b hb)).trans h2;have Q7:=ed.size;have Oh:=hO b hb;have jv:=Ri (hz.at eQ);have HT:Hid (l.take (k+1)=l.take k++ [l.getD k zN]):=jZ eQ;have HTL:Hid ((l.take k).length=k):=by show _=_;rw[List.length_take];omega
   generalize l.getD k zN=x at ED Qs HT jv;obtain⟨xn,xl⟩:=x;simp only at ED Qs jv;clear h1 h2;have hma:iC (wr.alloc (.cells #[.string xn,.int .i64 xl] 109)) w.heap.size (l.take k):=hm.same (Below.heap_alloc _ _ _ hm.lt);have nu:Hid (Below w.heap.size w (wr.alloc (.cells #[.string xn,.int .i64 xl] 109))):=ed.trans ((Below.refl _ _).alloc Q7 _);have vC:=hma.look jv;have hfl:=Oy
   cases hf:fnd (l.take k) xn with
   | none=>
    rw[hf]at vC;obtain⟨w2,CX,Rj,pU⟩:=hma.put jv (x:=xl) hf (by rw[HTL.out];omega);have HM2:Hid (iC w2 w.heap.size (l.take (k+1))):=by show iC _ _ _;rw[HT.out];exact Rj
    have sN:Hid (Below w.heap.size w w2):=nu.out.grown pU nu.out.size (fun q e=>by cases e;exact Nat.le_refl _);simp only[heldV]at vC;clear Rj pU hm hma hf;go_wp2;go_roundw
    case rel=>exact⟨k+1,by simp,by omega,HM2.out,sN.out⟩
    case measure=>simp[intOf];omega
   | some y=>
    rw[hf]at vC;have HM2:Hid (iC (wr.alloc (.cells #[.string xn,.int .i64 xl] 109)) w.heap.size (l.take (k+1))):=by show iC _ _ _;rw[HT.out];exact hma.Hu hf
    simp only[heldV]at vC;clear hm hma hf;go_wp2;go_roundw
    case rel=>exact⟨k+1,by simp,by omega,HM2.out,nu.out⟩
    case measure=>simp[intOf];omega
  ·obtain rfl:k=n:=by omega
   have HM:Hid (iC wr w.heap.size l):=by show iC _ _ _;rw[<-List.take_length (l:=l),HN.out];exact hm
   clear hm;go_wp2;go_ret;exact⟨⟨_,rfl,Nat.le_refl _,HM.out⟩,ed⟩
end Go.Proofs.YtldegjjaknelgaaGreatDoor

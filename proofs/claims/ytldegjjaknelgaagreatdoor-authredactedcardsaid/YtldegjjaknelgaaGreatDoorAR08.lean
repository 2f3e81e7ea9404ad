/- A part. -/
import Derived.Test.YtldegjjaknelgaaGreatDoorAR07
import Derived.Lib.SlBytesConst
import Derived.Deep.Cut
import Derived.RangeFuncNested
set_option maxRecDepth 100000
set_option maxHeartbeats 64000000
namespace Go.Proofs.YtldegjjaknelgaaGreatDoor
open Go.RowKit
theorem jo(n:Int)(h0:0<=n)(w:World):Calls Tryz.prog 99 #[.int .i64 n] w fun x w'=>x=.returned (.bool (cO n))/\w=w':=by
 by_cases h1:n<=1114111
 ·by_cases h2:n<55296
  ·have HL:Hid (cO n=true):=by show _=_;unfold cO;simp[h1,h2]
   go_enter Tryz.func99,Tryz.ntmps99;go_wp2;go_ret;refine⟨ai ?_,rfl⟩
   first| exact HL.out.symm| (rw[HL.out];simp;omega)
  ·have HL:Hid (cO n=decide (57344<=n)):=by show _=_;unfold cO;simp[h1,h2]
   go_enter Tryz.func99,Tryz.ntmps99;go_wp2;go_ret;refine⟨ai ?_,rfl⟩;rw[HL.out,decide_eq_decide];omega
 ·have HL:Hid (cO n=false):=by show _=_;unfold cO;simp[h1]
  go_enter Tryz.func99,Tryz.ntmps99;go_wp2;go_ret;refine⟨ai ?_,rfl⟩
  first| exact HL.out.symm| (rw[HL.out];simp;omega)
def Runes:Prop:=∀(s:ByteArray) (p:Nat) (w:World),p<s.size->s.size<=1000000000→
 Calls Tryz.prog 70 #[.string s,.int .i64 p] w fun x w'=>x=.returned (.tuple #[.int .i64 (bD (ints s) p).1,.int .i64 ((bD (ints s) p).2:Nat)])/\w=w'
def Av(r:Option Nat):Int:=match r with
 | none=> -1
 | some p=>p
theorem BI(V:Runes)(s:ByteArray)(w:World)(hs:s.size<=1000000000):Calls Tryz.prog 36 #[.string s] w fun x w'=>x=.returned (.int .i64 (Av (gY (ints s))))/\w=w':=by
 go_enter Tryz.func36,Tryz.ntmps36;go_wp2
 go_loopw [3] (fun i wr=>∃(p m:Nat),i=.int .i64 p/\p<=s.size+4/\s.size<=p+m/\strayL (ints s) m p=gY (ints s)/\wr=w) (fun i _=>s.size - (intOf i).toNat)
 case atStart=>exact⟨0,s.size,rfl,by omega,by omega,by unfold gY;rw[aH],rfl⟩
 case round=>
  obtain⟨p,m,rfl,VR,hpm,ny,rfl⟩:=hrel;have HS:Hid (strayL (ints s) m p=gY (ints s)):=ny;clear ny
  by_cases hp:p<s.size
  ·have hpc:(p:Int)<(s.size:Int):=by omega
   have hV:=V s p wr hp hs;obtain⟨m,rfl⟩:∃m',m=m'+1:=⟨m - 1,by omega⟩;unfold strayL at HS;rw[aH,if_pos hp]at HS;have GI:=xt (ints s) p;obtain⟨⟨c,wd⟩,hr⟩:∃r,bD (ints s) p=r:=⟨_,rfl⟩;rw[hr]at HS hV GI;simp only at HS hV GI;clear hr
   by_cases h0:wd=0
   ·subst h0;rw[if_pos rfl]at HS;go_wp2_with(go_at_call 70;refine hV.mono ?_;rintro x w' ⟨rfl,rfl⟩);go_ret;rw[<-HS.out];exact⟨rfl,rfl⟩
   ·rw[if_neg h0]at HS;have hwi:(wd:Int)≠0:=by omega
    go_wp2_with(go_at_call 70;refine hV.mono ?_;rintro x w' ⟨rfl,rfl⟩);go_roundw
    case rel=>exact⟨p+wd,m,by go_num,by omega,by omega,HS.out,trivial⟩
    case measure=>simp[intOf];omega
  ·go_wp2;go_ret;have hn:strayL (ints s) m p=none:=by
    cases m with
    | zero=>rfl
    | succ m=>unfold strayL;rw[aH,if_neg hp]
   rw[<-HS.out,hn];exact⟨rfl,rfl⟩
theorem fI{B:Nat}{a b c:World}(h:Below B a b)(hB:B<=b.heap.size)(g:Below b.heap.size b c):Below B a c:=h.trans ⟨g.os,g.tape,g.output,g.size,fun k hk=>g.block k (by omega)⟩
theorem D9{ks:List ByteArray}{m:Nat}(hm:m<ks.length):ks.getD m aN=ks[m]:=by
 rw[List.getD_eq_getElem?_getD,List.getElem?_eq_getElem hm];rfl
theorem lG:∀(d e:Nat) (j:J),d<=e->szJ e j=true->szJ d j=true
 | 0,_,_,_,_=>by unfold szJ;rfl
 | d+1,0,_,h,_=>by omega
 | d+1,e+1,.mk k i t ks l,h,hs=>by
  unfold szJ at hs ⊢;simp only[Bool.and_eq_true]at hs ⊢;refine⟨hs.1,hs.2.1,hs.2.2.1,hs.2.2.2.1, ?_⟩;rw[List.all_eq_true];intro x hx;exact lG d e x (by omega) (List.all_eq_true.1 hs.2.2.2.2 x hx)
def eU(j:J):J:=if goodJ 12 j=true then ord j else J.zero
theorem Sc{w:World}(o1 o2:Obj):((w.alloc o1).alloc o2).heap[w.heap.size+1]?=some o2:=by
 have:=heap_alloc_new (w.alloc o1) o2;simpa using this
theorem vU{w w2 w3:World}(h:Below w.heap.size w w2)(hk:av (One (w.heap.size+1)) w2 w3):Below w.heap.size w w3:=
 h.trans (hk.below h.size fun k Sd e=>by unfold One at e;omega)
theorem Ml{w:World}{O:Nat->Prop}{j:J}{k i:Int}{t:ByteArray}{pk pl:Option Addr}{nk ck nl cl:Nat}(hO:∀x,O x->x<w.heap.size)(fq:szJ 12 j=true)
    (hj:isJ O w j [.int .i64 k,.int .i64 i,.string t,.slice pk nk ck,.slice pl nl cl]):
    Calls Tryz.prog 143 #[.agg #[.int .i64 k,.int .i64 i,.string t,.slice pk nk ck,.slice pl nl cl]] w fun x w'=>(∃kr ir tr pr nr cr qr mr dr,x=.returned (.agg #[.int .i64 kr,.int .i64 ir,.string tr,.slice pr nr cr,.slice qr mr dr])/\isJ (fun b=>b<w'.heap.size) w' (eU j) [.int .i64 kr,.int .i64 ir,.string tr,.slice pr nr cr,.slice qr mr dr])/\Below w.heap.size w w':=by
 have BA:Below w.heap.size w ((w.alloc (.cells #[.int .i64 k,.int .i64 i,.string t,.slice pk nk ck,.slice pl nl cl] 25)).alloc (.cells #[.int .i64 0,.int .i64 0,.string ⟨#[]⟩,.slice none 0 0,.slice none 0 0] 25)):=((Below.refl _ _).alloc (Nat.le_refl _) _).alloc (by simp) _;obtain⟨wB,ug⟩:∃wB,wB=((w.alloc (.cells #[.int .i64 k,.int .i64 i,.string t,.slice pk nk ck,.slice pl nl cl] 25)).alloc (.cells #[.int .i64 0,.int .i64 0,.string ⟨#[]⟩,.slice none 0 0,.slice none 0 0] 25)):=⟨_,rfl⟩;have hA:wB.heap[w.heap.size]?=some (.cells #[.int .i64 k,.int .i64 i,.string t,.slice pk nk ck,.slice pl nl cl] 25 (0,0)):=by
  rw[ug,Below.heap_alloc _ _ _ (by simp)];exact heap_alloc_new _ _
 have hR:wB.heap[w.heap.size+1]?=some (.cells #[.int .i64 0,.int .i64 0,.string ⟨#[]⟩,.slice none 0 0,.slice none 0 0] 25 (0,0)):=by rw[ug];exact Sc _ _
 rw[<-ug]at BA;have V_:∀x,O x->x<wB.heap.size:=fun x hx=>Nat.lt_of_lt_of_le (hO x hx) BA.size;have NS:=hj.carry (O':=O) (w':=wB) fun x hx=>⟨hx,BA.block x (hO x hx)⟩;have hG:=xY V_ fq NS;have hsA:w.heap.size<wB.heap.size:=(Array.getElem?_eq_some_iff.1 hA).1;have V6:w.heap.size+1<wB.heap.size:=(Array.getElem?_eq_some_iff.1 hR).1;have c0:=wY hA
 cases hg:goodJ 12 j with
 | false=>
  have HZ:Hid (eU j=J.zero):=by show _=_;unfold eU;rw[hg];rfl
  rw[hg]at hG;rw[ug]at hG;clear hj NS c0;go_enter Tryz.func143,Tryz.ntmps143;go_wp2_with(go_at_call 110;refine hG.mono ?_;rintro x w2 ⟨rfl,aT⟩;rw[<-ug]at aT;have iI:=(aT.block _ V6).trans hR;obtain⟨i0,i1,i2,i3,i4⟩:=aM iI;obtain⟨z0,z1,z2,z3,z4⟩:=fD iI);have h5:=dG iI (.int .i64 0) (.int .i64 0) (.string ⟨#[]⟩) (.slice none 0 0) (.slice none 0 0);have dR:av (One (w.heap.size+1)) w2 _:=dH w2 (w.heap.size+1) (.int .i64 0) (.int .i64 0) (.string ⟨#[]⟩) (.slice none 0 0) (.slice none 0 0);unfold kK at h5 dR;obtain⟨k0,k1,k2,k3,k4⟩:=aM h5;refine bodyPost_ret (v:=.agg #[.int .i64 0,.int .i64 0,.string ⟨#[]⟩,.slice none 0 0,.slice none 0 0]) (by simp[results,Tryz.results143,go_sem,k0,k1,k2,k3,k4]) rfl ?_;refine⟨⟨_,_,_,_,_,_,_,_,_,rfl, ?_⟩,vU (aj BA aT) dR⟩;rw[HZ.out];exact xq _ _
 | true=>
  have HZ:Hid (eU j=ord j):=by show _=_;unfold eU;rw[hg];rfl
  have UH:Hid (goodJ 12 j=true):=hg;have HJ:Hid (isJ O wB j [.int .i64 k,.int .i64 i,.string t,.slice pk nk ck,.slice pl nl cl]):=NS;rw[hg]at hG;rw[ug]at hG;clear hj NS hg c0;go_enter Tryz.func143,Tryz.ntmps143;go_wp2_with(first
   | (go_at_call 110;refine hG.mono ?_;rintro x w2 ⟨rfl,aT⟩
      rw[<-ug]at aT;have Wd:=(aT.block _ hsA).trans hA;obtain⟨c0,c1,c2,c3,c4⟩:=aM Wd;have We:=R_ 12 w2 O j k i t pk pl nk ck nl cl (fun x hx=>Nat.lt_of_lt_of_le (V_ x hx) aT.size) UH.out fq (HJ.out.carry fun x hx=>⟨hx,aT.block x (V_ x hx)⟩))
   | (go_at_call 112;refine We.mono ?_;rintro x w4 ⟨kr,ir,tr,pr,nr,cr,qr,mr,dr,rfl,Aq,dB⟩
      have rY:=aj aT dB;have iI:=(rY.block _ V6).trans hR;obtain⟨i0,i1,i2,i3,i4⟩:=aM iI;obtain⟨z0,z1,z2,z3,z4⟩:=fD iI))
  have h5:=dG iI (.int .i64 kr) (.int .i64 ir) (.string tr) (.slice pr nr cr) (.slice qr mr dr);have dR:av (One (w.heap.size+1)) w4 _:=dH w4 (w.heap.size+1) (.int .i64 kr) (.int .i64 ir) (.string tr) (.slice pr nr cr) (.slice qr mr dr);unfold kK at h5 dR;obtain⟨k0,k1,k2,k3,k4⟩:=aM h5;refine bodyPost_ret (v:=.agg #[.int .i64 kr,.int .i64 ir,.string tr,.slice pr nr cr,.slice qr mr dr]) (by simp[results,Tryz.results143,go_sem,k0,k1,k2,k3,k4]) rfl ?_;refine⟨⟨_,_,_,_,_,_,_,_,_,rfl, ?_⟩,vU (aj BA rY) dR⟩;rw[HZ.out];refine Aq.carry fun x hx=> ?_;have bH:x<w4.heap.size/\x≠w.heap.size+1:=by
   have s2:=aT.size;have s4:=dB.size
   rcases hx with hx| hx
   ·have:=hO x hx;exact⟨by have:=BA.size;omega,by omega⟩
   ·have:=hx.1;exact⟨hx.2,by omega⟩
  exact⟨Nat.lt_of_lt_of_le bH.1 dR.size,dR.block x bH.1 (by unfold One;exact bH.2)⟩
abbrev jY:=List (ByteArray×Int)
theorem D_{a b:ByteArray}(h:a.toList=b.toList):a=b:=by
 rw[Lib.toList_data,Lib.toList_data]at h
 cases a;cases b
 exact congrArg ByteArray.mk (Array.toList_inj.1 h)
theorem ib{a b:ByteArray}:(a.toList==b.toList)=true↔a=b:=by
 constructor
 ·intro h;exact D_ (by simpa using h)
 ·rintro rfl;simp
def fnd:jY->ByteArray->Option Int
 | [],_=>none
 | p::r,s=>if p.1.toList==s.toList then some p.2 else fnd r s
theorem fnd_append(a b:jY)(s:ByteArray):fnd (a++b) s=match fnd a s with| some x=>some x| none=>fnd b s:=by
 induction a with
 | nil=>rfl
 | cons p r ih=>
  simp only[List.cons_append,fnd]
  split
  ·rfl
  ·exact ih
theorem mK{α:Type}{l:List α}{k:Nat}{z:α}(h:k<l.length):l.take (k+1)=l.take k++ [l.getD k z]:=by
 rw[List.take_add_one,List.getElem?_eq_getElem h,List.getD_eq_getElem?_getD,List.getElem?_eq_getElem h];rfl
theorem Aw{α:Type}{l:List α}{k:Nat}{z:α}(h:k<l.length):l=l.take k++(l.getD k z::l.drop (k+1)):=by
 rw[List.getD_eq_getElem?_getD,List.getElem?_eq_getElem h,Option.getD_some,<-List.drop_eq_getElem_cons h,List.take_append_drop]
abbrev zN:ByteArray×Int:=(⟨#[]⟩,0)
theorem O7{l:jY}{s:ByteArray}{k:Nat}(h:fnd (l.take k) s=none)(hk:k<l.length)(he:((l.getD k zN).1.toList==s.toList)=false):fnd (l.take (k+1)) s=none:=by
 rw[mK (z:=zN) hk,fnd_append,h];simp only[fnd,he]
 rfl
theorem Sg{l:jY}{s:ByteArray}{k:Nat}(h:fnd (l.take k) s=none)(hk:k<l.length)(he:((l.getD k zN).1.toList==s.toList)=true):fnd l s=some (l.getD k zN).2:=by
 conv=>lhs;rw[Aw (z:=zN) hk,fnd_append,h]
 simp only[fnd,he,if_pos]
structure Lv where
 wN:Int
 kX:Int
 gN:Int
 kQ:Int
 state:Int
 events:Int
 mM:Int
 lS:jY
 lT:jY
def O8(l:Lv)(u:ByteArray):Int:=(fnd l.lS u).getD l.mM
def Ay(l:Lv)(t:ByteArray)(st:Bool):Int:=(fnd l.lT t).getD (if st then l.state else l.events)
abbrev BJ:ByteArray:=⟨#[98,97,110]⟩
abbrev sS:ByteArray:=⟨#[107,105,99,107]⟩
abbrev kg:ByteArray:=⟨#[105,110,118,105,116,101]⟩
abbrev ko:ByteArray:=⟨#[114,101,100,97,99,116]⟩
abbrev nR:ByteArray:=⟨#[115,116,97,116,101,95,100,101,102,97,117,108,116]⟩
abbrev ku:ByteArray:=⟨#[101,118,101,110,116,115,95,100,101,102,97,117,108,116]⟩
abbrev nS:ByteArray:=⟨#[117,115,101,114,115,95,100,101,102,97,117,108,116]⟩
abbrev gF:ByteArray:=⟨#[117,115,101,114,115]⟩
abbrev gG:ByteArray:=⟨#[101,118,101,110,116,115]⟩
def nums(l:Lv):jY:= [(BJ,l.wN),(sS,l.kX),(kg,l.gN),(ko,l.kQ),(nR,l.state),(ku,l.events),(nS,l.mM)]
structure iZ where
 name:ByteArray
 F8:Option Int
 next:Option Int
def Si(a b:jY)(p:ByteArray×Int):iZ:=⟨p.1,fnd a p.1,fnd b p.1⟩
def iZ.turns(c:iZ):Bool:= !(c.F8==c.next)
def xZ(a b l:jY):List iZ:=(l.map (Si a b)).filter iZ.turns
theorem O9(a b l:jY)(p:ByteArray×Int):xZ a b (l++ [p])=if(Si a b p).turns=true then xZ a b l++ [Si a b p]else xZ a b l:=by
 unfold xZ;rw[List.map_append,List.filter_append]
 by_cases h:(Si a b p).turns=true
 ·rw[if_pos h];simp[h]
 ·rw[if_neg h];simp[h]
theorem Sj(a b l:jY):(xZ a b l).length<=l.length:=by
 unfold xZ;exact Nat.le_trans (List.length_filter_le _ _) (by simp)
def over(s:Int):Option Int->Bool
 | none=>false
 | some x=>decide (s<x)
def least(s:Int):Option Int->Bool
 | none=>false
 | some x=>decide (s<=x)
def iZ.iR(s:Int)(c:iZ):Bool:=over s c.F8 || over s c.next
def iZ.bad(u:ByteArray)(s:Int)(c:iZ):Bool:=c.iR s || (!(c.name.toList==u.toList)&&least s c.F8)
def quiet(f:iZ->Bool)(a b:jY):Bool:= !(xZ a b (a++b)).any f
def Ea(a b:Lv)(u:ByteArray):Bool:=quiet (iZ.iR (O8 a u)) (nums a) (nums b)&&(quiet (iZ.iR (O8 a u)) a.lT b.lT&&quiet (iZ.bad u (O8 a u)) a.lS b.lS)
theorem Mm(b o j:Nat):(⟨b,o,none⟩:Addr).add j=⟨b,o+j,none⟩:=by unfold Addr.add;split<;>simp_all
def je(O:Nat->Prop)(w:World)(p:Option Addr)(c:Nat)(l:jY):Prop:=
 (l.length<=c/\(p=none->c=0))/\(l≠ []->∃b o,p=some ⟨b,o,none⟩/\O b/\∀j x,l[j]?=some x->w.cell? ⟨b,o+j*2,none⟩=some (.string x.1)/\w.cell? ⟨b,o+j*2+1,none⟩=some (.int .i64 x.2))
theorem je.nil(O:Nat->Prop)(w:World)(p:Option Addr)(c:Nat)(h:p=none->c=0):je O w p c []:=⟨⟨Nat.zero_le _,h⟩,fun h=>absurd rfl h⟩
theorem je.carry{O O':Nat->Prop}{w w':World}{p:Option Addr}{c:Nat}{l:jY}(h:je O w p c l)(hO:∀k,O k->O' k/\w'.heap[k]?=w.heap[k]?):je O' w' p c l:=
 ⟨h.1,fun hn=>by
  obtain⟨b,o,hp,hb,hc⟩:=h.2 hn;exact⟨b,o,hp,(hO b hb).1,fun j x hj=>⟨(World.cell?_of_block (hO b hb).2).trans (hc j x hj).1,(World.cell?_of_block (hO b hb).2).trans (hc j x hj).2⟩⟩⟩
theorem je.below{O:Nat->Prop}{w w':World}{p:Option Addr}{c:Nat}{l:jY}{B:Nat}(h:je O w p c l)(hO:∀k,O k->k<B)(hb:Below B w w'):je O w' p c l:=h.carry fun k hk=>⟨hk,hb.block k (hO k hk)⟩
theorem je.at{O:Nat->Prop}{w:World}{p:Option Addr}{c:Nat}{l:jY}(h:je O w p c l){j:Nat}(hj:j<l.length):∃b o,p=some ⟨b,o,none⟩/\O b/\w.cell? ⟨b,o+j*2,none⟩=some (.string (l.getD j zN).1)/\w.cell? ⟨b,o+j*2+1,none⟩=some (.int .i64 (l.getD j zN).2):=by
 obtain⟨b,o,hp,hb,hc⟩:=h.2 (by rintro rfl;simp at hj);have:=hc j (l.getD j zN) (by rw[List.getD_eq_getElem?_getD,List.getElem?_eq_getElem hj];rfl);exact⟨b,o,hp,hb,this.1,this.2⟩
def zk(l:jY):Prop:=l.length<=100000/\∀p∈l,p.1.size<=1000000000
theorem zk.at{l:jY}(h:zk l){j:Nat}(hj:j<l.length):(l.getD j zN).1.size<=1000000000:=by
 rw[List.getD_eq_getElem?_getD,List.getElem?_eq_getElem hj];exact h.2 _ (List.getElem_mem hj)
structure Pl where
 pu:Option Addr
 cu:Nat
 pt:Option Addr
 ct:Nat
abbrev aY(l:Lv)(p:Pl):List Value:= [.int .i64 l.wN,.int .i64 l.kX,.int .i64 l.gN,.int .i64 l.kQ,.int .i64 l.state,.int .i64 l.events,.int .i64 l.mM,.slice p.pu l.lS.length p.cu,.slice p.pt l.lT.length p.ct]
abbrev jc(l:Lv)(p:Pl):Value:=.agg (aY l p).toArray
structure BK(O:Nat->Prop)(w:World)(l:Lv)(p:Pl):Prop where
 us:je O w p.pu p.cu l.lS
 ty:je O w p.pt p.ct l.lT
structure O_(l:Lv):Prop where
 us:zk l.lS
 ty:zk l.lT
theorem BK.carry{O O':Nat->Prop}{w w':World}{l:Lv}{p:Pl}(h:BK O w l p)(hO:∀k,O k->O' k/\w'.heap[k]?=w.heap[k]?):BK O' w' l p:=⟨h.us.carry hO,h.ty.carry hO⟩
theorem BK.below{O:Nat->Prop}{w w':World}{l:Lv}{p:Pl}{B:Nat}(h:BK O w l p)(hO:∀k,O k->k<B)(hb:Below B w w'):BK O w' l p:=⟨h.us.below hO hb,h.ty.below hO hb⟩
theorem Az{O:Nat->Prop}{w:World}{p:Option Addr}{c:Nat}{l:jY}(h:je O w p c l)(hO:∀k,O k->k<w.heap.size)(hz:zk l)(s:ByteArray)(d:Int):
    Calls Tryz.prog 91 #[.slice p l.length c,.string s,.int .i64 d] w fun e w'=>e=.returned (.int .i64 ((fnd l s).getD d))/\Below w.heap.size w w':=by
 obtain⟨n,hn⟩:∃n,l.length=n:=⟨_,rfl⟩;have HN:Hid (l.length=n):=hn;have oI:=hz.1;have hc:=h.1.1;rw[hn]at oI hc ⊢;clear hn;go_enter Tryz.func91,Tryz.ntmps91;go_wp2
 go_loopw [11] (fun i wr=>∃k:Nat,i=.int .i64 k/\k<=n/\fnd (l.take k) s=none/\Below w.heap.size w wr) (fun i _=>n - (intOf i).toNat)
 case atStart=>exact⟨0,rfl,Nat.zero_le _,rfl,Below.refl _ _⟩
 case round=>
  obtain⟨k,rfl,hk,hf,gX⟩:=hrel
  by_cases sO:k<n
  ·have fG:k<l.length:=by rw[HN.out];exact sO
   obtain⟨b,o,rfl,hb,h1,h2⟩:=h.at fG;have J5:=(gX.cell (p:=⟨b,o+k*2,none⟩) (hO b hb)).trans h1;have Om:=(gX.cell (p:=⟨b,o+k*2+1,none⟩) (hO b hb)).trans h2;have NT:=gX.size;have OU:=hO b hb
   cases he:((l.getD k zN).1.toList==s.toList)with
   | true=>
    have HF:Hid (fnd l s=some (l.getD k zN).2):=Sg hf fG he;generalize l.getD k zN=x at J5 Om he HF;obtain⟨xn,xl⟩:=x;simp only at J5 Om he;clear h1 h2 hf;go_wp2;go_ret;refine⟨by rw[HF.out];rfl, ?_⟩;exact gX.trans (((Below.refl _ _).alloc NT _))
   | false=>
    have HF:Hid (fnd (l.take (k+1)) s=none):=O7 hf fG he;generalize l.getD k zN=x at J5 Om he;obtain⟨xn,xl⟩:=x;simp only at J5 Om he;clear h1 h2 hf;go_wp2;go_roundw
    case rel=>exact⟨k+1,by simp,by omega,HF.out,gX.trans (((Below.refl _ _).alloc NT _))⟩
    case measure=>simp[intOf];omega
  ·obtain rfl:k=n:=by omega
   have HF:Hid (fnd l s=none):=by show _=_;rw[<-List.take_length (l:=l),HN.out];exact hf
   clear hf;go_wp2;go_ret;exact⟨by rw[HF.out];rfl,gX⟩
theorem bR{w:World}(o:Obj):(w.alloc o).heap[w.heap.size]?=some o:=heap_alloc_new w o
theorem ah{a b c:World}(h:Below a.heap.size a b)(g:Below b.heap.size b c):Below a.heap.size a c:=h.trans ⟨g.os,g.tape,g.output,g.size,fun k hk=>g.block k (by have:=h.size;omega)⟩
theorem aO{w:World}{b:Nat}{o:Obj}(h:w.heap[b]?=some o):b<w.heap.size:=(Array.getElem?_eq_some_iff.1 h).1
theorem ay{w:World}{b t:Nat}{cur:Array Value}{fr:Nat×Nat}(h:w.heap[b]?=some (.cells cur t fr))(j:Nat)(v:Value)(hj:cur[j]?=some v):w.cell? ⟨b,j,none⟩=some v:=by
 simp[World.cell?,h,hj]
theorem ou{w:World}{b t:Nat}{cur:Array Value}(h:w.heap[b]?=some (.cells cur t (0,0)))(j:Nat):w.frozen? ⟨b,j,none⟩=false:=frozen_of_row w b j _ _ h
def aQ(b:Nat):Nat->Prop:=fun k=>k=b
def setL(w:World)(b:Nat):Nat->List Value->World
 | _, []=>w
 | i,v::r=>setL (w.setCell ⟨b,i,none⟩ v) b (i+1) r
theorem gV(b:Nat):∀(vs:List Value) (w:World) (i:Nat),av (aQ b) w (setL w b i vs)
 | [],w,_=>av.refl _ w
 | v::r,w,i=>by
  unfold setL;exact(av.setCell (p:=⟨b,i,none⟩) (av.refl (aQ b) w) (fun _=>(rfl:b=b)) v).then (gV b r _ (i+1))
theorem AA(b t:Nat):∀(vs pre cur:List Value) (w:World),w.heap[b]?=some (.cells (pre++cur).toArray t (0,0))->cur.length=vs.length->(setL w b pre.length vs).heap[b]?=some (.cells (pre++vs).toArray t (0,0))
 | [],pre,cur,w,h,hl=>by
  obtain rfl:cur= []:=List.eq_nil_of_length_eq_zero hl;exact h
 | v::r,pre,c::cur,w,h,hl=>by
  unfold setL;have h0:(w.setCell ⟨b,pre.length,none⟩ v).heap[b]?=some (.cells ((pre++ [v])++cur).toArray t (0,0)):=by
   rw[heap_setCell_same w b pre.length _ _ _ h];simp
  have:=AA b t r (pre++ [v]) cur _ h0 (by simpa using hl);rw[List.length_append]at this;simpa using this
theorem jI{w:World}{b t:Nat}{cur:List Value}(vs:List Value)(h:w.heap[b]?=some (.cells cur.toArray t (0,0)))(hl:cur.length=vs.length):(setL w b 0 vs).heap[b]?=some (.cells vs.toArray t (0,0)):=AA b t vs [] cur w h hl
def flatN:jY->List Value
 | []=> []
 | x::r=>.string x.1::.int .i64 x.2::flatN r
theorem mO:∀l:jY,(flatN l).length=l.length*2
 | []=>rfl
 | x::r=>by simp only[flatN,List.length_cons,mO r];omega
theorem sU:∀a b:jY,flatN (a++b)=flatN a++flatN b
 | [],_=>rfl
 | x::r,b=>by simp only[List.cons_append,flatN,sU r b]
theorem x8:∀(l:jY) (j:Nat) (x:ByteArray×Int),l[j]?=some x->(flatN l)[j*2]?=some (.string x.1)/\(flatN l)[j*2+1]?=some (.int .i64 x.2)
 | [],_,_,h=>by simp at h
 | y::r,0,x,h=>by simp at h;subst h;exact⟨rfl,rfl⟩
 | y::r,j+1,x,h=>by
  have:=x8 r j x (by simpa using h);rw[show(j+1)*2=j*2+1+1 by omega];exact this
theorem Pb{w:World}{O:Nat->Prop}{b t o c:Nat}{fr:Nat×Nat}{l:jY}{cur:List Value}(hO:O b)(h:w.heap[b]?=some (.cells cur.toArray t fr))(hl:l.length<=c)(hc:∀j,j<(flatN l).length->cur[o+j]?=(flatN l)[j]?):je O w (some ⟨b,o,none⟩) c l:=by
 refine⟨⟨hl,fun h=>by cases h⟩,fun _=>⟨b,o,rfl,hO,fun j x hj=> ?_⟩⟩;have bH:j<l.length:=(List.getElem?_eq_some_iff.1 hj).1;have hf:=x8 l j x hj;have hn:=mO l;refine⟨ay h _ _ ?_,ay h _ _ ?_⟩
 ·have:=hc (j*2) (by omega);rw[hf.1]at this;simpa using this
 ·have:=hc (j*2+1) (by omega);rw[hf.2]at this;simpa [Nat.add_assoc]using this
theorem mP{w:World}{O:Nat->Prop}{b t:Nat}{fr:Nat×Nat}{l:jY}(hO:O b)(h:w.heap[b]?=some (.cells (flatN l).toArray t fr)):je O w (some ⟨b,0,none⟩) l.length l:=
 Pb hO h (Nat.le_refl _) fun j _=>by rw[Nat.zero_add]
theorem Ik{w:World}{b t:Nat}{a0 a1 a2 a3 a4 a5 a6 a7 a8:Value}(h:w.heap[b]?=some (.cells #[a0,a1,a2,a3,a4,a5,a6,a7,a8] t (0,0))):(loadVar 47 ⟨b,0,none⟩).run Tryz.prog w=.ok (.agg #[a0,a1,a2,a3,a4,a5,a6,a7,a8]) w:=by
 have k0:=ay h 0 _ rfl;have k1:=ay h 1 _ rfl;have k2:=ay h 2 _ rfl;have k3:=ay h 3 _ rfl;have k4:=ay h 4 _ rfl;have k5:=ay h 5 _ rfl;have k6:=ay h 6 _ rfl;have k7:=ay h 7 _ rfl;have k8:=ay h 8 _ rfl;simp[loadVar,go_sem,k0,k1,k2,k3,k4,k5,k6,k7,k8]
theorem gz{fn:Func}{a:Tmp}{t:TypeId}(h:fn.results=#[.cell a t])(tmps:Array Value)(P:Program)(w:World){ad:Addr}{v:Value}(hp:tmps.getD a undef=.pointer (some ad))(hl:(loadVar t ad).run P w=.ok v w):
    (results fn tmps).run P w=.ok v w:=by
 rw[Array.getD_eq_getD_getElem?]at hp;simp[results,h,hp,hl,asAddr]
theorem Ec{d:Nat}(ih:∀j,goodJ d j=true->szJ d j=true->szJ d (ord j)=true):∀l:List J,l.all (goodJ d)=true->l.all (szJ d)=true->(ordL l).all (szJ d)=true
 | [],_,_=>rfl
 | j::r,hg,hs=>by
  rw[List.all_cons,Bool.and_eq_true]at hg hs;rw[ordL,List.all_cons,ih j hg.1 hs.1,Ec ih r hg.2 hs.2]
  rfl
theorem wZ:∀(d:Nat) (j:J),goodJ d j=true->szJ d j=true->szJ d (ord j)=true
 | 0,j,_,_=>by unfold szJ;rfl
 | d+1,.mk k i t ks l,hg,hs=>by
  obtain⟨DY,iw,DZ⟩:=gM hg;unfold szJ at hs;simp only[Bool.and_eq_true,decide_eq_true_eq]at hs;obtain⟨hts,sO,qf,su,Ao⟩:=hs;have hol:=Ec (wZ d) l DY Ao
  by_cases h5:k=5
  ·subst h5;have dP:ks.length=(ordL l).length:=by rw[bU];exact(iw rfl).1
   have p1:=vS dP;have p2:=lF dP;rw[ord,if_pos rfl];unfold mapOf szJ;simp only[Bool.and_eq_true,decide_eq_true_eq];refine⟨by decide,by rw[p1.length_eq];exact sO, ?_,by rw[p2.length_eq,bU];exact su, ?_⟩
   ·rw[List.all_eq_true]at qf ⊢;exact fun x hx=>qf x (p1.subset hx)
   ·rw[List.all_eq_true]at hol ⊢;exact fun x hx=>hol x (p2.subset hx)
  ·rw[ord,if_neg h5];unfold szJ;simp only[Bool.and_eq_true,decide_eq_true_eq];exact⟨hts,by simp,by rfl,by rw[bU];exact su,hol⟩
def Il(d:Nat)(j:J):Prop:=goodJ d j=true/\inOrd j=true/\szJ d j=true
theorem Ed{j:J}(hs:szJ 12 j=true):Il 12 (eU j):=by
 unfold eU
 split
 ·rename_i hg;exact⟨kN 12 j hg,uE 12 j hg,wZ 12 j hg hs⟩
 ·exact⟨by kernel_rfl,by kernel_rfl,by kernel_rfl⟩
theorem Il.parts{d:Nat}{k i:Int}{t:ByteArray}{ks:List ByteArray}{l:List J}(h:Il (d+1) (.mk k i t ks l)):
    rises ks=true/\(k=5->ks.length=l.length)/\(k≠5->ks= [])/\ks.length<=100000/\(∀x∈ks,x.size<=1000000000)/\∀x∈l,Il d x:=by
 obtain⟨hg,ho,hs⟩:=h;obtain⟨DY,iw,DZ⟩:=gM hg;rw[inOrd,Bool.and_eq_true,kP]at ho;unfold szJ at hs;simp only[Bool.and_eq_true,decide_eq_true_eq]at hs;obtain⟨_,sO,qf,_,Ao⟩:=hs;refine⟨ho.1,fun e=>(iw e).1,DZ,sO,fun x hx=>by simpa using List.all_eq_true.1 qf x hx,fun x hx=>⟨List.all_eq_true.1 DY x hx,ho.2 x hx,List.all_eq_true.1 Ao x hx⟩⟩
theorem Il.lens{d:Nat}{k i:Int}{t:ByteArray}{ks:List ByteArray}{l:List J}(h:Il (d+1) (.mk k i t ks l)):ks.length<=l.length:=by
 obtain⟨_,h5,hn,_⟩:=h.parts
 by_cases e:k=5
 ·exact Nat.le_of_eq (h5 e)
 ·rw[hn e];exact Nat.zero_le _
def J.ks:J->List ByteArray
 | .mk _ _ _ ks _=>ks
def J.ls:J->List J
 | .mk _ _ _ _ l=>l
def J.kd:J->Int
 | .mk k _ _ _ _=>k
def J.nm:J->Int
 | .mk _ i _ _ _=>i
theorem Pd{a b:ByteArray}(h:iN a b=true):a≠b:=by
 intro e;subst e;rw[kI]at h;cases h
def lookV:List ByteArray->List J->ByteArray->Option J
 | k::ks,v::l,s=>if k.toList==s.toList then some v else lookV ks l s
 | _,_,_=>none
theorem Ee:∀{ks:List ByteArray} {l:List J} {s:ByteArray} {n:Nat},ks.length<=l.length->n<ks.length->ks.getD n aN=s->(∀m,m<n->ks.getD m aN≠s)->lookV ks l s=some (l.getD n J.zero)
 | [],_,_,_,_,h,_,_=>absurd h (by simp)
 | _::_, [],_,_,h,_,_,_=>absurd h (by simp)
 | k::ks,v::l,s,0,_,_,he,_=>by
  have he:k=s:=by simpa using he
  subst he;simp[lookV]
 | k::ks,v::l,s,n+1,h1,h2,he,hm=>by
  have h0:k≠s:=by have:=hm 0 (by omega);simpa using this
  unfold lookV;rw[if_neg (fun e=>h0 (ib.1 e)),Ee (n:=n) (by simpa using h1) (by simpa using h2) (by simpa using he) (fun m h=>by have:=hm (m+1) (by omega);simpa using this)];simp
theorem x9:∀{ks:List ByteArray} {l:List J} {s:ByteArray},s∉ks->lookV ks l s=none
 | [],_,_,_=>by unfold lookV;rfl
 | k::ks, [],_,_=>by unfold lookV;rfl
 | k::ks,v::l,s,h=>by
  unfold lookV;rw[if_neg (fun e=>h (by simp[ib.1 e]))];exact x9 (fun h'=>h (by simp[h']))
theorem jv:∀{ks:List ByteArray} {l:List J} {s:ByteArray} {v:J},lookV ks l s=some v->v∈l
 | [],_,_,_,h=>by unfold lookV at h;cases h
 | _::_, [],_,_,h=>by unfold lookV at h;cases h
 | k::ks,x::l,s,v,h=>by
  unfold lookV at h
  split at h
  ·cases h;simp
  ·exact List.mem_cons_of_mem _ (jv h)
theorem sV:∀{ks:List ByteArray},rises ks=true->∀{m n:Nat},m<n->n<ks.length->iN (ks.getD m aN) (ks.getD n aN)=true
 | [],_,_,_,_,h=>absurd h (by simp)
 | k::ks,h,0,n+1,_,hn=>by
  rw[rises,Bool.and_eq_true]at h;have Sl:n<ks.length:=by simpa using hn
  have:=List.all_eq_true.1 h.1 ks[n] (List.getElem_mem Sl);simpa [List.getD_eq_getElem?_getD,List.getElem?_eq_getElem Sl]using this
 | k::ks,h,m+1,n+1,CY,hn=>by
  rw[rises,Bool.and_eq_true]at h;have:=sV h.2 (m:=m) (n:=n) (by omega) (by simpa using hn);simpa using this
theorem qz:∀x y:List UInt8,Op.bytesLess x y=lessB x y
 | _, []=>by cases ‹List UInt8› <;>rfl
 | [],_::_=>rfl
 | a::x,b::y=>by
  unfold Op.bytesLess lessB;rw[qz x y]
  cases h:decide (a=b)<;>simp_all
theorem Mo(a b:ByteArray):Op.bytesLess a.toList b.toList=iN a b:=by
 rw[qz];unfold iN;rw[Lib.toList_data,Lib.toList_data]
theorem Pe{w:World}(s:ByteArray):Calls Tryz.prog 215 #[.string s] w fun e w'=>e=.returned (.bool false)/\w=w':=by
 go_enter Tryz.func215,Tryz.ntmps215;go_wp2;go_ret;exact⟨by simp,rfl⟩
theorem Pf{w:World}(s:ByteArray):Calls Tryz.prog 198 #[.string s] w fun e w'=>e=.returned (.bool false)/\w=w':=by
 go_enter Tryz.func198,Tryz.ntmps198;go_wp2;go_ret;exact⟨by simp,rfl⟩
theorem Pg{w:World}(s t:ByteArray):Calls Tryz.prog 197 #[.string s,.string t] w fun e w'=>e=.returned (.bool (iN s t))/\w=w':=by
 have hl:=Mo s t;go_enter Tryz.func197,Tryz.ntmps197;go_wp2_with(go_at_call 215;refine(Pe s).mono ?_;rintro e w' ⟨rfl,rfl⟩);go_ret;exact⟨rfl,rfl⟩
structure At(ks:List ByteArray)(s:ByteArray)(n:Nat):Prop where
 le:n<=ks.length
 lo:∀m,m<n->iN (aC ks m) s=true
 hi:∀m,n<=m->m<ks.length->iN (aC ks m) s=false
theorem Im{O:Nat->Prop}{w:World}{p:Option Addr}{c:Nat}{ks:List ByteArray}(h:ig O w p c ks)(hr:rises ks=true)(hn:ks.length<=100000)(s:ByteArray):
    Calls Tryz.prog 184 #[.slice p ks.length c,.string s] w fun e w'=>(∃n:Nat,e=.returned (.tuple #[.int .i64 n,.bool (decide (n<ks.length)&&((aC ks n).toList==s.toList))])/\At ks s n)/\w=w':=by
 obtain⟨m,hm⟩:∃m,ks.length=m:=⟨_,rfl⟩;have HM:Hid (ks.length=m):=hm;have hc:=h.1;rw[hm]at hn hc ⊢;clear hm;have HR:Hid (rises ks=true):=hr;clear hr;go_enter Tryz.func184,Tryz.ntmps184;go_wp2
 go_loopw [7,8] (fun i j wr=>(∃a b:Nat,i=.int .i64 a/\j=.int .i64 b/\a<=b/\b<=m/\Hid ((∀x,x<a->iN (aC ks x) s=true)/\(∀x,b<=x->x<ks.length->iN (aC ks x) s=false)))/\wr=w) (fun i j _=>(intOf j).toNat - (intOf i).toNat)
 case atStart=>exact⟨⟨0,m,rfl,rfl,Nat.zero_le _,Nat.le_refl _,fun x hx=>absurd hx (by omega),fun x h1 h2=>absurd h2 (by rw[HM.out];omega)⟩,rfl⟩
 case round=>
  obtain⟨⟨a,b,rfl,rfl,jH,hbm,FW⟩,Sm⟩:=hrel;rw[Sm];clear Sm
  by_cases bH:a<b
  ·go_upto_region 5 with fail
   obtain⟨h2,he⟩:∃h2:Nat,((a:Int)+b) / 2=h2/\a<=h2/\h2<b:=⟨(a+b) / 2,by omega,by omega,by omega⟩;have HE:Hid (a<=h2/\h2<b):=he.2;rw[he.1];clear he;have hkm:h2<m:=by have:=HE.out;omega
   have fG:h2<ks.length:=by rw[HM.out];exact hkm
   obtain⟨ad,rfl,_,Dq⟩:=h.2 h2 fG;have Mq:Hid (∀x,x<h2->iN (aC ks x) (aC ks h2)=true):=fun x hx=>sV HR.out hx fG;have HGT:Hid (∀x,h2<x->x<ks.length->iN (aC ks h2) (aC ks x)=true):=fun x hx hl=>sV HR.out hx hl;have HIN:Hid ((∀x,x<a->iN (aC ks x) s=true)/\(∀x,b<=x->x<ks.length->iN (aC ks x) s=false)):=FW;change w.cell? (ad.add h2)=some (.string (aC ks h2))at Dq;generalize hK:aC ks h2=K at Dq Mq HGT;have HKK:Hid (aC ks h2=K):=hK;clear hK FW fG;have KV:=Pg (w:=w) K s
   cases hl:iN K s with
   | true=>
    have HL:Hid (iN K s=true):=hl;rw[hl]at KV;clear hl;go_wp2_with(go_at_call 197;refine KV.mono ?_;rintro e w' ⟨rfl,rfl⟩);go_roundw
    case rel=>
     have:=HE.out;refine⟨⟨h2+1,b,by simp,rfl,by omega,hbm,fun x hx=> ?_,HIN.out.2⟩,trivial⟩
     by_cases e:x=h2
     ·subst e;rw[HKK.out];exact HL.out
     ·exact iB (Mq.out x (by omega)) HL.out
    case measure=>have:=HE.out;simp[intOf];omega
   | false=>
    have HL:Hid (iN K s=false):=hl;rw[hl]at KV;clear hl;go_wp2_with(go_at_call 197;refine KV.mono ?_;rintro e w' ⟨rfl,rfl⟩);go_roundw
    case rel=>
     have:=HE.out;refine⟨⟨a,h2,rfl,rfl,by omega,by omega,HIN.out.1,fun x h1 h3=> ?_⟩,trivial⟩
     by_cases e:x=h2
     ·subst e;rw[HKK.out];exact HL.out
     ·cases hx:iN (aC ks x) s with
      | false=>rfl
      | true=>
       have:=iB (HGT.out x (by omega) h3) hx;rw[HL.out]at this
       cases this
    case measure=>have:=HE.out;simp[intOf];omega
  ·obtain rfl:a=b:=by omega
   have HIN:Hid (At ks s a):=⟨by rw[HM.out];exact hbm,FW.out.1,FW.out.2⟩;clear FW
   by_cases ham:a<m
   ·obtain⟨ad,rfl,_,Dq⟩:=h.2 a (by rw[HM.out];exact ham);change w.cell? (ad.add a)=some (.string (aC ks a))at Dq;have Pj:Hid (∀v,v=(.tuple #[.int .i64 a,.bool (decide (a<m)&&((aC ks a).toList==s.toList))]:Value)->∃n:Nat,Ending.returned v=.returned (.tuple #[.int .i64 n,.bool (decide (n<m)&&((aC ks n).toList==s.toList))])/\At ks s n):=fun v hv=>⟨a,by rw[hv],HIN.out⟩;generalize aC ks a=K at Dq Pj;have Mr:=Pf (w:=w) K
    cases hq:(K.toList==s.toList)with
    | true=>
     rw[hq]at Pj;go_wp2;go_ret2;exact⟨Pj.out _ (by simp[ham]),rfl⟩
    | false=>
     rw[hq]at Pj;go_wp2_with(go_at_call 198;refine Mr.mono ?_;rintro e w' ⟨rfl,rfl⟩);go_ret2;exact⟨Pj.out _ (by simp),rfl⟩
   ·have Pj:Hid (∀v,v=(.tuple #[.int .i64 a,.bool false]:Value)->∃n:Nat,Ending.returned v=.returned (.tuple #[.int .i64 n,.bool (decide (n<m)&&((aC ks n).toList==s.toList))])/\At ks s n):=fun v hv=>⟨a,by rw[hv];simp[ham],HIN.out⟩;go_wp2;go_ret2;exact⟨Pj.out _ rfl,rfl⟩
theorem bL{fn:Func}{a u:Tmp}{t:TypeId}(h:fn.results=#[.cell a t,.tmp u])(tmps:Array Value)(P:Program)(w:World){ad:Addr}{v:Value}(hp:tmps.getD a undef=.pointer (some ad))(hl:(loadVar t ad).run P w=.ok v w):
    (results fn tmps).run P w=.ok (.tuple #[v,tmps.getD u undef]) w:=by
 rw[Array.getD_eq_getD_getElem?]at hp;simp[results,h,hp,hl,asAddr]
theorem uF{w:World}{b t:Nat}{a0 a1 a2 a3 a4:Value}(h:w.heap[b]?=some (.cells #[a0,a1,a2,a3,a4] t (0,0))):(loadVar 25 ⟨b,0,none⟩).run Tryz.prog w=.ok (.agg #[a0,a1,a2,a3,a4]) w:=by
 have k0:=ay h 0 _ rfl;have k1:=ay h 1 _ rfl;have k2:=ay h 2 _ rfl;have k3:=ay h 3 _ rfl;have k4:=ay h 4 _ rfl;simp[loadVar,go_sem,k0,k1,k2,k3,k4]
theorem eP{O:Nat->Prop}{w:World}{kx ix:Int}{tx:ByteArray}{ks:List ByteArray}{l:List J}{k i:Int}{t:ByteArray}{pk pl:Option Addr}{nk ck nl cl:Nat}(h:isJ O w (.mk kx ix tx ks l) [.int .i64 k,.int .i64 i,.string t,.slice pk nk ck,.slice pl nl cl]):
    k=kx/\i=ix/\t=tx/\nk=ks.length/\nl=l.length/\ig O w pk ck ks/\l.length<=cl/\isJs O w pl 0 l:=by
 unfold isJ at h;obtain⟨VW,R8,VX,zD,e,h1,h2,h3⟩:=h;simp only[List.cons.injEq,Value.int.injEq,Value.string.injEq,Value.slice.injEq,true_and,and_true]at e;obtain⟨rfl,rfl,rfl,⟨rfl,rfl,rfl⟩,rfl,rfl,rfl⟩:=e;exact⟨rfl,rfl,rfl,rfl,rfl,h1,h2,h3⟩
abbrev zJP:Value:=.agg #[.int .i64 0,.int .i64 0,.string ⟨#[]⟩,.slice none 0 0,.slice none 0 0]
def Io(O:Nat->Prop)(w':World):Option J->Ending->Prop
 | none,e=>e=.returned (.tuple #[zJP,.bool false])
 | some v,e=>∃k i t p n c q m d,e=.returned (.tuple #[.agg #[.int .i64 k,.int .i64 i,.string t,.slice p n c,.slice q m d],.bool true])/\isJ O w' v [.int .i64 k,.int .i64 i,.string t,.slice p n c,.slice q m d]
theorem At.found{ks:List ByteArray}{s:ByteArray}{n:Nat}(h:At ks s n){l:List J}(hl:ks.length<=l.length)(hn:n<ks.length)(he:(aC ks n).toList==s.toList):lookV ks l s=some (l.getD n J.zero):=
 Ee hl hn (ib.1 he) fun m hm=>Pd (h.lo m hm)
theorem At.none{ks:List ByteArray}{s:ByteArray}{n:Nat}(h:At ks s n)(hr:rises ks=true){l:List J}(he:(decide (n<ks.length)&&((aC ks n).toList==s.toList))=false):lookV ks l s=none:=by
 refine x9 fun hm=> ?_;obtain⟨m,zu,hms⟩:=List.getElem_of_mem hm;have hk:aC ks m=s:=by unfold aC;rw[List.getD_eq_getElem?_getD,List.getElem?_eq_getElem zu];exact hms
 rcases Nat.lt_or_ge m n with h1| h1
 ·exact Pd (h.lo m h1) hk
 ·have oo:n<ks.length:=by omega
  by_cases e:m=n
  ·subst e;rw[hk]at he;simp[oo]at he
  ·have:=sV hr (m:=n) (n:=m) (by omega) zu;rw[show ks.getD m aN=s from hk]at this;have h2:=h.hi n (Nat.le_refl _) oo;unfold aC at h2;rw[this]at h2
   cases h2
theorem uG{O:Nat->Prop}{w:World}{Rb d:Nat}{j:J}{k i:Int}{t:ByteArray}{pk pl:Option Addr}{nk ck nl cl:Nat}{bad:Bool}(hR:w.heap[Rb]?=some (.cells #[.int .i64 k,.int .i64 i,.string t,.slice pk nk ck,.slice pl nl cl,.bool bad] 155 (0,0)))
    (hj:isJ O w j [.int .i64 k,.int .i64 i,.string t,.slice pk nk ck,.slice pl nl cl]) (hO:∀x,O x->x<w.heap.size) (lU:Il (d+1) j) (s:ByteArray):
    Calls Tryz.prog 166 #[.pointer (some ⟨Rb,0,none⟩),.string s] w fun e w'=>Io O w' (lookV j.ks j.ls s) e/\Below w.heap.size w w':=by
 obtain⟨kx,ix,tx,ks,l⟩:=j;obtain⟨rfl,rfl,rfl,rfl,rfl,hk,Dq,l9⟩:=eP hj;clear hj;have Wh:=lU.parts.1;have sO:=lU.parts.2.2.2.1;have dP:=lU.lens;simp only[J.ks,J.ls];obtain⟨wA,nO⟩:∃wA,wA=w.alloc (.cells #[.int .i64 0,.int .i64 0,.string ⟨#[]⟩,.slice none 0 0,.slice none 0 0] 25):=⟨_,rfl⟩;have bS:Below w.heap.size w wA:=by rw[nO];exact(Below.refl _ _).alloc (Nat.le_refl _) _
 have hA:wA.heap[w.heap.size]?=some (.cells #[.int .i64 0,.int .i64 0,.string ⟨#[]⟩,.slice none 0 0,.slice none 0 0] 25 (0,0)):=by rw[nO];exact bR _
 have UI:=(bS.block Rb (aO hR)).trans hR;have hS:=Im (hk.carry (O':=O) (w':=wA) fun x hx=>⟨hx,bS.block x (hO x hx)⟩) Wh sO s;have r3:=ay UI 3 _ rfl;have r4:=ay UI 4 _ rfl;have zjJ:=aO hR;have i0:=ay hA 0 _ rfl;have i1:=ay hA 1 _ rfl;have i2:=ay hA 2 _ rfl;have i3:=ay hA 3 _ rfl;have i4:=ay hA 4 _ rfl;have z0:=ou hA 0;have z1:=ou hA 1;have z2:=ou hA 2;have z3:=ou hA 3;have z4:=ou hA 4;have HA:Hid (wA.heap[w.heap.size]?=some (.cells #[.int .i64 0,.int .i64 0,.string ⟨#[]⟩,.slice none 0 0,.slice none 0 0] 25 (0,0))):=hA;have Ef:Hid (rises ks=true):=Wh;have UJ:Hid (ks.length<=l.length):=dP;have Sn:Hid (isJs O w pl 0 l):=l9;obtain⟨nk,nz⟩:∃n,ks.length=n:=⟨_,rfl⟩;obtain⟨nl,oo⟩:∃n,l.length=n:=⟨_,rfl⟩;have jJ:Hid (ks.length=nk):=nz;have xH:Hid (l.length=nl):=oo;rw[nz]at hS r3 sO;rw[oo]at r4 Dq;clear nz oo Wh dP l9 hk lU hR UI hA;go_enter Tryz.func166,Tryz.ntmps166
 go_upto_region 1 with fail
 rw[<-nO];clear nO
 go_upto_region 2 with(go_at_call 184;refine hS.mono ?_;rintro e w' ⟨⟨n,rfl,iC⟩,rfl⟩)
 have Rc:Hid (At ks s n):=iC
 cases hf:(decide (n<nk)&&((aC ks n).toList==s.toList))with
 | false=>
  have w_:Hid (lookV ks l s=none):=Rc.out.none Ef.out (by rw[jJ.out];exact hf);clear hS iC Rc Sn;go_wp2;have h5:=jI (b:=w.heap.size) [.int .i64 0,.int .i64 0,.string ⟨#[]⟩,.slice none 0 0,.slice none 0 0] HA.out rfl;have dR:=gV w.heap.size [.int .i64 0,.int .i64 0,.string ⟨#[]⟩,.slice none 0 0,.slice none 0 0] wA 0;simp only[setL,Nat.zero_add,Nat.reduceAdd]at h5 dR;refine bodyPost_ret (bL rfl _ _ _ rfl (uF h5)) rfl ?_;rw[w_.out];exact⟨rfl,bS.trans (dR.below bS.size fun k hk e=>by unfold aQ at e;omega)⟩
 | true=>
  have UK:=hf;simp only[Bool.and_eq_true,decide_eq_true_eq]at UK;have oo:n<nl:=by have:=UJ.out;rw[jJ.out,xH.out]at this;omega
  have w_:Hid (lookV ks l s=some (l.getD n J.zero)):=Rc.out.found UJ.out (by rw[jJ.out];exact UK.1) UK.2;obtain⟨lb,lo,cs,vM,mG,bA,ja⟩:=isJs.at l 0 n Sn.out (by rw[xH.out];exact oo);subst vM;obtain⟨kv,iv,tv,pv,nv,cv,qv,mv,dv,rfl⟩:=dI ja;have cc:∀m v, [Value.int .i64 kv,.int .i64 iv,.string tv,.slice pv nv cv,.slice qv mv dv][m]?=some v->wA.cell? ⟨lb,lo+n*5+m,none⟩=some v:=fun m v h=>by
   have:=bA m v h;rw[Nat.zero_add]at this;exact(World.cell?_of_block (a:=⟨lb,lo+n*5+m,none⟩) (bS.block lb (hO lb mG))).trans this
  have y0:wA.cell? ⟨lb,lo+n*5,none⟩=some (.int .i64 kv):=cc 0 _ rfl;have y1:=cc 1 _ rfl;have y2:=cc 2 _ rfl;have y3:=cc 3 _ rfl;have y4:=cc 4 _ rfl;have HYJ:Hid (isJ O w (l.getD n J.zero) [Value.int .i64 kv,.int .i64 iv,.string tv,.slice pv nv cv,.slice qv mv dv]):=ja;have Re:=hO lb mG;clear cc bA ja hS iC Rc Sn UK;go_wp2;have h5:=jI (b:=w.heap.size) [.int .i64 kv,.int .i64 iv,.string tv,.slice pv nv cv,.slice qv mv dv] HA.out rfl;have dR:=gV w.heap.size [.int .i64 kv,.int .i64 iv,.string tv,.slice pv nv cv,.slice qv mv dv] wA 0;simp only[setL,Nat.zero_add,Nat.reduceAdd]at h5 dR;refine bodyPost_ret (bL rfl _ _ _ rfl (uF h5)) rfl ?_;rw[w_.out];have lD:=bS.trans (dR.below bS.size fun k hk e=>by unfold aQ at e;omega);exact⟨⟨_,_,_,_,_,_,_,_,_,rfl,HYJ.out.carry fun x hx=>⟨hx,lD.block x (hO x hx)⟩⟩,lD⟩
def uH(k i:Int):Bool:=decide (k=2)&&(decide (-1073741824<=i)&&decide (i<=1073741824))
abbrev dV(w:World)(Rb:Nat)(a0 a1 a2 a3 a4:Value)(bad:Bool):Prop:=w.heap[Rb]?=some (.cells #[a0,a1,a2,a3,a4,.bool bad] 155 (0,0))
theorem dV.set{w:World}{Rb:Nat}{a0 a1 a2 a3 a4:Value}{bad:Bool}(h:dV w Rb a0 a1 a2 a3 a4 bad)(b:Bool):dV (w.setCell ⟨Rb,5,none⟩ (.bool b)) Rb a0 a1 a2 a3 a4 b:=by
 show(w.setCell ⟨Rb,5,none⟩ (.bool b)).heap[Rb]?=_
 rw[heap_setCell_same w Rb 5 _ _ _ h]
 rfl
theorem mQ{w:World}{Rb:Nat}{a0 a1 a2 a3 a4:Value}{bad:Bool}(hR:dV w Rb a0 a1 a2 a3 a4 bad)(k i:Int)(t:ByteArray)(p q:Option Addr)(n c m d:Nat):
    Calls Tryz.prog 167 #[.pointer (some ⟨Rb,0,none⟩),.agg #[.int .i64 k,.int .i64 i,.string t,.slice p n c,.slice q m d]] w fun e w'=>e=.returned (.int .i64 i)/\dV w' Rb a0 a1 a2 a3 a4 (bad || !uH k i)/\av (aQ Rb) w w':=by
 obtain⟨wA,nO⟩:∃wA,wA=w.alloc (.cells #[.int .i64 k,.int .i64 i,.string t,.slice p n c,.slice q m d] 25):=⟨_,rfl⟩;have bS:Below w.heap.size w wA:=by rw[nO];exact(Below.refl _ _).alloc (Nat.le_refl _) _
 have hA:wA.heap[w.heap.size]?=some (.cells #[.int .i64 k,.int .i64 i,.string t,.slice p n c,.slice q m d] 25 (0,0)):=by rw[nO];exact bR _
 have bH:=aO hR;have UI:dV wA Rb a0 a1 a2 a3 a4 bad:=(bS.block Rb bH).trans hR;have i0:=ay hA 0 _ rfl;have i1:=ay hA 1 _ rfl;have r5:=ay UI 5 _ rfl;have rz:=ou UI 5;have Wi:Hid (av (aQ Rb) w wA):=av.aW bS;have HRA:Hid (dV wA Rb a0 a1 a2 a3 a4 bad):=UI;have i0':(wA.setCell ⟨Rb,5,none⟩ (.bool true)).cell? ⟨w.heap.size,0,none⟩=some (.int .i64 k):=by
  rw[World.cell?_of_block (Below.heap_setCell wA ⟨Rb,5,none⟩ _ w.heap.size (by simp;omega))];exact i0
 have i1':(wA.setCell ⟨Rb,5,none⟩ (.bool true)).cell? ⟨w.heap.size,1,none⟩=some (.int .i64 i):=by
  rw[World.cell?_of_block (Below.heap_setCell wA ⟨Rb,5,none⟩ _ w.heap.size (by simp;omega))];exact i1
 clear hA UI hR
 by_cases hk:k=2
 ·by_cases h1: -1073741824<=i
  ·by_cases h2:i<=1073741824
   ·have HL:Hid (uH k i=true):=by show _=_;simp[uH,hk,h1,h2]
    subst hk;go_enter Tryz.func167,Tryz.ntmps167
    go_upto_region 1 with fail
    rw[<-nO];clear nO;go_wp2;go_ret;rw[HL.out];exact⟨rfl,by simpa using HRA.out,Wi.out⟩
   ·have HL:Hid (uH k i=false):=by show _=_;simp[uH,hk,h1,h2]
    subst hk;go_enter Tryz.func167,Tryz.ntmps167
    go_upto_region 1 with fail
    rw[<-nO];clear nO;go_wp2;go_ret;rw[HL.out];exact⟨rfl,by simpa using HRA.out.set true,Wi.out.setCell (p:=⟨Rb,5,none⟩) (fun _=>(rfl:Rb=Rb)) _⟩
  ·have HL:Hid (uH k i=false):=by show _=_;simp[uH,hk,h1]
   subst hk;go_enter Tryz.func167,Tryz.ntmps167
   go_upto_region 1 with fail
   rw[<-nO];clear nO;go_wp2;go_ret;rw[HL.out];exact⟨rfl,by simpa using HRA.out.set true,Wi.out.setCell (p:=⟨Rb,5,none⟩) (fun _=>(rfl:Rb=Rb)) _⟩
 ·have HL:Hid (uH k i=false):=by show _=_;simp[uH,hk]
  go_enter Tryz.func167,Tryz.ntmps167
  go_upto_region 1 with fail
  rw[<-nO];clear nO;go_wp2;go_ret;rw[HL.out];exact⟨rfl,by simpa using HRA.out.set true,Wi.out.setCell (p:=⟨Rb,5,none⟩) (fun _=>(rfl:Rb=Rb)) _⟩
def numT(d:Int):Option J->Int×Bool
 | none=>(d,false)
 | some v=>(v.nm, !uH v.kd v.nm)
theorem Eg{O:Nat->Prop}{w:World}{Rb d:Nat}{j:J}{k i:Int}{t:ByteArray}{pk pl:Option Addr}{nk ck nl cl:Nat}{bad:Bool}(hR:dV w Rb (.int .i64 k) (.int .i64 i) (.string t) (.slice pk nk ck) (.slice pl nl cl) bad)
    (hj:isJ O w j [.int .i64 k,.int .i64 i,.string t,.slice pk nk ck,.slice pl nl cl]) (hO:∀x,O x->x<w.heap.size) (lU:Il (d+1) j) (s:ByteArray) (z:Int):
    Calls Tryz.prog 144 #[.pointer (some ⟨Rb,0,none⟩),.string s,.int .i64 z] w fun e w'=>e=.returned (.int .i64 (numT z (lookV j.ks j.ls s)).1)/\dV w' Rb (.int .i64 k) (.int .i64 i) (.string t) (.slice pk nk ck) (.slice pl nl cl) (bad || (numT z (lookV j.ks j.ls s)).2)/\av (aQ Rb) w w':=by
 have hU:=uG hR hj hO lU s;have HR:Hid (∀X,Below w.heap.size w X->dV X Rb (.int .i64 k) (.int .i64 i) (.string t) (.slice pk nk ck) (.slice pl nl cl) bad):=fun X hX=>(hX.block Rb (aO hR)).trans hR;have Mq:Hid (Rb<w.heap.size):=aO hR;clear hR hj lU hO;generalize lookV j.ks j.ls s=o at hU
 cases o with
 | none=>
  go_enter Tryz.func144,Tryz.ntmps144;go_wp2_with(go_at_call 166;refine hU.mono ?_;rintro e w1 ⟨he,aP⟩;replace he:e=_:=he;subst he);go_ret;refine⟨rfl, ?_, ?_⟩
  ·simp only[numT,Bool.or_false];exact HR.out _ (ah aP ((Below.refl _ _).alloc (Nat.le_refl _) _))
  ·exact av.aW (ah aP ((Below.refl _ _).alloc (Nat.le_refl _) _))
 | some v=>
  go_enter Tryz.func144,Tryz.ntmps144;go_wp2_with(first
   | (go_at_call 166;refine hU.mono ?_;rintro e w1 ⟨⟨kv,iv,tv,pv,nv,cv,qv,mv,dv,rfl,hv⟩,aP⟩
      have HV:Hid (v.kd=kv/\v.nm=iv):=by obtain⟨_,_,_,_,_⟩:=v;obtain⟨rfl,rfl,_⟩:=eP hv;exact⟨rfl,rfl⟩
      have bS:Below w.heap.size w (w1.alloc (.cells #[.int .i64 kv,.int .i64 iv,.string tv,.slice pv nv cv,.slice qv mv dv] 25)):=ah aP ((Below.refl _ _).alloc (Nat.le_refl _) _);have hL:=mQ (HR.out _ bS) kv iv tv pv qv nv cv mv dv;clear hv)
   | (go_at_call 167;refine hL.mono ?_;rintro e w2 ⟨rfl,hr2,pO⟩))
  go_ret;simp only[numT,HV.out.1,HV.out.2];exact⟨rfl,hr2,(av.aW bS).then pO⟩
theorem BL{O:Nat->Prop}{w:World}{l:Lv}{p:Pl}(h:BK O w l p)(hO:∀k,O k->k<w.heap.size)(hz:O_ l)(s:ByteArray):
    Calls Tryz.prog 90 #[jc l p,.string s] w fun e w'=>e=.returned (.int .i64 (O8 l s))/\Below w.heap.size w w':=by
 have hb:Below w.heap.size w (w.alloc (.cells (aY l p).toArray 47)):=(Below.refl _ _).alloc (Nat.le_refl _) _;have hf:=Az (h.us.below hO hb) (fun k hk=>Nat.lt_of_lt_of_le (hO k hk) hb.size) hz.us s l.mM;have HB:Hid (Below w.heap.size w (w.alloc (.cells (aY l p).toArray 47))):=hb;obtain⟨wN,kX,gN,kQ,state,events,mM,us,ty⟩:=l;obtain⟨pu,cu,pt,ct⟩:=p;simp only[jc,aY,O8]at hf hb ⊢;clear h hz hb;go_enter Tryz.func90,Tryz.ntmps90;go_wp2_with(go_at_call 91;refine hf.mono ?_;rintro e w1 ⟨rfl,aP⟩);go_ret;exact⟨rfl,ah HB.out aP⟩
theorem Sq{O:Nat->Prop}{w:World}{l:Lv}{p:Pl}(h:BK O w l p)(hO:∀k,O k->k<w.heap.size)(hz:O_ l)(s:ByteArray)(st:Bool):
    Calls Tryz.prog 57 #[jc l p,.string s,.bool st] w fun e w'=>e=.returned (.int .i64 (Ay l s st))/\Below w.heap.size w w':=by
 have hb:Below w.heap.size w (w.alloc (.cells (aY l p).toArray 47)):=(Below.refl _ _).alloc (Nat.le_refl _) _;have hf:=Az (h.ty.below hO hb) (fun k hk=>Nat.lt_of_lt_of_le (hO k hk) hb.size) hz.ty s (if st then l.state else l.events);have HB:Hid (Below w.heap.size w (w.alloc (.cells (aY l p).toArray 47))):=hb;obtain⟨wN,kX,gN,kQ,state,events,mM,us,ty⟩:=l;obtain⟨pu,cu,pt,ct⟩:=p;simp only[jc,aY,Ay]at hf hb ⊢;clear h hz hb
 cases st<;>simp only[Bool.false_eq_true,if_true,if_false]at hf ⊢
 all_goals
  go_enter Tryz.func57,Tryz.ntmps57;go_wp2_with(go_at_call 91;refine hf.mono ?_;rintro e w1 ⟨rfl,aP⟩);go_ret;exact⟨rfl,ah HB.out aP⟩
abbrev nT(s:ByteArray):Lv:=⟨50,50,0,50,0,0,0, [(s,100)], []⟩
theorem Pk{w:World}(s:ByteArray):
    Calls Tryz.prog 82 #[.string s] w fun e w'=>(∃p,e=.returned (jc (nT s) p)/\BK (fun b=>w.heap.size<=b/\b<w'.heap.size) w' (nT s) p)/\Below w.heap.size w w':=by
 go_enter Tryz.func82,Tryz.ntmps82;go_wp2;obtain⟨W,hW⟩:∃W,W=((w.alloc (.cells #[.int .i64 50,.int .i64 50,.int .i64 0,.int .i64 50,.int .i64 0,.int .i64 0,.int .i64 0,.slice (some ⟨w.heap.size+1,0,none⟩) 1 1,.slice none 0 0] 47)).alloc (.cells #[.string s,.int .i64 100] 109)):=⟨_,rfl⟩;have hB:Below w.heap.size w W:=by rw[hW];exact((Below.refl _ _).alloc (Nat.le_refl _) _).alloc (by simp) _
 have h0:W.heap[w.heap.size]?=some (.cells #[.int .i64 50,.int .i64 50,.int .i64 0,.int .i64 50,.int .i64 0,.int .i64 0,.int .i64 0,.slice (some ⟨w.heap.size+1,0,none⟩) 1 1,.slice none 0 0] 47 (0,0)):=by
  rw[hW,Below.heap_alloc _ _ _ (by simp)];exact bR _
 have h1:W.heap[w.heap.size+1]?=some (.cells #[.string s,.int .i64 100] 109 (0,0)):=by
  rw[hW];have:=bR (w:=(w.alloc (.cells #[.int .i64 50,.int .i64 50,.int .i64 0,.int .i64 50,.int .i64 0,.int .i64 0,.int .i64 0,.slice (some ⟨w.heap.size+1,0,none⟩) 1 1,.slice none 0 0] 47))) (.cells #[.string s,.int .i64 100] 109);rw[World.size_alloc]at this;exact this
 rw[<-hW];refine bodyPost_ret (gz rfl _ _ _ rfl (Ik h0)) rfl ?_;have bH:=aO h1;exact⟨⟨⟨some ⟨w.heap.size+1,0,none⟩,1,none,0⟩,rfl,mP (l:= [(s,100)]) ⟨by simp,bH⟩ h1,je.nil _ _ _ _ fun _=>rfl⟩,hB⟩
theorem x_{w:World}{l:Lv}{p:Pl}:
    Calls Tryz.prog 125 #[jc l p] w fun e w'=>(∃b,e=.returned (.slice (some ⟨b,0,none⟩) 7 7)/\w.heap.size<=b/\b<w'.heap.size/\je (fun k=>k=b) w' (some ⟨b,0,none⟩) 7 (nums l))/\Below w.heap.size w w':=by
 obtain⟨wN,kX,gN,kQ,state,events,mM,us,ty⟩:=l;obtain⟨pu,cu,pt,ct⟩:=p;simp only[jc,aY];go_enter Tryz.func125,Tryz.ntmps125;go_wp2;go_ret;refine⟨⟨_,rfl,by simp,by simp,mP (l:=nums _) (t:=109) (fr:=(0,0)) rfl ?_⟩,((Below.refl _ _).alloc (Nat.le_refl _) _).alloc (by simp) _⟩;have:=bR (w:=w.alloc (.cells #[.int .i64 wN,.int .i64 kX,.int .i64 gN,.int .i64 kQ,.int .i64 state,.int .i64 events,.int .i64 mM,.slice pu us.length cu,.slice pt ty.length ct] 47)) (.cells (flatN (nums ⟨wN,kX,gN,kQ,state,events,mM,us,ty⟩)).toArray 109);rw[World.size_alloc]at this;exact this
abbrev fJ(c:iZ):List Value:= [.string c.name,.bool c.F8.isSome,.int .i64 (c.F8.getD 0),.bool c.next.isSome,.int .i64 (c.next.getD 0)]
abbrev ky(c:iZ):Value:=.agg (fJ c).toArray
theorem yc{w:World}(c:iZ)(s:Int):
    Calls Tryz.prog 126 #[ky c,.int .i64 s] w fun e w'=>e=.returned (.bool (c.iR s))/\Below w.heap.size w w':=by
 obtain⟨n,o,x⟩:=c;have hb:∀v,Below w.heap.size w (w.alloc (.cells v 143)):=fun v=>(Below.refl _ _).alloc (Nat.le_refl _) _;unfold iZ.iR
 cases o<;>cases x<;>simp only[ky,fJ,Option.isSome,Option.getD,over,Bool.false_or,Bool.or_false]
 ·go_enter Tryz.func126,Tryz.ntmps126;go_wp2;go_ret;exact⟨rfl,hb _⟩
 ·rename_i x
  by_cases h:s<x
  all_goals
   go_enter Tryz.func126,Tryz.ntmps126;go_wp2;go_ret;exact⟨by simp[h],hb _⟩
 ·rename_i x
  by_cases h:s<x
  all_goals
   go_enter Tryz.func126,Tryz.ntmps126;go_wp2;go_ret;exact⟨by simp[h],hb _⟩
 ·rename_i x y
  by_cases h:s<x<;>by_cases h2:s<y
  all_goals
   go_enter Tryz.func126,Tryz.ntmps126;go_wp2;go_ret;exact⟨by simp[h,h2],hb _⟩
open Go.RowKit Go.Maps
def Sr(s:ByteArray):Lit:=.string s.data.toList
def Rf(s:ByteArray):Prop:=s.size<=maxLen
theorem Ku{s t:ByteArray}(h:Sr s=Sr t):s=t:=by
 unfold Sr at h
 cases s;cases t
 simp only[Lit.string.injEq]at h;rw[Array.toList_inj.1 h]
theorem zbN{s:ByteArray}(h:Rf s):keyOf Tryz.prog 9 (.string s)=some (Sr s):=WideMaps.keyOf_string_mk Tryz.underlying9 h
theorem Pm:Keyed Tryz.prog 9:=string_keyed Tryz.underlying9
def Wj(v:Value):Option (DataW Value×List MemPlace):=some (.held v, [])
def lookP:List (ByteArray×Value)->ByteArray->Option Value
 | [],_=>none
 | p::r,s=>if p.1.data=s.data then some p.2 else lookP r s
theorem mR{a b:ByteArray}(h:a.data=b.data):a=b:=by
 cases a;cases b
 simp only at h;rw[h]
theorem qW{es:List (ByteArray×Value)}{s:ByteArray}:lookP es s=none↔s∉es.map (·.1):=by
 induction es with
 | nil=>simp[lookP]
 | cons p r ih=>
  unfold lookP
  by_cases h:p.1.data=s.data
  ·rw[if_pos h];simp[mR h]
  ·rw[if_neg h,ih];simp;intro _ e;exact h (by rw[e])
theorem qX{es:List (ByteArray×Value)}{k s:ByteArray}{v:Value}(hk:k∉es.map (·.1)):lookP (es++ [(k,v)]) s=if k.data=s.data then some v else lookP es s:=by
 induction es with
 | nil=>simp[lookP]
 | cons p r ih=>
  have Rh:k≠p.1:=fun e=>hk (by simp[e]);have pO:k∉r.map (·.1):=fun h=>hk (by simp at h ⊢;exact .inr h);simp only[List.cons_append,lookP,ih pO]
  by_cases h:p.1.data=s.data
  ·rw[if_pos h,if_neg (fun e=>Rh (mR (e.trans h.symm))),if_pos h]
  ·rw[if_neg h,if_neg h]
structure yf(w:World)(M:Nat)(es:List (ByteArray×Value)):Prop where
 own:∃D n,w.ownsMap Tryz.prog 9 Wj M n D/\n<=200000/\(∀s,Rf s->Maps.has D (Sr s)=(lookP es s).isSome)/\(∀s z,Rf s->D.atKey (Sr s) (.held z)=.held ((lookP es s).getD z))/\Maps.size D=es.length
 apart:(es.map (·.1)).Pairwise (· ≠ ·)
theorem yf.lt{w:World}{M:Nat}{es:List (ByteArray×Value)}(h:yf w M es):M<w.heap.size:=by
 obtain⟨⟨D,n,ho,_⟩,_⟩:=h;exact ho.lt
theorem yf.made(w:World):yf (w.alloc (.map #[] 0)) w.heap.size []:=
 ⟨⟨.map [],0,World.ownsMap_made _ _ _ _,by omega,fun _ _=>rfl,fun _ _ _=>rfl,rfl⟩,List.Pairwise.nil⟩
abbrev zHv:Value:=.agg #[.bool false,.int .i64 0]
theorem zbO(w:World):(zeroValue 141).run Tryz.prog w=.ok zHv w:=by kernel_rfl
theorem yf.look{w:World}{M:Nat}{es:List (ByteArray×Value)}(h:yf w M es){s:ByteArray}(hs:Rf s):(Instr.lookup 161 (.map (some M)) (.string s) false).run Tryz.prog w=.ok ((lookP es s).getD zHv) w:=by
 obtain⟨⟨D,n,ho,_,_,iC,_⟩,_⟩:=h;obtain⟨v,ps,Bt,hv⟩:=ho.lookup Pm Tryz.underlying161 (zbO w) (zd:=.held zHv) (zp:= []) rfl (zbN hs);rw[iC s _ hs]at hv;unfold Wj at hv;have:v=(lookP es s).getD zHv:=by
  have:=Option.some.inj hv;have:=congrArg Prod.fst this;exact DataW.held.inj this
 rw[Bt,this]
theorem yf.put{w:World}{M:Nat}{es:List (ByteArray×Value)}(h:yf w M es){s:ByteArray}(hs:Rf s)(hn:s∉es.map (·.1))(hl:es.length<150000)(v:Value):
    ∃w',(Instr.mapUpdate 161 (.map (some M)) (.string s) v).run Tryz.prog w=.ok () w'/\yf w' M (es++ [(s,v)])/\w.grownBy w' (some M):=by
 obtain⟨⟨D,n,ho,Ki,hh,iC,fq⟩,ha⟩:=h;have ho':=ho;obtain⟨ms,clock,hb,F,hms,hD⟩:=ho';have zu:ms.size=Maps.size D:=by
  rw[hD];simp[Maps.size,length_sorted]
 have Ia:w.ownsMap Tryz.prog 9 Wj M es.length D:=⟨ms,clock,hb,F,by omega,hD⟩;obtain⟨w',Bt,OX,hg⟩:=Ia.update Pm Tryz.underlying161 (by unfold maxLen;omega) (zbN hs) (d:=.held v) (ps:= []) rfl;have hm:=Ia.isMap;have hns:=qW.2 hn;refine⟨w',Bt,⟨⟨D.put (Sr s) (.held v),es.length+1,OX,by omega,fun x hx=> ?_,fun x z hx=> ?_, ?_⟩, ?_⟩,hg⟩
 ·rw[qX hn]
  by_cases e:x=s
  ·subst e;rw[has_put_same hm (show WideAt.IsKeyLit (Sr x)from trivial),if_pos rfl];rfl
  ·rw[has_put_other (fun h'=>e (Ku h')),hh x hx,if_neg (fun h'=>e (mR h').symm)]
 ·rw[qX hn]
  by_cases e:x=s
  ·subst e;rw[atKey_put_same hm (show WideAt.IsKeyLit (Sr x)from trivial),if_pos rfl];rfl
  ·rw[atKey_put_other (fun h'=>e (Ku h')),iC x z hx,if_neg (fun h'=>e (mR h').symm)]
 ·rw[size_put (Ia.tidy Pm),hh s hs,hns,fq];simp
 ·rw[List.map_append,List.pairwise_append];refine⟨ha,by simp,fun a Ur b FX e=> ?_⟩;simp at FX;subst FX;exact hn (e ▸ Ur)
def heldV:Option Int->Value
 | none=>.agg #[.bool false,.int .i64 0]
 | some x=>.agg #[.bool true,.int .i64 x]
def gP(w:World)(M:Nat)(l:jY):Prop:=∃es,yf w M es/\es.length<=l.length/\∀s,(lookP es s).getD zHv=heldV (fnd l s)/\(lookP es s).isSome=(fnd l s).isSome
theorem gP.made(w:World):gP (w.alloc (.map #[] 0)) w.heap.size []:=⟨[],yf.made w,Nat.le_refl _,fun _=>⟨rfl,rfl⟩⟩
theorem gP.same{w w':World}{M:Nat}{l:jY}(h:gP w M l)(e:w'.heap[M]?=w.heap[M]?):gP w' M l:=by
 obtain⟨es,⟨⟨D,n,⟨ms,clock,hb,r1⟩,r2⟩,r3⟩,r4⟩:=h;exact⟨es,⟨⟨D,n,⟨ms,clock,e.trans hb,r1⟩,r2⟩,r3⟩,r4⟩
theorem gP.lt{w:World}{M:Nat}{l:jY}(h:gP w M l):M<w.heap.size:=by
 obtain⟨es,h,_⟩:=h;exact h.lt
theorem gP.walk{w:World}{M:Nat}{l:jY}(h:gP w M l):∃o,w.heap[M]?=some o/\o.isWalk=true/\o.isCells=false:=by
 obtain⟨es,⟨⟨D,n,⟨ms,clock,hb,r1⟩,r2⟩,r3⟩,r4⟩:=h;exact⟨_,hb,rfl,rfl⟩
theorem gP.look{w:World}{M:Nat}{l:jY}(h:gP w M l){s:ByteArray}(hs:Rf s):(Instr.lookup 161 (.map (some M)) (.string s) false).run Tryz.prog w=.ok (heldV (fnd l s)) w:=by
 obtain⟨es,h,_,hl⟩:=h;rw[h.look hs,(hl s).1]
theorem BM{l:jY}{s:ByteArray}{x y:Int}(h:fnd l s=some y)(t:ByteArray):fnd (l++ [(s,x)]) t=fnd l t:=by
 rw[fnd_append]
 cases e:fnd l t with
 | some z=>rfl
 | none=>
  simp only[fnd]
  by_cases e2:(s.toList==t.toList)=true
  ·rw[ib.1 e2,e]at h;cases h
  ·rw[if_neg e2]
theorem BN{l:jY}{s:ByteArray}{x:Int}(h:fnd l s=none)(t:ByteArray):fnd (l++ [(s,x)]) t=if s.toList==t.toList then some x else fnd l t:=by
 rw[fnd_append]
 by_cases e2:(s.toList==t.toList)=true
 ·rw[if_pos e2,<-ib.1 e2,h];simp[fnd]
 ·rw[if_neg e2]
  cases e:fnd l t with
  | some z=>rfl
  | none=>simp only[fnd];rw[if_neg e2]
theorem gP.F8{w:World}{M:Nat}{l:jY}(h:gP w M l){s:ByteArray}{x y:Int}(hf:fnd l s=some y):gP w M (l++ [(s,x)]):=by
 obtain⟨es,hm,hl,hq⟩:=h;exact⟨es,hm,by simp;omega,fun t=>by rw[BM hf];exact hq t⟩
theorem gP.put{w:World}{M:Nat}{l:jY}(h:gP w M l){s:ByteArray}(hs:Rf s){x:Int}(hf:fnd l s=none)(hl:l.length<150000):
    ∃w',(Instr.mapUpdate 161 (.map (some M)) (.string s) (.agg #[.bool true,.int .i64 x])).run Tryz.prog w=.ok () w'/\gP w' M (l++ [(s,x)])/\w.grownBy w' (some M):=by
 obtain⟨es,hm,KV,hq⟩:=h;have hn:lookP es s=none:=by
  have:=(hq s).2;rw[hf]at this
  cases e:lookP es s with
  | none=>rfl
  | some v=>rw[e]at this;cases this
 obtain⟨w',hr,hm',hg⟩:=hm.put hs (qW.1 hn) (by omega) (.agg #[.bool true,.int .i64 x]);refine⟨w',hr,⟨_,hm',by simp;omega,fun t=> ?_⟩,hg⟩;rw[BN hf,qX (qW.1 hn)]
 by_cases e:s=t
 ·subst e;simp[heldV]
 ·rw[if_neg (fun h=>e (mR h)),if_neg (fun h=>e (ib.1 h))];exact hq t
theorem sW{t k e:TypeId}(ht:Tryz.prog.underlying t=some (.map k e))(n:Int)(w:World):(Instr.makeMap t (some (.int .i64 n))).run Tryz.prog w=.ok (.map (some w.heap.size)) (w.alloc (.map #[] 0)):=by
 simp[Instr.makeMap,run_underlying ht,asInt,asIntOf,Result.andThen]
theorem Pn{s:ByteArray}(h:s.size<=1000000000):Rf s:=by unfold Rf maxLen;omega
theorem Ms(a b:Value)(w:World):(Instr.field 141 (.agg #[a,b]) 0).run Tryz.prog w=.ok a w:=by kernel_rfl
theorem yg{O:Nat->Prop}{w:World}{p:Option Addr}{c:Nat}{l:jY}(h:je O w p c l)(hO:∀k,O k->k<w.heap.size)(hz:zk l):
    Calls Tryz.prog 151 #[.slice p l.length c] w fun e w'=>(∃M,e=.returned (.map (some M))/\w.heap.size<=M/\gP w' M l)/\Below w.heap.size w w':=by
 obtain⟨n,hn⟩:∃n,l.length=n:=⟨_,rfl⟩;have HN:Hid (l.length=n):=hn;have oI:=hz.1;have hc:=h.1.1;rw[hn]at oI hc ⊢;clear hn;have hmm:=sW Tryz.underlying161;go_enter Tryz.func151,Tryz.ntmps151;go_wp2
 go_loopw [11] (fun i wr=>∃k:Nat,i=.int .i64 k/\k<=n/\gP wr w.heap.size (l.take k)/\Below w.heap.size w wr) (fun i _=>n - (intOf i).toNat)
 case atStart=>exact⟨0,rfl,Nat.zero_le _,gP.made w,(Below.refl _ _).alloc (Nat.le_refl _) _⟩
 case round=>
  clear hmm;obtain⟨k,rfl,hk,hm,gX⟩:=hrel
  by_cases sO:k<n
  ·have fG:k<l.length:=by rw[HN.out];exact sO
   obtain⟨b,o,rfl,hb,h1,h2⟩:=h.at fG;have J5:=(gX.cell (p:=⟨b,o+k*2,none⟩) (hO b hb)).trans h1;have Om:=(gX.cell (p:=⟨b,o+k*2+1,none⟩) (hO b hb)).trans h2;have NT:=gX.size;have OU:=hO b hb;have lU:=Pn (hz.at fG);have HT:Hid (l.take (k+1)=l.take k++ [l.getD k zN]):=mK fG;have HTL:Hid ((l.take k).length=k):=by show _=_;rw[List.length_take];omega
   generalize l.getD k zN=x at J5 Om HT lU;obtain⟨xn,xl⟩:=x;simp only at J5 Om lU;clear h1 h2;have hma:gP (wr.alloc (.cells #[.string xn,.int .i64 xl] 109)) w.heap.size (l.take k):=hm.same (Below.heap_alloc _ _ _ hm.lt);have l_:Hid (Below w.heap.size w (wr.alloc (.cells #[.string xn,.int .i64 xl] 109))):=gX.trans ((Below.refl _ _).alloc NT _);have uf:=hma.look lU;have hfl:=Ms
   cases hf:fnd (l.take k) xn with
   | none=>
    rw[hf]at uf;obtain⟨w2,BD,hm2,qg⟩:=hma.put lU (x:=xl) hf (by rw[HTL.out];omega);have HM2:Hid (gP w2 w.heap.size (l.take (k+1))):=by show gP _ _ _;rw[HT.out];exact hm2
    have yh:Hid (Below w.heap.size w w2):=l_.out.grown qg l_.out.size (fun q e=>by cases e;exact Nat.le_refl _);simp only[heldV]at uf;clear hm2 qg hm hma hf;go_wp2;go_roundw
    case rel=>exact⟨k+1,by simp,by omega,HM2.out,yh.out⟩
    case measure=>simp[intOf];omega
   | some y=>
    rw[hf]at uf;have HM2:Hid (gP (wr.alloc (.cells #[.string xn,.int .i64 xl] 109)) w.heap.size (l.take (k+1))):=by show gP _ _ _;rw[HT.out];exact hma.F8 hf
    simp only[heldV]at uf;clear hm hma hf;go_wp2;go_roundw
    case rel=>exact⟨k+1,by simp,by omega,HM2.out,l_.out⟩
    case measure=>simp[intOf];omega
  ·obtain rfl:k=n:=by omega
   have HM:Hid (gP wr w.heap.size l):=by show gP _ _ _;rw[<-List.take_length (l:=l),HN.out];exact hm
   clear hm;go_wp2;go_ret;exact⟨⟨_,rfl,Nat.le_refl _,HM.out⟩,gX⟩
end Go.Proofs.YtldegjjaknelgaaGreatDoor

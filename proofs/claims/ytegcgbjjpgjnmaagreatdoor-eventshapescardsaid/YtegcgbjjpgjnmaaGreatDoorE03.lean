/- A part. -/
import Derived.Test.YtegcgbjjpgjnmaaGreatDoorE02
import Derived.Lib.ValidU
set_option maxRecDepth 100000
set_option maxHeartbeats 16000000
namespace Go.Proofs.YtegcgbjjpgjnmaaGreatDoor.Id
open Go.RowKit
def tT(s:ByteArray):Bool:=decide (s.size=12)&&decide ((ints s).getD 0 0=36)&&decide ((pF (ints (s.extract 1 s.size))).1=0)
theorem z_(s:ByteArray)(h:s.size≠12):tT s=false:=by unfold tT;simp[h]
theorem Gt(s:ByteArray)(h:(ints s).getD 0 0≠36):tT s=false:=by
 unfold tT;have:decide ((ints s).getD 0 0=36)=false:=decide_eq_false h;rw[this];simp
theorem Nz(s:ByteArray)(h:(pF (ints (s.extract 1 s.size))).1≠0):tT s=false:=by
 unfold tT;rw[decide_eq_false h];simp
theorem Gu(s:ByteArray)(h1:s.size=12)(h2:(ints s).getD 0 0=36)(h3:(pF (ints (s.extract 1 s.size))).1=0):tT s=true:=by
 unfold tT;rw[decide_eq_true h1,decide_eq_true h2,decide_eq_true h3];rfl
theorem OZ(t:ByteArray)(h:t.size=11):(dec (ints t)).length=8:=by
 have:=u_ (ints t);rw[ax,h]at this;have e:((11:Nat):Int) / 4*3+uz (((11:Nat):Int) % 4)=8:=by decide
 omega
theorem Dk(s:ByteArray)(w:World)(hs:s.size<=140737488351232):
    Calls Tryz.prog 101 #[.string s] w fun e w'=>e=.returned (.bool (tT s))/\Below w.heap.size w w':=by
 by_cases hp:∀h:0<s.size,s[0]≠36
 ·have HE:Hid (tT s=false):=by
    by_cases h0:s.size=0
    ·exact z_ s (by omega)
    ·refine Gt s ?_;rw[dH s 0 (by omega)];intro h;exact hp (by omega) ((Rt s[0] 36).1 h)
  go_enter Tryz.func101,Tryz.ntmps101;go_wp2_with(go_at_call 125;refine(vX s 36 _ hs hp).mono ?_;rintro e w' ⟨rfl,rfl⟩);go_ret;exact⟨av HE.out.symm,Below.refl _ _⟩
 ·obtain⟨h0,hc⟩:∃h:0<s.size,s[0]=36:=by simpa using hp
  clear hp;have HG:Hid ((ints s).getD 0 0=36):=by rw[dH s 0 h0,hc];rfl
  have hz:(s.extract 1 s.size).size=s.size - 1:=by simp
  obtain⟨t,ht⟩:∃t,t=s.extract 1 s.size:=⟨_,rfl⟩;have iD:=fun wx:World=>ko s 36 wx hs h0 hc;rw[<-ht]at hz iD;have HT:Hid (t=s.extract 1 s.size):=ht;clear ht
  by_cases lL:s.size=12
  ·have zfP:t.size=11:=by omega
   have zeN:(t.size:Int)=11:=by omega
   by_cases hf:(pF (ints t)).1=0
   ·have HE:Hid (tT s=true):=Gu s lL HG.out (by rw[<-HT.out];exact hf);go_enter Tryz.func101,Tryz.ntmps101;go_wp2_with(first
     | (go_at_call 125;refine(iD _).mono ?_;rintro e w' ⟨rfl,rfl⟩)
     | (go_at_call 126;refine(Gq t _ (by omega) hf).mono ?_;rintro e w1 ⟨rfl,_,bI⟩))
    go_ret;exact⟨av HE.out.symm,bI⟩
   ·have HE:Hid (tT s=false):=Nz s (by rw[<-HT.out];exact hf);have hfb:((pF (ints t)).1==0)=false:=by simp[hf]
    go_enter Tryz.func101,Tryz.ntmps101;go_wp2_with(first
     | (go_at_call 125;refine(iD _).mono ?_;rintro e w' ⟨rfl,rfl⟩)
     | (go_at_call 126;refine(Kl t _ (by omega) hf).mono ?_;rintro e w1 ⟨rfl,bI⟩))
    go_ret;exact⟨av HE.out.symm,bI⟩
  ·have HE:Hid (tT s=false):=z_ s lL;have hn:¬(t.size:Int)=11:=by omega
   have hnb:((t.size:Int) !=11)=true:=by simp[hn]
   go_enter Tryz.func101,Tryz.ntmps101;go_wp2_with(go_at_call 125;refine(iD _).mono ?_;rintro e w' ⟨rfl,rfl⟩);go_ret;exact⟨av HE.out.symm,Below.refl _ _⟩
theorem qQ(s:ByteArray)(w:World):
    Calls Tryz.prog 52 #[.string s] w fun e w'=>e=.returned (.bool (tT s))/\Below w.heap.size w w':=by
 by_cases lL:s.size=12
 ·have zfQ:(s.size:Int)=12:=by omega
  have h0:0<s.size:=by omega
  have HG:Hid ((ints s).getD 0 0=(s[0].toNat:Int)):=dH s 0 h0
  by_cases hc:(s[0].toNat:Int)=36
  ·have hz:(s.extract 1 s.size).size=11:=by simp;omega
   have hsl:∀wx:World,(Instr.slice 9 (.string s) (some (.int .i64 1)) none none).run Tryz.prog wx=.ok (.string (s.extract 1 s.size)) wx:=
    fun wx=>run_slice_string_l wx 9 s Tryz.underlying9 .i64 1 (by omega) (by omega)
   obtain⟨t,ht⟩:∃t,t=s.extract 1 s.size:=⟨_,rfl⟩;rw[<-ht]at hz hsl;have HT:Hid (t=s.extract 1 s.size):=ht;clear ht;have hd:=OZ t hz
   by_cases hf:(pF (ints t)).1=0
   ·have HE:Hid (tT s=true):=Gu s lL (by rw[HG.out];exact hc) (by rw[<-HT.out];exact hf);have x:=fun wx:World=>zZ t wx (by omega) hf;rw[hd]at x;go_enter Tryz.func52,Tryz.ntmps52;go_wp2_with(go_at_call 93;refine(x _).mono ?_;rintro e w1 ⟨q,cq,rfl,_,bI⟩);go_ret;exact⟨av HE.out.symm,bI⟩
   ·have HE:Hid (tT s=false):=Nz s (by rw[<-HT.out];exact hf);have hfb:((pF (ints t)).1==0)=false:=by simp[hf]
    have x:=fun wx:World=>Co t wx (by omega) hf;go_enter Tryz.func52,Tryz.ntmps52;go_wp2_with(go_at_call 93;refine(x _).mono ?_;rintro e w1 ⟨rfl,bI⟩);go_ret;exact⟨av HE.out.symm,bI⟩
  ·have HE:Hid (tT s=false):=Gt s (by rw[HG.out];exact hc);have BV:((s[0].toNat:Int) !=36)=true:=by simp[hc]
   go_enter Tryz.func52,Tryz.ntmps52;go_wp2;go_ret;exact⟨av HE.out.symm,Below.refl _ _⟩
 ·have HE:Hid (tT s=false):=z_ s lL;have hn:¬(s.size:Int)=12:=by omega
  have hnb:((s.size:Int) !=12)=true:=by simp[hn]
  go_enter Tryz.func52,Tryz.ntmps52;go_wp2;go_ret;exact⟨av HE.out.symm,Below.refl _ _⟩
end Go.Proofs.YtegcgbjjpgjnmaaGreatDoor.Id
namespace Go.Proofs.YtegcgbjjpgjnmaaGreatDoor
open Go.RowKit
structure Ev where
 room:ByteArray
 aQ:ByteArray
 ah:ByteArray
 st:Bool
 key:ByteArray
 content:J
 prev:List ByteArray
 aC:List ByteArray
 depth:Int
 ts:Int
 hash:ByteArray
 sigs:List (ByteArray×ByteArray)
structure Pt where
 pk:Option Addr
 ck:Nat
 pl:Option Addr
 cl:Nat
 pp:Option Addr
 cp:Nat
 pa:Option Addr
 ca:Nat
 ps:Option Addr
 cs:Nat
def Ev.zero:Ev:=⟨aH,aH,aH,false,aH,J.zero, [], [],0,0,aH, []⟩
def Pt.zero:Pt:=⟨none,0,none,0,none,0,none,0,none,0⟩
def pO(j:J)(p:Pt):List Value:= [.int .i64 j.kind,.int .i64 j.int,.string j.text,.slice p.pk j.keys.length p.ck,.slice p.pl j.list.length p.cl]
def eP(e:Ev)(p:Pt):List Value:= [.string e.room,.string e.aQ,.string e.ah,.bool e.st,.string e.key,.int .i64 e.content.kind,.int .i64 e.content.int,.string e.content.text,.slice p.pk e.content.keys.length p.ck,.slice p.pl e.content.list.length p.cl,.slice p.pp e.prev.length p.cp,.slice p.pa e.aC.length p.ca,.int .i64 e.depth,.int .i64 e.ts,.string e.hash,.slice p.ps e.sigs.length p.cs]
def ed(e:Ev)(p:Pt):Value:=.agg (eP e p).toArray
def Aa(O:Nat->Prop)(w:World)(p:Option Addr)(c:Nat)(l:List (ByteArray×ByteArray)):Prop:=
 l.length<=c/\∀j,j<l.length->∃b o,p=some ⟨b,o,none⟩/\O b/\w.cell? ⟨b,o+j*2,none⟩=some (.string (l.getD j (aH,aH)).1)/\w.cell? ⟨b,o+j*2+1,none⟩=some (.string (l.getD j (aH,aH)).2)
theorem Aa.nil(O:Nat->Prop)(w:World)(c:Nat)(p:Option Addr):Aa O w p c []:=⟨Nat.zero_le _,fun j hj=>absurd hj (by simp)⟩
theorem Aa.carry{O O':Nat->Prop}{w w':World}{p:Option Addr}{c:Nat}{l:List (ByteArray×ByteArray)}(h:Aa O w p c l)(hO:∀k,O k->O' k/\w'.heap[k]?=w.heap[k]?):Aa O' w' p c l:=
 ⟨h.1,fun j hj=>by
  obtain⟨b,o,hp,hB,h1,h2⟩:=h.2 j hj;exact⟨b,o,hp,(hO _ hB).1,(World.cell?_of_block (a:=⟨b,o+j*2,none⟩) (hO _ hB).2).trans h1,(World.cell?_of_block (a:=⟨b,o+j*2+1,none⟩) (hO _ hB).2).trans h2⟩⟩
structure mF(O:Nat->Prop)(w:World)(e:Ev)(p:Pt):Prop where
 cont:isJ O w e.content (pO e.content p)
 prev:jT O w p.pp p.cp e.prev
 aC:jT O w p.pa p.ca e.aC
 sigs:Aa O w p.ps p.cs e.sigs
theorem mF.carry{O O':Nat->Prop}{w w':World}{e:Ev}{p:Pt}(h:mF O w e p)(hO:∀k,O k->O' k/\w'.heap[k]?=w.heap[k]?):mF O' w' e p:=
 ⟨h.cont.carry hO,h.prev.carry hO,h.aC.carry hO,h.sigs.carry hO⟩
theorem mF.below{O:Nat->Prop}{w w':World}{e:Ev}{p:Pt}(h:mF O w e p)(hO:∀k,O k->k<w.heap.size)(hb:Below w.heap.size w w'):mF O w' e p:=h.carry fun k hk=>⟨hk,hb.block k (hO k hk)⟩
theorem Gv(O:Nat->Prop)(w:World):mF O w Ev.zero Pt.zero:=⟨pQ _ _,jT.nil _ _,jT.nil _ _,Aa.nil _ _ _ _⟩
def O0(s:ByteArray):ByteArray:=⟨#[36]⟩++s
def fJ(e:Ev):Bool:=(Id.parts 33 e.room).2.2&&(Id.parts 64 e.ah).2.2&&Id.aQ e.aQ
def ig(e:Ev):Bool:=if e.st=true then decide (e.key.size<=128)&&Lib.validD e.key.data.toList else decide (e.key.size=0)
def fq(c:J):Bool:=decide (c.kind=5)&&goodJ 12 (.mk 4 0 aH [] [c])
def bU(most:Nat)(l:List ByteArray):Bool:=decide (l.length<=most)&&noKeyTwice l&&l.all Id.tT
def dQ(n most:Int):Bool:=decide (0<=n)&&decide (n<=most)
def iH(s:ByteArray):Bool:=Id.tT (O0 s)
def riseS:List (ByteArray×ByteArray)->Bool
 | a::b::r=>pE a.1 b.1&&riseS (b::r)
 | _=>true
def di(l:List (ByteArray×ByteArray)):Bool:=decide (l.length<=4)&&l.all (fun s=>Id.EH s.1&&iH s.2)&&riseS l
def aO(e:Ev):Bool:=fJ e&&ig e&&fq e.content&&bU 20 e.prev&&bU 10 e.aC&&dQ e.depth 1099511627776&&dQ e.ts bK&&(decide (e.hash.size=0) || iH e.hash)&&di e.sigs
def aL(s:ByteArray):J:=.mk 3 0 s [] []
def gz(n:Int):J:=.mk 2 n aH [] []
def dB(l:List ByteArray):J:=.mk 4 0 aH [] (l.map aL)
def dF(l:List (ByteArray×ByteArray)):J:=.mk 5 0 aH (l.map (·.1)) (l.map fun s=>aL s.2)
def dA:ByteArray:=⟨#[97,117,116,104]⟩
def aS:ByteArray:=⟨#[99,111,110,116,101,110,116]⟩
def cu:ByteArray:=⟨#[100,101,112,116,104]⟩
def dO:ByteArray:=⟨#[104,97,115,104]⟩
def lY:ByteArray:=⟨#[107,101,121]⟩
def eu:ByteArray:=⟨#[112,114,101,118]⟩
def eX:ByteArray:=⟨#[114,111,111,109]⟩
def bZ:ByteArray:=⟨#[115,101,110,100,101,114]⟩
def fP:ByteArray:=⟨#[115,105,103,115]⟩
def uL:ByteArray:=⟨#[116,115]⟩
def gH:ByteArray:=⟨#[116,121,112,101]⟩
def gp(e:Ev):List (ByteArray×J):= [(dA,dB e.aC),(aS,e.content),(cu,gz e.depth),(dO,aL e.hash)]++(if e.st=true then [(lY,aL e.key)]else [])++ [(eu,dB e.prev),(eX,aL e.room),(bZ,aL e.ah),(fP,dF e.sigs),(uL,gz e.ts),(gH,aL e.aQ)]
def dI(e:Ev):J:=.mk 5 0 aH ((gp e).map (·.1)) ((gp e).map (·.2))
def One(R:Nat):Nat->Prop:=fun k=>k=R
def eQ(w:World)(R:Nat)(s:ByteArray)(p:Nat)(e l:Int):Prop:=w.heap[R]?=some (.cells #[.string s,.int .i64 p,.int .i64 e,.int .i64 l] 95 (0,0))
section
variable {w w' : World} {R p : Nat} {s : ByteArray} {e l : Int}
theorem eQ.c0(h:eQ w R s p e l):w.cell? ⟨R,0,none⟩=some (.string s):=aR (cur:= [_,_,_,_]) h 0 _ rfl
theorem eQ.c1(h:eQ w R s p e l):w.cell? ⟨R,1,none⟩=some (.int .i64 p):=aR (cur:= [_,_,_,_]) h 1 _ rfl
theorem eQ.c2(h:eQ w R s p e l):w.cell? ⟨R,2,none⟩=some (.int .i64 e):=aR (cur:= [_,_,_,_]) h 2 _ rfl
theorem eQ.c3(h:eQ w R s p e l):w.cell? ⟨R,3,none⟩=some (.int .i64 l):=aR (cur:= [_,_,_,_]) h 3 _ rfl
theorem eQ.fz(h:eQ w R s p e l)(j:Nat):w.frozen? ⟨R,j,none⟩=false:=frozen_of_row w R j _ _ h
theorem eQ.lt(h:eQ w R s p e l):R<w.heap.size:=(Array.getElem?_eq_some_iff.1 h).1
theorem eQ.bf{S:Nat->Prop}(h:eQ w R s p e l)(hk:aj S w w')(hS:¬S R):eQ w' R s p e l:=(hk.block R h.lt hS).trans h
theorem eQ.at(h:eQ w R s p e l)(q:Nat):eQ (w.setCell ⟨R,1,none⟩ (.int .i64 q)) R s q e l:=by
 unfold eQ at h ⊢;rw[heap_setCell_same w R 1 _ _ _ h];rfl
theorem eQ.setAt(w:World)(R q:Nat):aj (One R) w (w.setCell ⟨R,1,none⟩ (.int .i64 q)):=aj.setCell (aj.refl _ _) (fun _=>(rfl:R=R)) _
theorem eQ.bad(h:eQ w R s p e l)(e' l':Int):eQ ((w.setCell ⟨R,2,none⟩ (.int .i64 e')).setCell ⟨R,3,none⟩ (.int .i64 l')) R s p e' l':=by
 unfold eQ at h ⊢;have h1:(w.setCell ⟨R,2,none⟩ (.int .i64 e')).heap[R]?=some (.cells #[.string s,.int .i64 p,.int .i64 e',.int .i64 l] 95 (0,0)):=by
  rw[heap_setCell_same w R 2 _ _ _ h];rfl
 rw[heap_setCell_same _ R 3 _ _ _ h1];rfl
theorem eQ.Ku(w:World)(R:Nat)(e' l':Int):aj (One R) w ((w.setCell ⟨R,2,none⟩ (.int .i64 e')).setCell ⟨R,3,none⟩ (.int .i64 l')):=
 aj.setCell (aj.setCell (aj.refl _ _) (fun _=>(rfl:R=R)) _) (fun _=>(rfl:R=R)) _
end
def short(s:ByteArray):Prop:=s.size<=16384
theorem zt(s:ByteArray)(i:Nat)(h:i<s.size):ag (ints s) i=(s[i].toNat:Int):=dH s i h
theorem ik{w:World}{R p:Nat}{s:ByteArray}{e l:Int}(hr:eQ w R s p e l)(i:Nat):
    Calls Tryz.prog 162 #[.pointer (some ⟨R,0,none⟩),.int .i64 i] w fun x w'=>x=.returned (.int .u8 (ag (ints s) i))/\w=w':=by
 have c0:=hr.c0
 by_cases h:i<s.size
 ·have HB:Hid (ag (ints s) i=(s[i].toNat:Int)):=zt s i h;go_enter Tryz.func162,Tryz.ntmps162;go_wp2;go_ret;exact⟨mE HB.out.symm,rfl⟩
 ·have HB:Hid (ag (ints s) i=0):=lS s i (by omega);go_enter Tryz.func162,Tryz.ntmps162;go_wp2;go_ret;exact⟨mE HB.out.symm,rfl⟩
theorem dL{w:World}{R p:Nat}{s:ByteArray}{e l:Int}(hr:eQ w R s p e l):
    Calls Tryz.prog 138 #[.pointer (some ⟨R,0,none⟩)] w fun x w'=>x=.returned (.int .u8 (ag (ints s) p))/\w=w':=by
 have c1:=hr.c1;go_enter Tryz.func138,Tryz.ntmps138;go_wp2_with(go_at_call 162;refine(ik hr p).mono ?_;rintro x w' ⟨rfl,rfl⟩);go_ret;exact⟨rfl,rfl⟩
theorem gu{w:World}{R p:Nat}{s:ByteArray}{e l:Int}(hr:eQ w R s p e l)(e' l':Int):
    Calls Tryz.prog 116 #[.pointer (some ⟨R,0,none⟩),.int .i64 e',.int .i64 l'] w fun x w'=>x=.returned (.tuple #[])/\eQ w' R s p e' l'/\aj (One R) w w':=by
 have c2:=hr.c2;have c3:=hr.c3;have f2:=hr.fz 2;have f3:=hr.fz 3;go_enter Tryz.func116,Tryz.ntmps116;go_wp2
 go_end0
 exact⟨rfl,hr.bad e' l',eQ.Ku _ _ e' l'⟩
theorem dY(c:Int)(w:World):Calls Tryz.prog 163 #[.int .u8 c] w fun x w'=>x=.returned (.bool (bX c))/\w=w':=by
 go_enter Tryz.func163,Tryz.ntmps163;go_wp2
 all_goals
  go_ret;refine⟨av ?_,rfl⟩;unfold bX;rw[Bool.eq_iff_iff];simp;omega
theorem wh{t:List Int}:∀(l:List Int) (p:Nat),(∀c∈l,c≠0)->l≠ []->p<=t.length->xf t p (word t l p)
 | [],_,_,h,_=>absurd rfl h
 | [c],p,hc,_,hp=>by
  unfold word;refine jb (zK (hc c (by simp)) hp) fun _ q _ _=>.inr ⟨(), ?_⟩
  rfl
 | c::d::r,p,hc,_,hp=>by
  unfold word;refine jb (zK (hc c (by simp)) hp) fun _ q _ hq=>.inl ?_;exact wh (d::r) q (fun x hx=>hc x (by simp at hx ⊢;exact .inr hx)) (by simp) hq
theorem Kv{c:Int}(h:bX c=true):c≠0:=by
 unfold bX at h;simp at h;omega
theorem take_len(t:List Int)(p:Nat)(f:Int->Bool)(hp:p<=t.length):p+((t.drop p).takeWhile f).length<=t.length:=by
 have:=(List.takeWhile_sublist f (l:=t.drop p)).length_le;simp at this;omega
theorem RI(t:List Int)(p:Nat)(f:Int->Bool)(hp:p<t.length)(hf:f (ag t p)=true):0<((t.drop p).takeWhile f).length:=by
 have e:t.drop p=t[p]::t.drop (p+1):=List.drop_eq_getElem_cons hp;have g:ag t p=t[p]:=by unfold ag;rw[List.getD_eq_getElem?_getD,List.getElem?_eq_getElem hp];rfl
 rw[e,List.takeWhile_cons,<-g,hf];simp
theorem vg{t:List Int}{p:Nat}(h:bX (ag t p)=true):p<(digits t p).2/\(digits t p).2<=t.length:=by
 have hp:=bq (Kv h);unfold digits
 split
 ·exact⟨by simp,hp⟩
 ·have h1:=RI t p bX hp h;have h2:=take_len t p bX (by omega);exact⟨by simp only;omega,h2⟩
theorem Kw{t:List Int}{p:Nat}(hp:p<=t.length):xf t p (number t p):=by
 unfold number;have hq:p<=(if ag t p=45 then p+1 else p)/\(if ag t p=45 then p+1 else p)<=t.length:=by
  split
  ·rename_i h;exact⟨by omega,bq (by rw[h];decide)⟩
  ·exact⟨Nat.le_refl _,hp⟩
 generalize (if ag t p=45 then p+1 else p)=q at hq ⊢
 by_cases h:bX (ag t q)=true
 ·rw[if_pos h];have:=vg h;simp only
  split
  ·exact hp
  ·exact⟨by omega,this.2⟩
 ·rw[if_neg h];exact hq.2
theorem YC{c d:Int}(h:ib c=some d):c≠0:=by
 unfold ib bX at h;intro hc;subst hc;simp at h
theorem wm(t:List Int)(i:Nat):∀m k n,k<=(hexL t i m k n).2/\(hexL t i m k n).2<=k+m/\(i+k<=t.length->i+(hexL t i m k n).2<=t.length)
 | 0,k,n=>⟨Nat.le_refl _,Nat.le_refl _,id⟩
 | m+1,k,n=>by
  unfold hexL
  split
  ·exact⟨Nat.le_refl _,by simp,id⟩
  ·rename_i d hd;have:=wm t i m (k+1) (n*16+d);have hl:=bq (YC hd);exact⟨by omega,by omega,fun _=>this.2.2 (by omega)⟩
theorem O1{t:List Int}{p:Nat}(hp:p+2<=t.length):xf t p (kR t p):=by
 unfold kR;have h:=wm t (p+2) 4 0 0;have h4:=h.2.2 hp;have e:gF t (p+2)=hexL t (p+2) 4 0 0:=rfl
 split
 ·exact h4
 ·split
  ·exact⟨by omega,by rw[e]at*;omega⟩
  ·split
   ·show p<=t.length;omega
   ·split
    ·show p<=t.length;omega
    ·rename_i l hl;unfold nW at hl
     split at hl
     ·rename_i hc
      split at hl
      ·rename_i hk;have h':=wm t (p+6+2) 4 0 0;have hu:p+6+1<t.length:=bq (by rw[hc.2];decide);have h5:=h'.2.2 (by omega);have e':gF t (p+6+2)=hexL t (p+6+2) 4 0 0:=rfl;rw[e']at hk;exact⟨by omega,by omega⟩
      ·cases hl
     ·cases hl
theorem vo{t:List Int}{p:Nat}(hp:p<t.length):xf t p (escape t p):=by
 unfold escape;have key:ag t (p+1)≠0->p+2<=t.length:=fun h=>bq h;simp only
 split
 ·rename_i h;exact⟨by omega,key (by omega)⟩
 split
 ·rename_i h;exact⟨by omega,key (by omega)⟩
 split
 ·rename_i h;exact⟨by omega,key (by omega)⟩
 split
 ·rename_i h;exact⟨by omega,key (by omega)⟩
 split
 ·rename_i h;exact⟨by omega,key (by omega)⟩
 split
 ·rename_i h;exact⟨by omega,key (by omega)⟩
 split
 ·rename_i h;exact O1 (key (by omega))
 ·exact hp
theorem xf.EL{α:Type}{t:List Int}{p q:Nat}{r:Res α}(h:xf t q r)(hp:p<=q):xf t p r:=by
 cases r with
 | ok v r=>exact⟨Nat.lt_of_le_of_lt hp h.1,h.2⟩
 | bad e a=>exact h
theorem Ab{t:List Int}:∀(m p:Nat) (out:List Int),p<=t.length->xf t p (quoL t m p out)
 | 0,p,out,hp=>Nat.zero_le _
 | m+1,p,out,hp=>by
  unfold quoL
  split
  ·rename_i h;exact⟨by omega,bq (by rw[h];decide)⟩
  split
  ·rename_i h;refine jb (vo (bq (by rw[h];decide))) fun l q _ hq=>.inl ?_;exact Ab m q _ hq
  split
  ·exact hp
  ·exact(Ab m (p+1) _ (bq (by omega))).EL (by omega)
theorem vv{t:List Int}{p:Nat}(hp:p<t.length):xf t p (quoted t p):=
 (Ab _ _ _ hp).EL (by omega)
theorem Dl{t:List Int}{ks:List ByteArray}{p:Nat}(hp:p<=t.length):xf t p (jX t ks p):=by
 unfold jX
 split
 ·rename_i h;refine jb (vv (bq (by rw[h];decide))) fun s q _ hq=>.inl ?_
  split
  ·exact hp
  ·have hb:=gP t q;refine xf.EL ?_ hb;refine jb (zK (by decide) (fu hq)) fun _ r h1 h2=> ?_
   rcases Nat.eq_or_lt_of_le (gP t r)with he| bJ
   ·exact .inr ⟨_,by rw[<-he]⟩
   ·exact .inl ⟨bJ,fu h2⟩
 ·exact hp
theorem Dm{t:List Int}{f:Nat->Res J}(hf:∀p,p<=t.length->xf t p (f p)):∀(m p:Nat) (dz:List J),p<=t.length->xf t p (listL t f m p dz)
 | 0,p,dz,hp=>Nat.zero_le _
 | m+1,p,dz,hp=>by
  unfold listL;refine xf.EL ?_ (gP t p);refine jb (hf _ (fu hp)) fun v q h1 h2=>.inl ?_;have hb:=gP t q;have hl:=fu h2
  split
  ·rename_i h;exact⟨by omega,bq (by rw[h];decide)⟩
  split
  ·rename_i h;have:aG t q+1<=t.length:=bq (by rw[h];decide);exact(Dm hf m _ _ this).EL (by omega)
  ·exact hl
theorem Ac{t:List Int}{f:Nat->Res J}(hf:∀p,p<=t.length->xf t p (f p)):∀(m p:Nat) (ks:List ByteArray) (dz:List J),p<=t.length->xf t p (pairsL t f m p ks dz)
 | 0,p,ks,dz,hp=>Nat.zero_le _
 | m+1,p,ks,dz,hp=>by
  unfold pairsL;refine xf.EL ?_ (gP t p);refine jb (Dl (fu hp)) fun s q h1 h2=>.inl ?_;refine jb (hf q h2) fun v r h1 h2=>.inl ?_;have hb:=gP t r;have hl:=fu h2
  split
  ·rename_i h;exact⟨by omega,bq (by rw[h];decide)⟩
  split
  ·rename_i h;have:aG t r+1<=t.length:=bq (by rw[h];decide);exact(Ac hf m _ _ _ this).EL (by omega)
  ·exact hl
theorem Ky{t:List Int}{f:Nat->Res J}(hf:∀p,p<=t.length->xf t p (f p)){p:Nat}(hp:p<t.length):xf t p (lu t f p):=by
 unfold lu;have hb:=gP t (p+1);have hl:=fu (t:=t) (p:=p+1) hp
 split
 ·rename_i h;exact⟨by omega,bq (by rw[h];decide)⟩
 ·exact(Dm hf _ _ _ hl).EL (by omega)
theorem Gw{t:List Int}{f:Nat->Res J}(hf:∀p,p<=t.length->xf t p (f p)){p:Nat}(hp:p<t.length):xf t p (iG t f p):=by
 unfold iG;have hb:=gP t (p+1);have hl:=fu (t:=t) (p:=p+1) hp
 split
 ·rename_i h;exact⟨by omega,bq (by rw[h];decide)⟩
 ·exact(Ac hf _ _ _ _ hl).EL (by omega)
theorem pW(t:List Int):∀(d p:Nat),p<=t.length->xf t p (value t d p)
 | 0,p,hp=>by
  unfold value
  split<;>exact hp
 | d+1,p,hp=>by
  unfold value
  split
  ·split
   ·exact jb (wh _ _ (by decide) (by simp) hp) fun _ q _ _=>.inr ⟨_,rfl⟩
   split
   ·exact jb (wh _ _ (by decide) (by simp) hp) fun _ q _ _=>.inr ⟨_,rfl⟩
   split
   ·exact jb (wh _ _ (by decide) (by simp) hp) fun _ q _ _=>.inr ⟨_,rfl⟩
   split
   ·rename_i h;exact jb (vv (bq (by rw[h];decide))) fun _ q _ _=>.inr ⟨_,rfl⟩
   split
   ·rename_i h;exact Ky (fun q hq=>pW t d q hq) (bq (by rw[h];decide))
   split
   ·rename_i h;exact Gw (fun q hq=>pW t d q hq) (bq (by rw[h];decide))
   ·exact Kw hp
  ·exact hp
theorem bG{t r:List Int}{p:Nat}{c:Int}(h:t.drop p=c::r):ag t p=c:=by
 unfold ag;have:t[p]?=some c:=by
  have h1:(t.drop p)[0]?=some c:=by rw[h];rfl
  rw[List.getElem?_drop]at h1;exact h1
 rw[List.getD_eq_getElem?_getD,this]
 rfl
theorem drop_tail{t r:List Int}{p:Nat}{c:Int}(h:t.drop p=c::r):t.drop (p+1)=r:=by
 rw[<-List.drop_drop,h];rfl
theorem jD{t x r:List Int}{p:Nat}(h:t.drop p=x++r):t.drop (p+x.length)=r:=by
 rw[<-List.drop_drop,h];simp
theorem RJ{t:List Int}{p:Nat}(h:t.drop p= []):ag t p=0:=by
 unfold ag;rw[List.getD_eq_getElem?_getD,List.getElem?_eq_none (List.drop_eq_nil_iff.1 h)]
 rfl
theorem Gx(n:Int)(h0:0<=n)(h1:n<=15):ib (Ci n)=some n:=by
 unfold Ci ib bX
 split
 ·rw[if_pos (by simp;omega)];congr 1;omega
 ·rw[if_neg (by simp;omega),if_pos (by omega)];congr 1;omega
theorem Kz(c:Int)(h0:0<=c)(h1:c<=127):Lib.encodeRuneZ c= [c]:=Lib.encodeRuneZ_one h0 h1
theorem O3{t r:List Int}{p:Nat}{c:Int}(h0:0<=c)(h1:c<32)(hd:t.drop p=92::117::48::48::Ci (c / 16)::Ci (c % 16)::r):kR t p=.ok c (p+6):=by
 have d1:=drop_tail hd;have d2:=drop_tail d1;have b0:=bG d2;have d3:=drop_tail d2;have b1:=bG d3;have d4:=drop_tail d3;have b2:=bG d4;have d5:=drop_tail d4;have b3:=bG d5;have z:ib 48=some 0:=by decide
 have e2:=Gx (c / 16) (by omega) (by omega);have e3:=Gx (c % 16) (by omega) (by omega);have hx:gF t (p+2)=(c,4):=by
  unfold gF hexL;rw[show p+2+0=p+1+1 from rfl,b0,z];simp only;unfold hexL;rw[show p+2+(0+1)=p+1+1+1 from rfl,b1,z];simp only;unfold hexL;rw[show p+2+(0+1+1)=p+1+1+1+1 from rfl,b2,e2];simp only;unfold hexL;rw[show p+2+(0+1+1+1)=p+1+1+1+1+1 from rfl,b3,e3];simp only;unfold hexL;refine Prod.ext ?_ rfl;simp only;omega
 unfold kR;rw[hx];simp only;rw[if_neg (by omega),if_pos (by omega)]
theorem oW{t r:List Int}{p:Nat}{b:Int}(hd:t.drop p=92::b::r):ag t p=92/\ag t (p+1)=b:=⟨bG hd,bG (drop_tail hd)⟩
theorem RL{t r:List Int}{p:Nat}{c:Int}(h0:0<=c)(hc:c<32\/ c=34\/ c=92)(hd:t.drop p=aI c++r):ag t p=92/\escape t p=.ok c (p+(aI c).length):=by
 by_cases c34:c=34
 ·subst c34;have e:aI 34= [92,34]:=by decide
  rw[e]at hd ⊢;obtain⟨b0,b1⟩:=oW hd;refine⟨b0, ?_⟩;unfold escape;simp only[b1]
  rfl
 by_cases c92:c=92
 ·subst c92;have e:aI 92= [92,92]:=by decide
  rw[e]at hd ⊢;obtain⟨b0,b1⟩:=oW hd;refine⟨b0, ?_⟩;unfold escape;simp only[b1]
  rfl
 by_cases c8:c=8
 ·subst c8;have e:aI 8= [92,98]:=by decide
  rw[e]at hd ⊢;obtain⟨b0,b1⟩:=oW hd;refine⟨b0, ?_⟩;unfold escape;simp only[b1]
  rfl
 by_cases c9:c=9
 ·subst c9;have e:aI 9= [92,116]:=by decide
  rw[e]at hd ⊢;obtain⟨b0,b1⟩:=oW hd;refine⟨b0, ?_⟩;unfold escape;simp only[b1]
  rfl
 by_cases gI:c=10
 ·subst gI;have e:aI 10= [92,110]:=by decide
  rw[e]at hd ⊢;obtain⟨b0,b1⟩:=oW hd;refine⟨b0, ?_⟩;unfold escape;simp only[b1]
  rfl
 by_cases EM:c=12
 ·subst EM;have e:aI 12= [92,102]:=by decide
  rw[e]at hd ⊢;obtain⟨b0,b1⟩:=oW hd;refine⟨b0, ?_⟩;unfold escape;simp only[b1]
  rfl
 by_cases mO:c=13
 ·subst mO;have e:aI 13= [92,114]:=by decide
  rw[e]at hd ⊢;obtain⟨b0,b1⟩:=oW hd;refine⟨b0, ?_⟩;unfold escape;simp only[b1]
  rfl
 have hl:c<32:=by omega
 have e:aI c= [92,117,48,48,Ci (c / 16),Ci (c % 16)]:=by
  unfold aI;rw[if_neg c34,if_neg c92,if_neg c8,if_neg c9,if_neg gI,if_neg EM,if_neg mO,if_pos hl]
 rw[e]at hd ⊢;obtain⟨b0,b1⟩:=oW hd;refine⟨b0, ?_⟩;have:=O3 h0 hl hd;unfold escape;simp only[b1];exact this
theorem kS(t:List Int)(m p:Nat)(out:List Int):quoL t (m+1) p out=
    if ag t p=34 then .ok out (p+1)
    else if ag t p=92 then(escape t p).bind fun l q=>quoL t m q (out++Lib.encodeRuneZ l)
    else if ag t p<32 then .bad 11 p
    else quoL t m (p+1) (out++ [ag t p]):=rfl
theorem Gy(t:List Int):∀(zs:List Int) (m p:Nat) (out r:List Int),(∀c∈zs,0<=c/\c<=255)->zs.length<m->t.drop p=zs.flatMap aI++34::r→
    quoL t m p out=.ok (out++zs) (p+(zs.flatMap aI).length+1)
 | [],m+1,p,out,r,_,_,hd=>by
  have hb:=bG (c:=34) hd;rw[kS,if_pos hb];simp
 | c::zs,m+1,p,out,r,hz,hm,hd=>by
  have hc:=hz c (by simp);have hz':∀x∈zs,0<=x/\x<=255:=fun x hx=>hz x (by simp[hx]);rw[List.flatMap_cons,List.append_assoc]at hd;have next:=jD hd;have ih:=Gy t zs m (p+(aI c).length) (out++ [c]) r hz' (by simpa using hm) next;have fin:Res.ok (out++ [c]++zs) (p+(aI c).length+(zs.flatMap aI).length+1)=Res.ok (out++c::zs) (p+((c::zs).flatMap aI).length+1):=by
   simp only[List.append_assoc,List.singleton_append,List.flatMap_cons,List.length_append,Nat.add_assoc]
  rw[<-fin,<-ih,kS]
  by_cases hs:c<32\/ c=34\/ c=92
  ·obtain⟨b0,he⟩:=RL hc.1 hs hd;rw[if_neg (by rw[b0];decide),if_pos b0,he];simp only[Res.bind];rw[Kz c hc.1 (by omega)]
  ·have e:aI c= [c]:=by
     unfold aI;rw[if_neg (by omega),if_neg (by omega),if_neg (by omega),if_neg (by omega),if_neg (by omega),if_neg (by omega),if_neg (by omega),if_neg (by omega)]
   rw[e]at hd ⊢;have b0:=bG (c:=c) hd;rw[b0,if_neg (by omega),if_neg (by omega),if_neg (by omega)]
   rfl
theorem yr{t r zs:List Int}{p:Nat}(hz:∀c∈zs,0<=c/\c<=255)(hd:t.drop p=quote zs++r):quoted t p=.ok zs (p+(quote zs).length)/\ag t p=34:=by
 unfold quote at hd ⊢;have YD:t.drop p=34::(zs.flatMap aI++34::r):=by rw[hd];simp
 have cB:(zs.flatMap aI).length<t.length:=by
  have:=congrArg List.length YD;rw[List.length_drop,List.length_cons,List.length_append,List.length_cons]at this;omega
 have hl:zs.length<=(zs.flatMap aI).length:=by
  clear hd YD cB hz
  induction zs with
  | nil=>simp
  | cons c zs ih=>
   have:1<=(aI c).length:=by unfold aI;(repeat' split);all_goals simp
   simp only[List.flatMap_cons,List.length_append,List.length_cons];omega
 have:=Gy t zs (t.length+1) (p+1) [] r hz (by omega) (drop_tail YD);refine⟨?_,bG YD⟩;unfold quoted;rw[this];simp only[List.nil_append,List.length_cons,List.length_append,List.length_nil]
 congr 1
 omega
open Go.RowKit
def oJ(w w':World)(R:Nat)(s:ByteArray)(q:Nat):Prop:=(∃e l,eQ w' R s q e l)/\aj (One R) w w'
def yt(w w':World)(R:Nat)(s:ByteArray)(e:Int)(l:Nat):Prop:=(∃q,eQ w' R s q e l)/\aj (One R) w w'
theorem oJ.then{w w1 w2:World}{R:Nat}{s:ByteArray}{q q':Nat}(h:oJ w w1 R s q)(h':oJ w1 w2 R s q'):oJ w w2 R s q':=⟨h'.1,h.2.then h'.2⟩
theorem oJ.bad{w w1 w2:World}{R:Nat}{s:ByteArray}{q:Nat}{e:Int}{l:Nat}(h:oJ w w1 R s q)(h':yt w1 w2 R s e l):yt w w2 R s e l:=⟨h'.1,h.2.then h'.2⟩
theorem oJ.refl{w:World}{R p:Nat}{s:ByteArray}{e l:Int}(h:eQ w R s p e l):oJ w w R s p:=⟨⟨e,l,h⟩,aj.refl _ _⟩
theorem jE{w:World}{R p:Nat}{s:ByteArray}{e l:Int}(hr:eQ w R s p e l)(hp:p<=20000)(c:Int)(h:ag (ints s) p=c):
    Calls Tryz.prog 167 #[.pointer (some ⟨R,0,none⟩),.int .u8 c] w fun x w'=>x=.returned (.bool true)/\oJ w w' R s (p+1):=by
 have c1:=hr.c1;have f1:=hr.fz 1;have HR:=hr.at (p+1);have HK:=eQ.setAt w R (p+1);subst h;go_enter Tryz.func167,Tryz.ntmps167;go_wp2_with(go_at_call 138;refine(dL hr).mono ?_;rintro x w' ⟨rfl,rfl⟩);go_ret;exact⟨rfl,⟨_,_,HR⟩,HK⟩
theorem iW{w:World}{R p:Nat}{s:ByteArray}{e l:Int}(hr:eQ w R s p e l)(c:Int)(h:ag (ints s) p≠c):
    Calls Tryz.prog 167 #[.pointer (some ⟨R,0,none⟩),.int .u8 c] w fun x w'=>x=.returned (.bool false)/\w=w':=by
 have hb:(ag (ints s) p !=c)=true:=by simp[h]
 go_enter Tryz.func167,Tryz.ntmps167;go_wp2_with(go_at_call 138;refine(dL hr).mono ?_;rintro x w' ⟨rfl,rfl⟩);go_ret;exact⟨rfl,rfl⟩
theorem pX{w:World}{R p:Nat}{s:ByteArray}{e l:Int}(hr:eQ w R s p e l)(hp:p<=20000)(c:Int)(h:ag (ints s) p=c):
    Calls Tryz.prog 164 #[.pointer (some ⟨R,0,none⟩),.int .u8 c] w fun x w'=>x=.returned (.bool true)/\oJ w w' R s (p+1):=by
 go_enter Tryz.func164,Tryz.ntmps164;go_wp2_with(go_at_call 167;refine(jE hr hp c h).mono ?_;rintro x w' ⟨rfl,hk⟩);go_ret;exact⟨rfl,hk⟩
theorem tV{w:World}{R p:Nat}{s:ByteArray}{e l:Int}(hr:eQ w R s p e l)(c:Int)(h:ag (ints s) p≠c):
    Calls Tryz.prog 164 #[.pointer (some ⟨R,0,none⟩),.int .u8 c] w fun x w'=>x=.returned (.bool false)/\yt w w' R s 11 p:=by
 have c1:=hr.c1;go_enter Tryz.func164,Tryz.ntmps164;go_wp2_with(first
  | (go_at_call 167;refine(iW hr c h).mono ?_;rintro x w' ⟨rfl,rfl⟩)
  | (go_at_call 116;refine(gu hr 11 p).mono ?_;rintro x w1 ⟨rfl,kg,jY⟩))
 go_ret;exact⟨rfl,⟨_,kg⟩,jY⟩
theorem Gz(c:Int):jo c=((c==32) || (c==9) || (c==10) || (c==13)):=by
 unfold jo;rw[Bool.eq_iff_iff];simp
theorem GA{t:List Int}{p:Nat}(h:jo (ag t p)=true):aG t p=aG t (p+1):=by
 have hp:=bq (t:=t) (p:=p) (by intro h0;rw[h0]at h;revert h;decide);have e:t.drop p=t[p]::t.drop (p+1):=List.drop_eq_getElem_cons hp;have g:ag t p=t[p]:=by unfold ag;rw[List.getD_eq_getElem?_getD,List.getElem?_eq_getElem hp];rfl
 unfold aG;rw[e,List.takeWhile_cons,<-g,h];simp;omega
theorem GD{t:List Int}{p:Nat}(h:jo (ag t p)=false):aG t p=p:=by
 unfold aG
 cases hd:t.drop p with
 | nil=>rfl
 | cons c r=>
  rw[bG hd]at h;rw[List.takeWhile_cons,h]
  rfl
def posOf(R:Nat)(w:World):Nat:=(intOf ((w.cell? ⟨R,1,none⟩).getD (.int .i64 0))).toNat
theorem gG{w:World}{R p:Nat}{s:ByteArray}{e l:Int}(h:eQ w R s p e l):posOf R w=p:=by
 unfold posOf;rw[h.c1];simp[intOf]
theorem bC{w:World}{R p:Nat}{s:ByteArray}{e l:Int}(hr:eQ w R s p e l)(hs:short s)(hp:p<=s.size):
    Calls Tryz.prog 114 #[.pointer (some ⟨R,0,none⟩)] w fun x w'=>x=.returned (.tuple #[])/\oJ w w' R s (aG (ints s) p):=by
 unfold short at hs;go_enter Tryz.func114,Tryz.ntmps114;go_wp2_with(go_at_call 138;refine(dL hr).mono ?_;rintro x w' ⟨rfl,rfl⟩)
 go_loopw [2] (fun c wr=>∃q:Nat,c=.int .u8 (ag (ints s) q)/\q<=s.size/\aG (ints s) q=aG (ints s) p/\eQ wr R s q e l/\aj (One R) w wr) (fun _ wr=>s.size - posOf R wr)
 case atStart=>exact⟨p,rfl,hp,rfl,hr,aj.refl _ _⟩
 case round=>
  obtain⟨q,rfl,hq,yY,xy,hk⟩:=hrel;have HBL:Hid (aG (ints s) q=aG (ints s) p):=yY;clear yY hr
  by_cases hb:jo (ag (ints s) q)=true
  ·have bJ:q<s.size:=by
     have:=bq (t:=ints s) (p:=q) (by intro h0;rw[h0]at hb;revert hb;decide);rw[ax]at this;exact this
   have yX:Hid (aG (ints s) q=aG (ints s) (q+1)):=GA hb;rw[Gz]at hb;have c1:=xy.c1;have f1:=xy.fz 1;have HR:eQ (wr.setCell ⟨R,1,none⟩ (.int .i64 ((q:Int)+1))) R s (q+1) e l:=xy.at (q+1);have HK:aj (One R) w (wr.setCell ⟨R,1,none⟩ (.int .i64 ((q:Int)+1))):=hk.then (eQ.setAt wr R (q+1));have HP:=gG HR;have O4:=gG xy;go_wp2_with(go_at_call 138;refine(dL HR).mono ?_;rintro x w' ⟨rfl,rfl⟩)
   all_goals first
    | (go_roundw
       case rel=>exact⟨q+1,rfl,bJ,by rw[<-yX.out];exact HBL.out,HR,HK⟩
       case measure=>rw[HP,O4];omega)
    | (exfalso;simp_all;done)
  ·have zk:jo (ag (ints s) q)=false:=by simpa using hb
   have yX:Hid (aG (ints s) q=q):=GD zk;rw[Gz]at zk;simp only[Bool.or_eq_false_iff]at zk;obtain⟨⟨⟨b1,b2⟩,b3⟩,b4⟩:=zk;go_wp2
   go_end0
   refine⟨rfl, ?_⟩;rw[<-HBL.out,yX.out];exact⟨⟨_,_,xy⟩,hk⟩
theorem RN{a b:Int}{p q:Bool}(h:a=b)(hp:p=q):Ending.returned (.tuple #[.int .i32 a,.bool p])=.returned (.tuple #[.int .i32 b,.bool q]):=by rw[h,hp]
theorem NA{a b c d:Int}(h:a=b)(hp:c=d):Ending.returned (.tuple #[.int .i32 a,.int .i64 c])=.returned (.tuple #[.int .i32 b,.int .i64 d]):=by rw[h,hp]
theorem Dn{c d:Int}(h:ib c=some d):0<=d/\d<=15:=by
 unfold ib bX at h
 split at h
 ·rename_i h1;simp at h1;cases h;omega
 split at h
 ·cases h;omega
 split at h
 ·cases h;omega
 ·cases h
theorem wo(c:Int)(w:World)(h0:0<=c)(h1:c<=255):
    Calls Tryz.prog 208 #[.int .u8 c] w fun x w'=>x=.returned (.tuple #[.int .i32 ((ib c).getD 0),.bool (ib c).isSome])/\w=w':=by
 cases hd:bX c with
 | true=>
  have hh:ib c=some (c - 48):=by unfold ib;rw[if_pos hd]
  have hb:48<=c/\c<=57:=by unfold bX at hd;simpa using hd
  rw[hh];go_enter Tryz.func208,Tryz.ntmps208;go_wp2_with(go_at_call 163;refine(dY c _).mono ?_;rw[hd];rintro x w' ⟨rfl,rfl⟩);go_ret2;exact⟨rfl,rfl⟩
 | false=>
  by_cases ha:97<=c/\c<=102
  ·have hh:ib c=some (c - 97+10):=by unfold ib;rw[if_neg (by simp[hd]),if_pos ha]
   rw[hh];go_enter Tryz.func208,Tryz.ntmps208;go_wp2_with(go_at_call 163;refine(dY c _).mono ?_;rw[hd];rintro x w' ⟨rfl,rfl⟩);go_ret2;exact⟨rfl,rfl⟩
  by_cases hA:65<=c/\c<=70
  ·have hh:ib c=some (c - 65+10):=by unfold ib;rw[if_neg (by simp[hd]),if_neg ha,if_pos hA]
   rw[hh];go_enter Tryz.func208,Tryz.ntmps208;go_wp2_with(go_at_call 163;refine(dY c _).mono ?_;rw[hd];rintro x w' ⟨rfl,rfl⟩);go_ret2;exact⟨rfl,rfl⟩
  ·have hh:ib c=none:=by unfold ib;rw[if_neg (by simp[hd]),if_neg ha,if_neg hA]
   rw[hh];go_enter Tryz.func208,Tryz.ntmps208;go_wp2_with(go_at_call 163;refine(dY c _).mono ?_;rw[hd];rintro x w' ⟨rfl,rfl⟩)
   all_goals first
    | (exfalso;omega)
    | (go_ret2;exact⟨rfl,rfl⟩)
def capOf:Nat->Int
 | 0=>1
 | 1=>16
 | 2=>256
 | 3=>4096
 | _=>65536
theorem GG(k:Nat):capOf k<=65536:=by
 unfold capOf;split<;>omega
theorem Ad{k:Nat}{n d:Int}(hk:k<4)(h0:0<=n)(h:n<capOf k)(hd:0<=d/\d<=15):n*16+d<capOf (k+1)/\n<=4095:=by
 match k,hk with
 | 0,_=>simp only[capOf]at h ⊢;omega
 | 1,_=>simp only[capOf]at h ⊢;omega
 | 2,_=>simp only[capOf]at h ⊢;omega
 | 3,_=>simp only[capOf]at h ⊢;omega
theorem NC(t:List Int)(i:Nat):∀(m k:Nat) (n:Int),0<=n->n<capOf k->k+m<=4->0<=(hexL t i m k n).1/\(hexL t i m k n).1<65536
 | 0,k,n,h0,h1,_=>⟨h0,by have:=GG k;unfold hexL;simp only;omega⟩
 | m+1,k,n,h0,h1,hm=>by
  unfold hexL
  split
  ·have:=GG k;exact⟨h0,by simp only;omega⟩
  ·rename_i d hd;have hb:=Dn hd;exact NC t i m (k+1) _ (by omega) (Ad (by omega) h0 h1 hb).1 (by omega)
theorem Ae(t:List Int)(i:Nat):0<=(gF t i).1/\(gF t i).1<65536/\(gF t i).2<=4:=by
 have h:=NC t i 4 0 0 (by omega) (by decide) (by omega);exact⟨h.1,h.2,by have:=(wm t i 4 0 0).2.1;unfold gF;omega⟩
theorem Dp{w:World}{R p:Nat}{s:ByteArray}{e l:Int}(hr:eQ w R s p e l)(i:Nat)(hi:i<=40000):
    Calls Tryz.prog 198 #[.pointer (some ⟨R,0,none⟩),.int .i64 i] w fun x w'=>x=.returned (.tuple #[.int .i32 (gF (ints s) i).1,.int .i64 ((gF (ints s) i).2:Nat)])/\w=w':=by
 go_enter Tryz.func198,Tryz.ntmps198;go_wp2
 go_loop [6,10] (fun a b=>∃(n:Int) (k m:Nat),a=.int .i32 n/\b=.int .i64 k/\k+m=4/\0<=n/\n<capOf k/\hexL (ints s) i m k n=gF (ints s) i) (fun _ b=>4 - (intOf b).toNat)
 case atStart=>exact⟨0,0,4,rfl,rfl,rfl,by omega,by decide,rfl⟩
 case round=>
  obtain⟨n,k,m,rfl,rfl,hkm,h0,VC,hx⟩:=hrel;have HX:Hid (hexL (ints s) i m k n=gF (ints s) i):=hx;clear hx
  by_cases hk:k<4
  ·have oK:=jV s (i+k);obtain⟨m',rfl⟩:∃m',m=m'+1:=⟨m - 1,by omega⟩
   cases hd:ib (ag (ints s) (i+k))with
   | none=>
    have HH:Hid (gF (ints s) i=(n,k)):=by rw[<-HX.out];unfold hexL;rw[hd];rfl
    go_wp2_with(first
     | (go_at_call 162;refine(ik hr (i+k)).mono ?_;rintro x w' ⟨rfl,rfl⟩)
     | (go_at_call 208;refine(wo _ _ oK.1 oK.2).mono ?_;rw[hd];rintro x w' ⟨rfl,rfl⟩))
    go_ret2;exact⟨NA (by rw[HH.out]) (by rw[HH.out]),rfl⟩
   | some d=>
    have hdb:=Dn hd;have lV:=Ad hk h0 VC hdb;have HH:Hid (hexL (ints s) i m' (k+1) (n*16+d)=gF (ints s) i):=by rw[<-HX.out];show _=hexL _ _ (m'+1) _ _;conv=>rhs;unfold hexL;rw[hd]
    go_wp2_with(first
     | (go_at_call 162;refine(ik hr (i+k)).mono ?_;rintro x w' ⟨rfl,rfl⟩)
     | (go_at_call 208;refine(wo _ _ oK.1 oK.2).mono ?_;rw[hd];rintro x w' ⟨rfl,rfl⟩))
    go_round
    case rel=>exact⟨n*16+d,k+1,m',rfl,by go_num,by omega,by omega,lV.1,HH.out⟩
    case measure=>simp[intOf];omega
  ·obtain rfl:k=4:=by omega
   obtain rfl:m=0:=by omega
   have HH:Hid (gF (ints s) i=(n,4)):=by rw[<-HX.out];rfl
   go_wp2;go_ret2;exact⟨NA (by rw[HH.out]) (by rw[HH.out];rfl),rfl⟩
theorem O5{t:List Int}{i k:Nat}{n:Int}(Cq:ag t i=92)(O6:ag t (i+1)=117)(he:gF t (i+2)=(n,k)):nW t i=if k=4/\56320<=n/\n<=57343 then some n else none:=by
 unfold nW;rw[if_pos ⟨Cq,O6⟩,he]
theorem Dq{t:List Int}{i:Nat}(h:¬(ag t i=92/\ag t (i+1)=117)):nW t i=none:=by
 unfold nW;rw[if_neg h]
theorem O7{w:World}{R p:Nat}{s:ByteArray}{e l:Int}(hr:eQ w R s p e l)(i:Nat)(hi:i<=30000):
    Calls Tryz.prog 199 #[.pointer (some ⟨R,0,none⟩),.int .i64 i] w fun x w'=>(∃n,x=.returned (.tuple #[.int .i32 n,.bool (nW (ints s) i).isSome])/\∀m,nW (ints s) i=some m->n=m)/\w=w':=by
 have qO:=jV s i;have bI:=jV s (i+1);have hx:=Ae (ints s) (i+2)
 by_cases Cq:ag (ints s) i=92
 ·by_cases O6:ag (ints s) (i+1)=117
  ·obtain⟨n,k,he⟩:∃n k,gF (ints s) (i+2)=(n,k):=⟨_,_,rfl⟩;have xx:=Dp hr (i+2) (by omega);have HL:Hid (nW (ints s) i=if k=4/\56320<=n/\n<=57343 then some n else none):=O5 Cq O6 he;rw[he]at hx xx;simp only at hx xx;go_enter Tryz.func199,Tryz.ntmps199;go_wp2_with(first
    | (go_at_call 162;have _h:=bM;refine(ik hr (i+1)).mono ?_;rw[O6];rintro x w' ⟨rfl,rfl⟩)
    | (go_at_call 162;refine(ik hr i).mono ?_;rw[Cq];rintro x w' ⟨rfl,rfl⟩;have bM:True:=trivial)
    | (go_at_call 198;refine xx.mono ?_;rintro x w' ⟨rfl,rfl⟩))
   all_goals
    go_ret2;refine⟨⟨n,RN rfl ?_,fun m hm=> ?_⟩,rfl⟩
    ·rw[HL.out]
     split
     ·rename_i h;simp;try omega
     ·rename_i h;simp;try omega
    ·rw[HL.out]at hm
     split at hm
     ·cases hm;rfl
     ·cases hm
  ·have rJ:(ag (ints s) (i+1) !=117)=true:=by simp[O6]
   have HL:Hid (nW (ints s) i=none):=Dq fun h=>O6 h.2;go_enter Tryz.func199,Tryz.ntmps199;go_wp2_with(first
    | (go_at_call 162;have _h:=bM;refine(ik hr (i+1)).mono ?_;rintro x w' ⟨rfl,rfl⟩)
    | (go_at_call 162;refine(ik hr i).mono ?_;rw[Cq];rintro x w' ⟨rfl,rfl⟩;have bM:True:=trivial))
   go_ret2;rw[HL.out];exact⟨⟨_,rfl,fun m hm=>by cases hm⟩,rfl⟩
 ·have rJ:(ag (ints s) i !=92)=true:=by simp[Cq]
  have HL:Hid (nW (ints s) i=none):=Dq fun h=>Cq h.1;go_enter Tryz.func199,Tryz.ntmps199;go_wp2_with(go_at_call 162;refine(ik hr i).mono ?_;rintro x w' ⟨rfl,rfl⟩);go_ret2;rw[HL.out];exact⟨⟨_,rfl,fun m hm=>by cases hm⟩,rfl⟩
def Af(w w':World)(R:Nat)(s:ByteArray)(r:Res Int)(x:Ending):Prop:=match r with
 | .ok c q=>x=.returned (.tuple #[.int .i32 c,.bool true])/\oJ w w' R s q
 | .bad e l=>x=.returned (.tuple #[.int .i32 0,.bool false])/\yt w w' R s e l
theorem GH{t:List Int}{i:Nat}{m:Int}(h:nW t i=some m):56320<=m/\m<=57343:=by
 unfold nW at h
 split at h
 ·split at h
  ·rename_i hh;cases h;exact hh.2
  ·cases h
 ·cases h
theorem O8{w:World}{R p:Nat}{s:ByteArray}{e l:Int}(hr:eQ w R s p e l)(hp:p<=20000):
    Calls Tryz.prog 182 #[.pointer (some ⟨R,0,none⟩)] w fun x w'=>Af w w' R s (kR (ints s) p) x:=by
 have c1:=hr.c1;have f1:=hr.fz 1;have hx:=Ae (ints s) (p+2);obtain⟨n,k,he⟩:∃n k,gF (ints s) (p+2)=(n,k):=⟨_,_,rfl⟩;have xx:=Dp hr (p+2) (by omega);rw[he]at hx xx;simp only at hx xx
 by_cases hk:k<4
 ·have HC:Hid (kR (ints s) p=.bad 11 (p+2+k)):=by unfold kR;rw[he,if_pos hk];rfl
  have iK:(k:Int)<4:=by omega
  go_enter Tryz.func182,Tryz.ntmps182;go_wp2_with(first
   | (go_at_call 198;refine xx.mono ?_;rintro x w' ⟨rfl,rfl⟩)
   | (go_at_call 116;refine(gu hr 11 ((p+2+k:Nat):Int)).mono ?_;rintro x w1 ⟨rfl,kg,jY⟩))
  go_ret2;rw[HC.out];exact⟨rfl,⟨_,kg⟩,jY⟩
 have iK:¬(k:Int)<4:=by omega
 by_cases h1:n<55296\/ 57343<n
 ·have HC:Hid (kR (ints s) p=.ok n (p+6)):=by unfold kR;rw[he,if_neg hk,if_pos h1];rfl
  have HR:eQ (w.setCell ⟨R,1,none⟩ (.int .i64 ((p:Int)+6))) R s (p+6) e l:=hr.at (p+6);have HK:aj (One R) w (w.setCell ⟨R,1,none⟩ (.int .i64 ((p:Int)+6))):=eQ.setAt w R (p+6);go_enter Tryz.func182,Tryz.ntmps182;go_wp2_with(go_at_call 198;refine xx.mono ?_;rintro x w' ⟨rfl,rfl⟩)
  all_goals first
   | (exfalso;omega)
   | (go_ret2
      rw[HC.out];exact⟨rfl,⟨_,_,HR⟩,HK⟩)
 have yy:=O7 hr (p+6) (by omega)
 by_cases h2:56320<=n
 ·have HC:Hid (kR (ints s) p=.bad 11 p):=by unfold kR;rw[he,if_neg hk,if_neg h1,if_pos h2];rfl
  go_enter Tryz.func182,Tryz.ntmps182;go_wp2_with(first
   | (go_at_call 198;refine xx.mono ?_;rintro x w' ⟨rfl,rfl⟩)
   | (go_at_call 199;refine yy.mono ?_;rintro x w' ⟨⟨m,rfl,_⟩,rfl⟩)
   | (go_at_call 116;refine(gu hr 11 (p:Int)).mono ?_;rintro x w1 ⟨rfl,kg,jY⟩))
  all_goals first
   | (exfalso;omega)
   | (go_ret2
      rw[HC.out];exact⟨rfl,⟨_,kg⟩,jY⟩)
 cases sF:nW (ints s) (p+6)with
 | none=>
  have HC:Hid (kR (ints s) p=.bad 11 p):=by unfold kR;rw[he,if_neg hk,if_neg h1,if_neg h2,sF];rfl
  rw[sF]at yy;go_enter Tryz.func182,Tryz.ntmps182;go_wp2_with(first
   | (go_at_call 198;refine xx.mono ?_;rintro x w' ⟨rfl,rfl⟩)
   | (go_at_call 199;refine yy.mono ?_;rintro x w' ⟨⟨m,rfl,_⟩,rfl⟩)
   | (go_at_call 116;refine(gu hr 11 (p:Int)).mono ?_;rintro x w1 ⟨rfl,kg,jY⟩))
  all_goals first
   | (exfalso;omega)
   | (go_ret2
      rw[HC.out];exact⟨rfl,⟨_,kg⟩,jY⟩)
 | some m=>
  have hm:=GH sF;have HC:Hid (kR (ints s) p=.ok (65536+(n - 55296)*1024+(m - 56320)) (p+12)):=by unfold kR;rw[he,if_neg hk,if_neg h1,if_neg h2,sF];rfl
  have HR:eQ (w.setCell ⟨R,1,none⟩ (.int .i64 ((p:Int)+12))) R s (p+12) e l:=hr.at (p+12);have HK:aj (One R) w (w.setCell ⟨R,1,none⟩ (.int .i64 ((p:Int)+12))):=eQ.setAt w R (p+12);rw[sF]at yy;go_enter Tryz.func182,Tryz.ntmps182;go_wp2_with(first
   | (go_at_call 198;refine xx.mono ?_;rintro x w' ⟨rfl,rfl⟩)
   | (go_at_call 199;refine yy.mono ?_;rintro x w' ⟨⟨m',rfl,hmm⟩,rfl⟩;obtain rfl:=hmm m rfl))
  all_goals first
   | (exfalso;omega)
   | (go_ret2
      rw[HC.out];exact⟨rfl,⟨_,_,HR⟩,HK⟩)
theorem KA{w:World}{R p:Nat}{s:ByteArray}{e l:Int}(hr:eQ w R s p e l)(hp:p<=20000)(b c:Int)(hb:ag (ints s) (p+1)=b)
    (hbc:(b=34/\c=34)\/ (b=92/\c=92)\/ (b=47/\c=47)\/ (b=98/\c=8)\/ (b=102/\c=12)\/ (b=110/\c=10)\/ (b=114/\c=13)\/ (b=116/\c=9)):
    Calls Tryz.prog 165 #[.pointer (some ⟨R,0,none⟩)] w fun x w'=>Af w w' R s (.ok c (p+2)) x:=by
 have c1:=hr.c1;have f1:=hr.fz 1;have HR:eQ (w.setCell ⟨R,1,none⟩ (.int .i64 ((p:Int)+2))) R s (p+2) e l:=hr.at (p+2);have HK:aj (One R) w (w.setCell ⟨R,1,none⟩ (.int .i64 ((p:Int)+2))):=eQ.setAt w R (p+2);have xx:=ik hr (p+1);rw[hb]at xx;clear hb
 rcases hbc with⟨rfl,rfl⟩| ⟨rfl,rfl⟩| ⟨rfl,rfl⟩| ⟨rfl,rfl⟩| ⟨rfl,rfl⟩| ⟨rfl,rfl⟩| ⟨rfl,rfl⟩| ⟨rfl,rfl⟩
 all_goals
  go_enter Tryz.func165,Tryz.ntmps165;go_wp2_with(go_at_call 162;refine xx.mono ?_;rintro x w' ⟨rfl,rfl⟩);go_ret2;exact⟨rfl,⟨_,_,HR⟩,HK⟩
theorem KC{w:World}{R p:Nat}{s:ByteArray}{e l:Int}(hr:eQ w R s p e l)(hp:p<=20000):
    Calls Tryz.prog 165 #[.pointer (some ⟨R,0,none⟩)] w fun x w'=>Af w w' R s (escape (ints s) p) x:=by
 have one:=fun b c hb hbc=>KA hr hp b c hb hbc;unfold escape;simp only
 split
 ·rename_i h
  rcases h with h| h| h
  ·rw[h];exact one 34 34 h (by simp)
  ·rw[h];exact one 92 92 h (by simp)
  ·rw[h];exact one 47 47 h (by simp)
 split
 ·rename_i h;exact one 98 8 h (by simp)
 split
 ·rename_i h;exact one 102 12 h (by simp)
 split
 ·rename_i h;exact one 110 10 h (by simp)
 split
 ·rename_i h;exact one 114 13 h (by simp)
 split
 ·rename_i h;exact one 116 9 h (by simp)
 have c1:=hr.c1;have xx:=ik hr (p+1)
 split
 ·rename_i h;rw[h]at xx;have yy:=O8 hr hp
  cases hc:kR (ints s) p with
  | ok c q=>
   rw[hc]at yy;go_enter Tryz.func165,Tryz.ntmps165;go_wp2_with(first
    | (go_at_call 162;refine xx.mono ?_;rintro x w' ⟨rfl,rfl⟩)
    | (go_at_call 182;refine yy.mono ?_;rintro x w1 ⟨rfl,hk⟩))
   go_ret2;exact⟨rfl,hk⟩
  | bad e' l'=>
   rw[hc]at yy;go_enter Tryz.func165,Tryz.ntmps165;go_wp2_with(first
    | (go_at_call 162;refine xx.mono ?_;rintro x w' ⟨rfl,rfl⟩)
    | (go_at_call 182;refine yy.mono ?_;rintro x w1 ⟨rfl,hk⟩))
   go_ret2;exact⟨rfl,hk⟩
 ·rename_i h1 h2 h3 h4 h5 h6 h7;obtain⟨c,hc⟩:∃c,ag (ints s) (p+1)=c:=⟨_,rfl⟩;rw[hc]at h1 h2 h3 h4 h5 h6 h7 xx;have h11:¬c=34:=fun h=>h1 (.inl h);have lL:¬c=92:=fun h=>h1 (.inr (.inl h));have UW:¬c=47:=fun h=>h1 (.inr (.inr h));clear h1 hc one;go_enter Tryz.func165,Tryz.ntmps165;go_wp2_with(first
   | (go_at_call 162;refine xx.mono ?_;rintro x w' ⟨rfl,rfl⟩)
   | (go_at_call 116;refine(gu hr 11 ((p+1:Nat):Int)).mono ?_;rintro x w1 ⟨rfl,kg,jY⟩))
  go_ret2;exact⟨rfl,⟨_,kg⟩,jY⟩
theorem Ag(c:Int)(w:World):Calls Tryz.prog 139 #[.int .u8 c] w fun x w'=>x=.returned (.bool (nU c))/\w=w':=by
 by_cases h:c=91\/ c=123\/ c=34\/ c=110\/ c=116\/ c=102\/ c=45
 ·have hb:nU c=true:=by unfold nU;simp;omega
  rw[hb]
  rcases h with rfl| rfl| rfl| rfl| rfl| rfl| rfl
  all_goals
   go_enter Tryz.func139,Tryz.ntmps139;go_wp2;go_ret;exact⟨rfl,rfl⟩
 ·have hb:nU c=bX c:=by
    unfold nU;rw[Bool.eq_iff_iff];simp;omega
  have g1:¬c=91:=by omega
  have g2:¬c=123:=by omega
  have g3:¬c=34:=by omega
  have g4:¬c=110:=by omega
  have g5:¬c=116:=by omega
  have g6:¬c=102:=by omega
  have g7:¬c=45:=by omega
  rw[hb];clear h hb;go_enter Tryz.func139,Tryz.ntmps139;go_wp2_with(go_at_call 163;refine(dY c _).mono ?_;rintro x w' ⟨rfl,rfl⟩);go_ret;exact⟨rfl,rfl⟩
def wu(w w':World)(R:Nat)(s:ByteArray)(r:Res Unit)(x:Ending):Prop:=match r with
 | .ok _ q=>x=.returned (.bool true)/\oJ w w' R s q
 | .bad e l=>x=.returned (.bool false)/\yt w w' R s e l
theorem O9{t:List Int}{u:ByteArray}{k p:Nat}(hk:k<u.size):word t ((ints u).drop k) p=(pM t (u[k].toNat:Int) p).bind fun _ q=>word t ((ints u).drop (k+1)) q:=by
 have hl:k<(ints u).length:=by rw[ax];exact hk
 have e:(ints u).drop k=(u[k].toNat:Int)::(ints u).drop (k+1):=by
  rw[List.drop_eq_getElem_cons hl]
  congr 1
  have:=dH u k hk;rw[List.getD_eq_getElem?_getD,List.getElem?_eq_getElem hl]at this;exact this
 rw[e]
 rfl
theorem Ah{w:World}{R p:Nat}{s:ByteArray}{e l:Int}(hr:eQ w R s p e l)(hp:p<=17000)(u:ByteArray)(hu:u.size<=10):
    Calls Tryz.prog 140 #[.pointer (some ⟨R,0,none⟩),.string u] w fun x w'=>wu w w' R s (word (ints s) (ints u) p) x:=by
 go_enter Tryz.func140,Tryz.ntmps140;go_wp2
 go_loopw [8] (fun i wr=>∃k:Nat,i=.int .i64 k/\k<=u.size/\word (ints s) ((ints u).drop k) (p+k)=word (ints s) (ints u) p/\oJ w wr R s (p+k)) (fun i _=>u.size - (intOf i).toNat)
 case atStart=>exact⟨0,rfl,Nat.zero_le _,rfl,oJ.refl hr⟩
 case round=>
  obtain⟨k,rfl,hk,hw,⟨⟨e1,l1,lM⟩,sG⟩⟩:=hrel;have HW:Hid (word (ints s) ((ints u).drop k) (p+k)=word (ints s) (ints u) p):=hw;clear hw hr
  by_cases bJ:k<u.size
  ·have HS:Hid (word (ints s) ((ints u).drop k) (p+k)=(pM (ints s) (u[k].toNat:Int) (p+k)).bind fun _ q=>word (ints s) ((ints u).drop (k+1)) q):=O9 bJ
   by_cases hm:ag (ints s) (p+k)=(u[k].toNat:Int)
   ·have HM:Hid (pM (ints s) (u[k].toNat:Int) (p+k)=.ok () (p+k+1)):=by unfold pM;rw[if_pos hm];rfl
    go_wp2_with(go_at_call 164;refine(pX lM (by omega) _ hm).mono ?_;rintro x w1 ⟨rfl,jY⟩);go_roundw
    case rel=>exact⟨k+1,by go_num,bJ,by rw[<-HW.out,HS.out,HM.out];rfl,oJ.then ⟨⟨_,_,lM⟩,sG⟩ jY⟩
    case measure=>simp[intOf];omega
   ·have HM:Hid (pM (ints s) (u[k].toNat:Int) (p+k)=.bad 11 (p+k)):=by unfold pM;rw[if_neg hm];rfl
    go_wp2_with(go_at_call 164;refine(tV lM _ hm).mono ?_;rintro x w1 ⟨rfl,jY⟩);go_ret;rw[<-HW.out,HS.out,HM.out];exact⟨rfl,oJ.bad ⟨⟨_,_,lM⟩,sG⟩ jY⟩
  ·obtain rfl:k=u.size:=by omega
   have HE:Hid (word (ints s) ((ints u).drop u.size) (p+u.size)=.ok () (p+u.size)):=by
    rw[List.drop_eq_nil_of_le (by rw[ax];exact Nat.le_refl _)];rfl
   go_wp2;go_ret;rw[<-HW.out,HE.out];exact⟨rfl,⟨⟨_,_,lM⟩,sG⟩⟩
theorem O_{t:List Int}{p q:Nat}(hq:p<=q)(h:bX (ag t q)=true)(eO:(t.drop p).takeWhile bX=(t.drop p).take (q - p)++(t.drop q).takeWhile bX):
    (t.drop p).takeWhile bX=(t.drop p).take (q+1 - p)++(t.drop (q+1)).takeWhile bX/\(t.drop p).take (q+1 - p)=(t.drop p).take (q - p)++ [ag t q]:=by
 have hl:=bq (Kv h);have e:t.drop q=t[q]::t.drop (q+1):=List.drop_eq_getElem_cons hl;have g:ag t q=t[q]:=by unfold ag;rw[List.getD_eq_getElem?_getD,List.getElem?_eq_getElem hl];rfl
 have e2:(t.drop p).take (q+1 - p)=(t.drop p).take (q - p)++ [ag t q]:=by
  rw[show q+1 - p=(q - p)+1 by omega,List.take_add_one,List.getElem?_drop,show p+(q - p)=q by omega,List.getElem?_eq_getElem hl,g]
  rfl
 refine⟨?_,e2⟩;rw[eO,e2,e,List.takeWhile_cons,<-g,h];simp
theorem RO{t:List Int}{q:Nat}(h:bX (ag t q)=false):(t.drop q).takeWhile bX= []:=by
 cases hd:t.drop q with
 | nil=>rfl
 | cons c r=>
  rw[bG hd]at h;rw[List.takeWhile_cons,h]
  rfl
theorem ND(x:List Int)(h:∀c∈x,bX c=true):0<=nV x/\nV x<=90071992547409919:=by
 unfold nV;have:∀(x:List Int) (n:Int),(∀c∈x,bX c=true)->0<=n->n<=90071992547409919->0<=x.foldl (fun n c=>if n<=bK then n*10+(c - 48)else n) n/\x.foldl (fun n c=>if n<=bK then n*10+(c - 48)else n) n<=90071992547409919:=by
  intro x
  induction x with
  | nil=>intro n _ h0 h1;exact⟨h0,h1⟩
  | cons c x ih=>
   intro n hx h0 h1;have hc:=hx c (by simp);unfold bX at hc;simp at hc;rw[List.foldl_cons];refine ih _ (fun d hd=>hx d (by simp[hd])) ?_ ?_
   ·split<;>omega
   ·split
    ·rename_i h;unfold bK at h;omega
    ·exact h1
 exact this x 0 h (by omega) (by omega)
theorem lZ{w:World}{R p:Nat}{s:ByteArray}{e l:Int}(hr:eQ w R s p e l)(hs:short s)(hp:p<=s.size):
    Calls Tryz.prog 169 #[.pointer (some ⟨R,0,none⟩)] w fun x w'=>x=.returned (.int .i64 (digits (ints s) p).1)/\oJ w w' R s (digits (ints s) p).2:=by
 unfold short at hs
 by_cases h0:ag (ints s) p=48
 ·have HD:Hid (digits (ints s) p=(0,p+1)):=by unfold digits;rw[if_pos h0];rfl
  go_enter Tryz.func169,Tryz.ntmps169;go_wp2_with(go_at_call 167;refine(jE hr (by omega) 48 h0).mono ?_;rintro x w1 ⟨rfl,jY⟩);go_ret;rw[HD.out];exact⟨rfl,jY⟩
 ·have HD:Hid (digits (ints s) p=(nV (((ints s).drop p).takeWhile bX),p+(((ints s).drop p).takeWhile bX).length)):=by unfold digits;rw[if_neg h0];rfl
  go_enter Tryz.func169,Tryz.ntmps169;go_wp2_with(go_at_call 167;refine(iW hr 48 h0).mono ?_;rintro x w' ⟨rfl,rfl⟩)
  go_loopw [3] (fun v wr=>∃q:Nat,v=.int .i64 (nV (((ints s).drop p).take (q - p)))/\p<=q/\q<=s.size/\(∀c∈((ints s).drop p).take (q - p),bX c=true)∧
      ((ints s).drop p).takeWhile bX=((ints s).drop p).take (q - p)++((ints s).drop q).takeWhile bX/\eQ wr R s q e l/\aj (One R) w wr) (fun _ wr=>s.size - posOf R wr)
  case atStart=>exact⟨p,by rw[Nat.sub_self];rfl,Nat.le_refl _,hp,by rw[Nat.sub_self];simp,by rw[Nat.sub_self];simp,hr,aj.refl _ _⟩
  case round=>
   obtain⟨q,rfl,hpq,hq,eO,htw,xy,sG⟩:=hrel;clear hr;have hdb:=ND _ eO;have zcW:Hid (∀c∈((ints s).drop p).take (q - p),bX c=true):=eO;have HTW:Hid (((ints s).drop p).takeWhile bX=((ints s).drop p).take (q - p)++((ints s).drop q).takeWhile bX):=htw;obtain⟨n,hn⟩:∃n,nV (((ints s).drop p).take (q - p))=n:=⟨_,rfl⟩;rw[hn]at hdb ⊢;have HN:Hid (nV (((ints s).drop p).take (q - p))=n):=hn;have rJ:=jV s q;clear eO htw hn
   cases hd:bX (ag (ints s) q)with
   | true=>
    have bJ:q<s.size:=by
     have:=bq (Kv hd);rw[ax]at this;exact this
    have XE:48<=ag (ints s) q/\ag (ints s) q<=57:=by unfold bX at hd;simpa using hd
    obtain⟨g1,g2⟩:=O_ hpq hd HTW.out;have G1:Hid (((ints s).drop p).takeWhile bX=((ints s).drop p).take (q+1 - p)++((ints s).drop (q+1)).takeWhile bX):=g1;have G2:Hid (((ints s).drop p).take (q+1 - p)=((ints s).drop p).take (q - p)++ [ag (ints s) q]):=g2;have G3:Hid (∀c∈((ints s).drop p).take (q+1 - p),bX c=true):=by
     intro c hc;rw[G2.out]at hc
     rcases List.mem_append.1 hc with hc| hc
     ·exact zcW.out c hc
     ·rw[List.mem_singleton.1 hc];exact hd
    clear g1 g2;have c1:=xy.c1;have f1:=xy.fz 1;have HR:eQ (wr.setCell ⟨R,1,none⟩ (.int .i64 ((q:Int)+1))) R s (q+1) e l:=xy.at (q+1);have HK:aj (One R) w (wr.setCell ⟨R,1,none⟩ (.int .i64 ((q:Int)+1))):=sG.then (eQ.setAt wr R (q+1));have HP:=gG HR;have O4:=gG xy
    by_cases hm:n<=9007199254740991
    ·have G4:Hid (nV (((ints s).drop p).take (q+1 - p))=n*10+(ag (ints s) q - 48)):=by
       rw[G2.out];unfold nV;rw[List.foldl_append];have:=HN.out;unfold nV at this;rw[this]
       show(if n<=bK then n*10+(ag (ints s) q - 48)else n)=_
       rw[if_pos (by unfold bK;exact hm)]
     go_wp2_with(first
      | (go_at_call 138;refine(dL xy).mono ?_;rintro x w' ⟨rfl,rfl⟩)
      | (go_at_call 163;refine(dY _ _).mono ?_;rw[hd];rintro x w' ⟨rfl,rfl⟩))
     go_roundw
     case rel=>exact⟨q+1,by rw[G4.out],by omega,bJ,G3.out,G1.out,HR,HK⟩
     case measure=>rw[HP,O4];omega
    ·have G4:Hid (nV (((ints s).drop p).take (q+1 - p))=n):=by
       rw[G2.out];unfold nV;rw[List.foldl_append];have:=HN.out;unfold nV at this;rw[this]
       show(if n<=bK then n*10+(ag (ints s) q - 48)else n)=_
       rw[if_neg (by unfold bK;exact hm)]
     go_wp2_with(first
      | (go_at_call 138;refine(dL xy).mono ?_;rintro x w' ⟨rfl,rfl⟩)
      | (go_at_call 163;refine(dY _ _).mono ?_;rw[hd];rintro x w' ⟨rfl,rfl⟩))
     go_roundw
     case rel=>exact⟨q+1,by rw[G4.out],by omega,bJ,G3.out,G1.out,HR,HK⟩
     case measure=>rw[HP,O4];omega
   | false=>
    have HE:Hid (((ints s).drop p).takeWhile bX=((ints s).drop p).take (q - p)):=by
     rw[HTW.out,RO hd,List.append_nil];rfl
    go_wp2_with(first
     | (go_at_call 138;refine(dL xy).mono ?_;rintro x w' ⟨rfl,rfl⟩)
     | (go_at_call 163;refine(dY _ _).mono ?_;rw[hd];rintro x w' ⟨rfl,rfl⟩))
    go_ret;rw[HD.out];refine⟨mE ?_, ?_⟩
    ·rw[HE.out];exact HN.out.symm
    ·rw[HE.out];have cB:(((ints s).drop p).take (q - p)).length=q - p:=by
      rw[List.length_take,List.length_drop,ax];omega
     rw[cB,show p+(q - p)=q by omega];exact⟨⟨_,_,xy⟩,sG⟩
end Go.Proofs.YtegcgbjjpgjnmaaGreatDoor

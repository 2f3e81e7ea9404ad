/- A part. -/
import Derived.Test.YtldegjjaknelgaaGreatDoorAJ02
import Derived.Lib.ValidU
set_option maxRecDepth 100000
set_option maxHeartbeats 64000000
namespace Go.Proofs.YtldegjjaknelgaaGreatDoor.Id
open Go.RowKit
def qL(s:ByteArray):Bool:=decide (s.size=12)&&decide ((ints s).getD 0 0=36)&&decide ((mU (ints (s.extract 1 s.size))).1=0)
theorem yZ(s:ByteArray)(h:s.size≠12):qL s=false:=by unfold qL;simp[h]
theorem EH(s:ByteArray)(h:(ints s).getD 0 0≠36):qL s=false:=by
 unfold qL;have:decide ((ints s).getD 0 0=36)=false:=decide_eq_false h;rw[this];simp
theorem Ms(s:ByteArray)(h:(mU (ints (s.extract 1 s.size))).1≠0):qL s=false:=by
 unfold qL;rw[decide_eq_false h];simp
theorem EI(s:ByteArray)(h1:s.size=12)(h2:(ints s).getD 0 0=36)(h3:(mU (ints (s.extract 1 s.size))).1=0):qL s=true:=by
 unfold qL;rw[decide_eq_true h1,decide_eq_true h2,decide_eq_true h3];rfl
theorem NJ(t:ByteArray)(h:t.size=11):(dec (ints t)).length=8:=by
 have:=sw (ints t);rw[aM,h]at this;have e:((11:Nat):Int) / 4*3+rA (((11:Nat):Int) % 4)=8:=by decide
 omega
theorem BG(s:ByteArray)(w:World)(hs:s.size<=140737488351232):
    Calls Tryz.prog 133 #[.string s] w fun e w'=>e=.returned (.bool (qL s))/\Below w.heap.size w w':=by
 by_cases hp:∀h:0<s.size,s[0]≠36
 ·have HE:Hid (qL s=false):=by
    by_cases h0:s.size=0
    ·exact yZ s (by omega)
    ·refine EH s ?_;rw[dt s 0 (by omega)];intro h;exact hp (by omega) ((Qr s[0] 36).1 h)
  go_enter Tryz.func133,Tryz.ntmps133;go_wp2_with(go_at_call 147;refine(tY s 36 _ hs hp).mono ?_;rintro e w' ⟨rfl,rfl⟩);go_ret;exact⟨aj HE.out.symm,Below.refl _ _⟩
 ·obtain⟨h0,hc⟩:∃h:0<s.size,s[0]=36:=by simpa using hp
  clear hp;have HG:Hid ((ints s).getD 0 0=36):=by rw[dt s 0 h0,hc];rfl
  have hz:(s.extract 1 s.size).size=s.size - 1:=by simp
  obtain⟨t,ht⟩:∃t,t=s.extract 1 s.size:=⟨_,rfl⟩;have hcut:=fun wx:World=>iP s 36 wx hs h0 hc;rw[<-ht]at hz hcut;have HT:Hid (t=s.extract 1 s.size):=ht;clear ht
  by_cases kE:s.size=12
  ·have zlP:t.size=11:=by omega
   have zkD:(t.size:Int)=11:=by omega
   by_cases hf:(mU (ints t)).1=0
   ·have HE:Hid (qL s=true):=EI s kE HG.out (by rw[<-HT.out];exact hf);go_enter Tryz.func133,Tryz.ntmps133;go_wp2_with(first
     | (go_at_call 147;refine(hcut _).mono ?_;rintro e w' ⟨rfl,rfl⟩)
     | (go_at_call 156;refine(EF t _ (by omega) hf).mono ?_;rintro e w1 ⟨rfl,_,aL⟩))
    go_ret;exact⟨aj HE.out.symm,aL⟩
   ·have HE:Hid (qL s=false):=Ms s (by rw[<-HT.out];exact hf);have hfb:((mU (ints t)).1==0)=false:=by simp[hf]
    go_enter Tryz.func133,Tryz.ntmps133;go_wp2_with(first
     | (go_at_call 147;refine(hcut _).mono ?_;rintro e w' ⟨rfl,rfl⟩)
     | (go_at_call 156;refine(Im t _ (by omega) hf).mono ?_;rintro e w1 ⟨rfl,aL⟩))
    go_ret;exact⟨aj HE.out.symm,aL⟩
  ·have HE:Hid (qL s=false):=yZ s kE;have hn:¬(t.size:Int)=11:=by omega
   have CO:((t.size:Int) !=11)=true:=by simp[hn]
   go_enter Tryz.func133,Tryz.ntmps133;go_wp2_with(go_at_call 147;refine(hcut _).mono ?_;rintro e w' ⟨rfl,rfl⟩);go_ret;exact⟨aj HE.out.symm,Below.refl _ _⟩
theorem oH(s:ByteArray)(w:World):
    Calls Tryz.prog 41 #[.string s] w fun e w'=>e=.returned (.bool (qL s))/\Below w.heap.size w w':=by
 by_cases kE:s.size=12
 ·have zlQ:(s.size:Int)=12:=by omega
  have h0:0<s.size:=by omega
  have HG:Hid ((ints s).getD 0 0=(s[0].toNat:Int)):=dt s 0 h0
  by_cases hc:(s[0].toNat:Int)=36
  ·have hz:(s.extract 1 s.size).size=11:=by simp;omega
   have hsl:∀wx:World,(Instr.slice 9 (.string s) (some (.int .i64 1)) none none).run Tryz.prog wx=.ok (.string (s.extract 1 s.size)) wx:=
    fun wx=>run_slice_string_l wx 9 s Tryz.underlying9 .i64 1 (by omega) (by omega)
   obtain⟨t,ht⟩:∃t,t=s.extract 1 s.size:=⟨_,rfl⟩;rw[<-ht]at hz hsl;have HT:Hid (t=s.extract 1 s.size):=ht;clear ht;have hd:=NJ t hz
   by_cases hf:(mU (ints t)).1=0
   ·have HE:Hid (qL s=true):=EI s kE (by rw[HG.out];exact hc) (by rw[<-HT.out];exact hf);have x:=fun wx:World=>yY t wx (by omega) hf;rw[hd]at x;go_enter Tryz.func41,Tryz.ntmps41;go_wp2_with(go_at_call 73;refine(x _).mono ?_;rintro e w1 ⟨q,cq,rfl,_,aL⟩);go_ret;exact⟨aj HE.out.symm,aL⟩
   ·have HE:Hid (qL s=false):=Ms s (by rw[<-HT.out];exact hf);have hfb:((mU (ints t)).1==0)=false:=by simp[hf]
    have x:=fun wx:World=>AZ t wx (by omega) hf;go_enter Tryz.func41,Tryz.ntmps41;go_wp2_with(go_at_call 73;refine(x _).mono ?_;rintro e w1 ⟨rfl,aL⟩);go_ret;exact⟨aj HE.out.symm,aL⟩
  ·have HE:Hid (qL s=false):=EH s (by rw[HG.out];exact hc);have Eg:((s[0].toNat:Int) !=36)=true:=by simp[hc]
   go_enter Tryz.func41,Tryz.ntmps41;go_wp2;go_ret;exact⟨aj HE.out.symm,Below.refl _ _⟩
 ·have HE:Hid (qL s=false):=yZ s kE;have hn:¬(s.size:Int)=12:=by omega
  have CO:((s.size:Int) !=12)=true:=by simp[hn]
  go_enter Tryz.func41,Tryz.ntmps41;go_wp2;go_ret;exact⟨aj HE.out.symm,Below.refl _ _⟩
end Go.Proofs.YtldegjjaknelgaaGreatDoor.Id
namespace Go.Proofs.YtldegjjaknelgaaGreatDoor
open Go.RowKit
structure Ev where
 room:ByteArray
 aR:ByteArray
 ah:ByteArray
 st:Bool
 key:ByteArray
 content:J
 prev:List ByteArray
 aD:List ByteArray
 depth:Int
 ts:Int
 hash:ByteArray
 sigs:List (ByteArray×ByteArray)
structure Pt where
 pk:Option Addr
 ck:Nat
 pl:Option Addr
 cl:Nat
 pp:Option Addr
 cp:Nat
 pa:Option Addr
 ca:Nat
 ps:Option Addr
 cs:Nat
def Ev.zero:Ev:=⟨aT,aT,aT,false,aT,J.zero, [], [],0,0,aT, []⟩
def Pt.zero:Pt:=⟨none,0,none,0,none,0,none,0,none,0⟩
def AP(j:J)(p:Pt):List Value:= [.int .i64 j.kind,.int .i64 j.int,.string j.text,.slice p.pk j.keys.length p.ck,.slice p.pl j.list.length p.cl]
def aA(e:Ev)(p:Pt):List Value:= [.string e.room,.string e.aR,.string e.ah,.bool e.st,.string e.key,.int .i64 e.content.kind,.int .i64 e.content.int,.string e.content.text,.slice p.pk e.content.keys.length p.ck,.slice p.pl e.content.list.length p.cl,.slice p.pp e.prev.length p.cp,.slice p.pa e.aD.length p.ca,.int .i64 e.depth,.int .i64 e.ts,.string e.hash,.slice p.ps e.sigs.length p.cs]
def eF(e:Ev)(p:Pt):Value:=.agg (aA e p).toArray
def Hm(O:Nat->Prop)(w:World)(p:Option Addr)(c:Nat)(l:List (ByteArray×ByteArray)):Prop:=
 l.length<=c/\∀j,j<l.length->∃b o,p=some ⟨b,o,none⟩/\O b/\w.cell? ⟨b,o+j*2,none⟩=some (.string (l.getD j (aT,aT)).1)/\w.cell? ⟨b,o+j*2+1,none⟩=some (.string (l.getD j (aT,aT)).2)
theorem Hm.nil(O:Nat->Prop)(w:World)(c:Nat)(p:Option Addr):Hm O w p c []:=⟨Nat.zero_le _,fun j hj=>absurd hj (by simp)⟩
theorem Hm.carry{O O':Nat->Prop}{w w':World}{p:Option Addr}{c:Nat}{l:List (ByteArray×ByteArray)}(h:Hm O w p c l)(hO:∀k,O k->O' k/\w'.heap[k]?=w.heap[k]?):Hm O' w' p c l:=
 ⟨h.1,fun j hj=>by
  obtain⟨b,o,hp,hB,h1,h2⟩:=h.2 j hj;exact⟨b,o,hp,(hO _ hB).1,(World.cell?_of_block (a:=⟨b,o+j*2,none⟩) (hO _ hB).2).trans h1,(World.cell?_of_block (a:=⟨b,o+j*2+1,none⟩) (hO _ hB).2).trans h2⟩⟩
structure ji(O:Nat->Prop)(w:World)(e:Ev)(p:Pt):Prop where
 cont:isJ O w e.content (AP e.content p)
 prev:jP O w p.pp p.cp e.prev
 aD:jP O w p.pa p.ca e.aD
 sigs:Hm O w p.ps p.cs e.sigs
theorem ji.carry{O O':Nat->Prop}{w w':World}{e:Ev}{p:Pt}(h:ji O w e p)(hO:∀k,O k->O' k/\w'.heap[k]?=w.heap[k]?):ji O' w' e p:=
 ⟨h.cont.carry hO,h.prev.carry hO,h.aD.carry hO,h.sigs.carry hO⟩
theorem ji.below{O:Nat->Prop}{w w':World}{e:Ev}{p:Pt}(h:ji O w e p)(hO:∀k,O k->k<w.heap.size)(hb:Below w.heap.size w w'):ji O w' e p:=h.carry fun k hk=>⟨hk,hb.block k (hO k hk)⟩
theorem EJ(O:Nat->Prop)(w:World):ji O w Ev.zero Pt.zero:=⟨yL _ _,jP.nil _ _,jP.nil _ _,Hm.nil _ _ _ _⟩
def NK(s:ByteArray):ByteArray:=⟨#[36]⟩++s
def eH(e:Ev):Bool:=(Id.parts 33 e.room).2.2&&(Id.parts 64 e.ah).2.2&&Id.aR e.aR
def gv(e:Ev):Bool:=if e.st=true then decide (e.key.size<=128)&&Lib.validD e.key.data.toList else decide (e.key.size=0)
def eu(c:J):Bool:=decide (c.kind=5)&&goodJ 12 (.mk 4 0 aT [] [c])
def bI(most:Nat)(l:List ByteArray):Bool:=decide (l.length<=most)&&noKeyTwice l&&l.all Id.qL
def dE(n most:Int):Bool:=decide (0<=n)&&decide (n<=most)
def gL(s:ByteArray):Bool:=Id.qL (NK s)
def riseS:List (ByteArray×ByteArray)->Bool
 | a::b::r=>jB a.1 b.1&&riseS (b::r)
 | _=>true
def bR(l:List (ByteArray×ByteArray)):Bool:=decide (l.length<=4)&&l.all (fun s=>Id.CG s.1&&gL s.2)&&riseS l
def aS(e:Ev):Bool:=eH e&&gv e&&eu e.content&&bI 20 e.prev&&bI 10 e.aD&&dE e.depth 1099511627776&&dE e.ts dN&&(decide (e.hash.size=0) || gL e.hash)&&bR e.sigs
def eX(s:ByteArray):J:=.mk 3 0 s [] []
def EK(n:Int):J:=.mk 2 n aT [] []
def sF(l:List ByteArray):J:=.mk 4 0 aT [] (l.map eX)
def qM(l:List (ByteArray×ByteArray)):J:=.mk 5 0 aT (l.map (·.1)) (l.map fun s=>eX s.2)
def ui:ByteArray:=⟨#[97,117,116,104]⟩
def eY:ByteArray:=⟨#[99,111,110,116,101,110,116]⟩
def oI:ByteArray:=⟨#[100,101,112,116,104]⟩
def uj:ByteArray:=⟨#[104,97,115,104]⟩
def Qz:ByteArray:=⟨#[107,101,121]⟩
def um:ByteArray:=⟨#[112,114,101,118]⟩
def uo:ByteArray:=⟨#[114,111,111,109]⟩
def lq:ByteArray:=⟨#[115,101,110,100,101,114]⟩
def uq:ByteArray:=⟨#[115,105,103,115]⟩
def UL:ByteArray:=⟨#[116,115]⟩
def uu:ByteArray:=⟨#[116,121,112,101]⟩
def kR(e:Ev):List (ByteArray×J):= [(ui,sF e.aD),(eY,e.content),(oI,EK e.depth),(uj,eX e.hash)]++(if e.st=true then [(Qz,eX e.key)]else [])++ [(um,sF e.prev),(uo,eX e.room),(lq,eX e.ah),(uq,qM e.sigs),(UL,EK e.ts),(uu,eX e.aR)]
def nE(e:Ev):J:=.mk 5 0 aT ((kR e).map (·.1)) ((kR e).map (·.2))
theorem Tryz.Ml:(Tryz.prog.info? 5).map (fun i=>(i.zero,i.size,i.bytes))=some (some (.int .u8 0),1,1):=by kernel_rfl
theorem aO{w:World}{B e size n:Nat}{v:Value}{xs:List Value}(h:w.ownsRow B e size v n xs):∀k,v.ownBlock=some k->B<=k/\k<w.heap.size:=by
 intro k hk
 rcases h.2 with⟨rfl,_⟩| ⟨g,cap,cur,rfl,hg,yK,_⟩
 ·cases hk
 ·cases hk;exact⟨hg,(Array.getElem?_eq_some_iff.1 yK).1⟩
theorem ay.grown{S:Nat->Prop}{a b c:World}{row:Option Nat}(h:ay S a b)(hg:b.grownBy c row)(hr:∀k,row=some k->a.heap.size<=k):ay S a c:=
 h.trans (S':=fun k=>row=some k) (ay.gQ hg fun _ _ e=>e) fun i hi e=>absurd (hr i e) (by omega)
end Go.Proofs.YtldegjjaknelgaaGreatDoor

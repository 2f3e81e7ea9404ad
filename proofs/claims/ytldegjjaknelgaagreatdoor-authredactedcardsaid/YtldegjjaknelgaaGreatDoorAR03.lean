/- A part. -/
import Derived.Test.YtldegjjaknelgaaGreatDoorAR02
import Derived.Lib.ValidU
set_option maxRecDepth 100000
set_option maxHeartbeats 64000000
namespace Go.Proofs.YtldegjjaknelgaaGreatDoor
open Go.RowKit
structure Ev where
 room:ByteArray
 aK:ByteArray
 ag:ByteArray
 st:Bool
 key:ByteArray
 content:J
 prev:List ByteArray
 aA:List ByteArray
 depth:Int
 ts:Int
 hash:ByteArray
 sigs:List (ByteArray×ByteArray)
structure Pt where
 pk:Option Addr
 ck:Nat
 pl:Option Addr
 cl:Nat
 pp:Option Addr
 cp:Nat
 pa:Option Addr
 ca:Nat
 ps:Option Addr
 cs:Nat
def Ev.zero:Ev:=⟨aN,aN,aN,false,aN,J.zero, [], [],0,0,aN, []⟩
def Pt.zero:Pt:=⟨none,0,none,0,none,0,none,0,none,0⟩
def zm(j:J)(p:Pt):List Value:= [.int .i64 j.kind,.int .i64 j.int,.string j.text,.slice p.pk j.keys.length p.ck,.slice p.pl j.list.length p.cl]
def aB(e:Ev)(p:Pt):List Value:= [.string e.room,.string e.aK,.string e.ag,.bool e.st,.string e.key,.int .i64 e.content.kind,.int .i64 e.content.int,.string e.content.text,.slice p.pk e.content.keys.length p.ck,.slice p.pl e.content.list.length p.cl,.slice p.pp e.prev.length p.cp,.slice p.pa e.aA.length p.ca,.int .i64 e.depth,.int .i64 e.ts,.string e.hash,.slice p.ps e.sigs.length p.cs]
def dZ(e:Ev)(p:Pt):Value:=.agg (aB e p).toArray
def Dv(O:Nat->Prop)(w:World)(p:Option Addr)(c:Nat)(l:List (ByteArray×ByteArray)):Prop:=
 l.length<=c/\∀j,j<l.length->∃b o,p=some ⟨b,o,none⟩/\O b/\w.cell? ⟨b,o+j*2,none⟩=some (.string (l.getD j (aN,aN)).1)/\w.cell? ⟨b,o+j*2+1,none⟩=some (.string (l.getD j (aN,aN)).2)
theorem Dv.nil(O:Nat->Prop)(w:World)(c:Nat)(p:Option Addr):Dv O w p c []:=⟨Nat.zero_le _,fun j hj=>absurd hj (by simp)⟩
theorem Dv.carry{O O':Nat->Prop}{w w':World}{p:Option Addr}{c:Nat}{l:List (ByteArray×ByteArray)}(h:Dv O w p c l)(hO:∀k,O k->O' k/\w'.heap[k]?=w.heap[k]?):Dv O' w' p c l:=
 ⟨h.1,fun j hj=>by
  obtain⟨b,o,hp,hB,h1,h2⟩:=h.2 j hj;exact⟨b,o,hp,(hO _ hB).1,(World.cell?_of_block (a:=⟨b,o+j*2,none⟩) (hO _ hB).2).trans h1,(World.cell?_of_block (a:=⟨b,o+j*2+1,none⟩) (hO _ hB).2).trans h2⟩⟩
structure iL(O:Nat->Prop)(w:World)(e:Ev)(p:Pt):Prop where
 cont:isJ O w e.content (zm e.content p)
 prev:ig O w p.pp p.cp e.prev
 aA:ig O w p.pa p.ca e.aA
 sigs:Dv O w p.ps p.cs e.sigs
theorem iL.carry{O O':Nat->Prop}{w w':World}{e:Ev}{p:Pt}(h:iL O w e p)(hO:∀k,O k->O' k/\w'.heap[k]?=w.heap[k]?):iL O' w' e p:=
 ⟨h.cont.carry hO,h.prev.carry hO,h.aA.carry hO,h.sigs.carry hO⟩
theorem iL.below{O:Nat->Prop}{w w':World}{e:Ev}{p:Pt}(h:iL O w e p)(hO:∀k,O k->k<w.heap.size)(hb:Below w.heap.size w w'):iL O w' e p:=h.carry fun k hk=>⟨hk,hb.block k (hO k hk)⟩
theorem Ox(O:Nat->Prop)(w:World):iL O w Ev.zero Pt.zero:=⟨xq _ _,ig.nil _ _,ig.nil _ _,Dv.nil _ _ _ _⟩
def Lu(s:ByteArray):ByteArray:=⟨#[36]⟩++s
def dU(e:Ev):Bool:=(Id.parts 33 e.room).2.2&&(Id.parts 64 e.ag).2.2&&Id.aK e.aK
def fH(e:Ev):Bool:=if e.st=true then decide (e.key.size<=128)&&Lib.validD e.key.data.toList else decide (e.key.size=0)
def dz(c:J):Bool:=decide (c.kind=5)&&goodJ 12 (.mk 4 0 aN [] [c])
def bu(most:Nat)(l:List ByteArray):Bool:=decide (l.length<=most)&&noKeyTwice l&&l.all Id.pK
def di(n most:Int):Bool:=decide (0<=n)&&decide (n<=most)
def fU(s:ByteArray):Bool:=Id.pK (Lu s)
def riseS:List (ByteArray×ByteArray)->Bool
 | a::b::r=>iN a.1 b.1&&riseS (b::r)
 | _=>true
def bJ(l:List (ByteArray×ByteArray)):Bool:=decide (l.length<=4)&&l.all (fun s=>Id.Bp s.1&&fU s.2)&&riseS l
def aG(e:Ev):Bool:=dU e&&fH e&&dz e.content&&bu 20 e.prev&&bu 10 e.aA&&di e.depth 1099511627776&&di e.ts dC&&(decide (e.hash.size=0) || fU e.hash)&&bJ e.sigs
def d_(s:ByteArray):J:=.mk 3 0 s [] []
def Dw(n:Int):J:=.mk 2 n aN [] []
def qP(l:List ByteArray):J:=.mk 4 0 aN [] (l.map d_)
def pM(l:List (ByteArray×ByteArray)):J:=.mk 5 0 aN (l.map (·.1)) (l.map fun s=>d_ s.2)
def sG:ByteArray:=⟨#[97,117,116,104]⟩
def ed:ByteArray:=⟨#[99,111,110,116,101,110,116]⟩
def nK:ByteArray:=⟨#[100,101,112,116,104]⟩
def sH:ByteArray:=⟨#[104,97,115,104]⟩
def Oy:ByteArray:=⟨#[107,101,121]⟩
def sI:ByteArray:=⟨#[112,114,101,118]⟩
def sJ:ByteArray:=⟨#[114,111,111,109]⟩
def j_:ByteArray:=⟨#[115,101,110,100,101,114]⟩
def sK:ByteArray:=⟨#[115,105,103,115]⟩
def RS:ByteArray:=⟨#[116,115]⟩
def sM:ByteArray:=⟨#[116,121,112,101]⟩
def jR(e:Ev):List (ByteArray×J):= [(sG,qP e.aA),(ed,e.content),(nK,Dw e.depth),(sH,d_ e.hash)]++(if e.st=true then [(Oy,d_ e.key)]else [])++ [(sI,qP e.prev),(sJ,d_ e.room),(j_,d_ e.ag),(sK,pM e.sigs),(RS,Dw e.ts),(sM,d_ e.aK)]
def mo(e:Ev):J:=.mk 5 0 aN ((jR e).map (·.1)) ((jR e).map (·.2))
theorem Tryz.J6:(Tryz.prog.info? 5).map (fun i=>(i.zero,i.size,i.bytes))=some (some (.int .u8 0),1,1):=by kernel_rfl
theorem aJ{w:World}{B e size n:Nat}{v:Value}{xs:List Value}(h:w.ownsRow B e size v n xs):∀k,v.ownBlock=some k->B<=k/\k<w.heap.size:=by
 intro k hk
 rcases h.2 with⟨rfl,_⟩| ⟨g,cap,cur,rfl,hg,xm,_⟩
 ·cases hk
 ·cases hk;exact⟨hg,(Array.getElem?_eq_some_iff.1 xm).1⟩
theorem av.grown{S:Nat->Prop}{a b c:World}{row:Option Nat}(h:av S a b)(hg:b.grownBy c row)(hr:∀k,row=some k->a.heap.size<=k):av S a c:=
 h.trans (S':=fun k=>row=some k) (av.gp hg fun _ _ e=>e) fun i hi e=>absurd (hr i e) (by omega)
end Go.Proofs.YtldegjjaknelgaaGreatDoor

/- A part. -/
import Derived.Test.YtldegjjaknelgaaGreatDoorAR05
import Derived.Lib.AppendStr
import Derived.Stop.FmtQuoteTie
import Derived.Lib.OthersKept
import Derived.Lib.AppendIntMem
import Derived.Lib.ItoaLen
set_option maxRecDepth 100000
set_option maxHeartbeats 64000000
namespace Go.Proofs.YtldegjjaknelgaaGreatDoor
open Go.RowKit
def OL(s:ByteArray)(i:Nat):Bool:=decide (ax (ints s) i=239/\ax (ints s) (i+1)=191/\ax (ints s) (i+2)=189)
theorem GH{l:List UInt8}{n:Nat}(h:n+3<=l.length):(l.drop n).take 3= [l[n],l[n+1],l[n+2]]:=by
 rw[List.drop_eq_getElem_cons (by omega),List.drop_eq_getElem_cons (i:=n+1) (by omega),List.drop_eq_getElem_cons (i:=n+2) (by omega)]
 rfl
theorem BB(a:UInt8)(n:Nat)(hn:n<256):((a.toNat:Int)=(n:Int))↔a=UInt8.ofNat n:=by
 constructor
 ·intro h
  apply UInt8.toNat_inj.1
  have:a.toNat=n:=by omega
  rw[this];simp;omega
 ·intro h;subst h;simp;omega
theorem VL(s:ByteArray)(i:Nat):decide ((s.data.toList.drop i).take 3= [239,191,189])=OL s i:=by
 unfold OL;rw[decide_eq_decide];have hl:s.data.toList.length=s.size:=by simp
 by_cases h:i+3<=s.size
 ·rw[GH (by omega),Bz s i (by omega),Bz s (i+1) (by omega),Bz s (i+2) (by omega)];have e1:=BB s[i] 239 (by omega);have e2:=BB s[i+1] 191 (by omega);have e3:=BB s[i+2] 189 (by omega);have g:∀k (hk:k<s.size),s.data.toList[k]'(by omega)=s[k]:=fun k hk=>by simp[ByteArray.getElem_eq_getElem_data]
  rw[g i (by omega),g (i+1) (by omega),g (i+2) (by omega)];simp only[List.cons.injEq,and_true];exact and_congr e1.symm (and_congr e2.symm e3.symm)
 ·constructor
  ·intro h';have:=congrArg List.length h';simp at this;omega
  ·intro h';have:=kE s (i+2) (by omega);omega
theorem OM(s:ByteArray)(i:Nat):(((s.extract i s.size).extract 0 3).toList== [239,191,189])=OL s i:=by
 rw[<-VL,Lib.toList_data,ByteArray.data_extract,Array.toList_extract,ByteArray.data_extract,Array.toList_extract];simp only[List.extract_eq_take_drop,List.drop_zero,Nat.sub_zero];have:(s.data.toList.drop i).take (s.size - i)=s.data.toList.drop i:=List.take_of_length_le (by simp);rw[this,Bool.eq_iff_iff];simp only[beq_iff_eq,decide_eq_true_eq]
theorem OO(s:ByteArray)(i:Nat)(w:World)(hi:i<=s.size)(hs:s.size<=1000000000):
    Calls Tryz.prog 92 #[.string (s.extract i s.size),.string ⟨#[239,191,189]⟩] w fun e w'=>e=.returned (.bool (OL s i))/\w=w':=by
 have h1:=OM s i;have hu:(s.extract i s.size).size=s.size - i:=by simp
 by_cases h:i+3<=s.size
 ·obtain⟨u,hu'⟩:∃u,s.extract i s.size=u:=⟨_,rfl⟩;rw[hu']at h1 hu ⊢;have hu1:3<=u.size:=by omega
  have hu2:u.size<=1000000000:=by omega
  clear hu hu'
  cases hb:OL s i
  all_goals
   rw[hb]at h1;go_enter Tryz.func92,Tryz.ntmps92;go_wp2;go_ret;exact⟨rfl,rfl⟩
 ·have hF:OL s i=false:=by
    unfold OL
    apply decide_eq_false
    intro h';have:=kE s (i+2) (by omega);omega
  rw[hF];obtain⟨u,hu'⟩:∃u,s.extract i s.size=u:=⟨_,rfl⟩;rw[hu']at h1 hu ⊢;have hu1:u.size<3:=by omega
  clear hu hu' h1;go_enter Tryz.func92,Tryz.ntmps92;go_wp2;go_ret;exact⟨rfl,rfl⟩
theorem xP(s:ByteArray)(i:Nat)(w:World)(hi:i<=s.size)(hs:s.size<=1000000000):
    Calls Tryz.prog 58 #[.string (s.extract i s.size),.string ⟨#[239,191,189]⟩] w fun e w'=>e=.returned (.bool (OL s i))/\w=w':=by
 go_enter Tryz.func58,Tryz.ntmps58;go_wp2_with(go_at_call 92;refine(OO s i _ hi hs).mono ?_;rintro x w' ⟨rfl,rfl⟩);go_ret;exact⟨rfl,rfl⟩
def LP(r:Option Nat)(x:Ending):Prop:=match r with
 | none=>x=.returned (.tuple #[.int .i64 0,.bool false])
 | some p=>x=.returned (.tuple #[.int .i64 p,.bool true])
theorem LQ(s:ByteArray)(w:World)(hs:s.size<=1000000000):
    Calls Tryz.prog 176 #[.string s] w fun x w'=>LP (gY (ints s)) x/\∃pos,w'=w.iter s pos:=by
 go_enter Tryz.func176,Tryz.ntmps176;go_wp2
 go_loopw [4] (fun _ wr=>∃(pos m:Nat),wr=w.iter s pos/\strayL (ints s) m pos=gY (ints s)/\s.size<=pos+m) (fun _ wr=>s.size - wr.iterPos w.heap.size)
 case atStart=>exact⟨0,s.size,rfl,by unfold gY;rw[aH],by omega⟩
 case round=>
  obtain⟨pos,m,rfl,hc,hb⟩:=hrel;have HC:Hid (strayL (ints s) m pos=gY (ints s)):=hc;clear hc
  by_cases hp:pos<s.size
  ·have CW:∀ty,(Instr.next (.pointer (some ⟨w.heap.size,0,none⟩)) true ty).run Tryz.prog (w.iter s pos)=_:=fun ty=>run_next_any w s pos ty hp;have oG:=oL s pos;obtain⟨m,rfl⟩:∃m',m=m'+1:=⟨m - 1,by omega⟩;unfold strayL at HC;rw[aH,if_pos hp]at HC
   by_cases h0:(bD (ints s) pos).2=0
   ·rw[if_pos h0]at HC oG;have hF:OL s pos=false:=by
     unfold OL
     apply decide_eq_false
     rintro⟨a,b,c⟩;rw[z_ _ _ a b c]at h0
     cases h0
    have pf:=fun w'=>xP s pos w' (by omega) hs;rw[hF]at pf;rw[oG]at CW;go_wp2_with(go_at_call 58;refine(pf _).mono ?_;rintro x w' ⟨rfl,rfl⟩);go_ret2;rw[<-HC.out];exact⟨rfl,_,rfl⟩
   ·rw[if_neg h0]at HC oG;have GI:=xt (ints s) pos
    by_cases hr:(bD (ints s) pos).1=65533
    ·have hF:OL s pos=true:=decide_eq_true (J2 (ints s) pos (nA s) h0 hr);have pf:=fun w'=>xP s pos w' (by omega) hs;rw[hF]at pf;rw[hr]at oG;rw[oG]at CW;obtain⟨wd,Ux⟩:∃wd,(bD (ints s) pos).2=wd:=⟨_,rfl⟩;rw[Ux]at CW HC h0 GI;clear oG Ux;go_wp2_with(go_at_call 58;refine(pf _).mono ?_;rintro x w' ⟨rfl,rfl⟩);go_roundw
     case rel=>exact⟨pos+wd,m,rfl,HC.out,by omega⟩
     case measure=>simp;omega
    ·obtain⟨c,hcn⟩:∃c,(bD (ints s) pos).1.toNat=c:=⟨_,rfl⟩;have wL:(c:Int)≠65533:=by omega
     rw[hcn]at oG;rw[oG]at CW;obtain⟨wd,Ux⟩:∃wd,(bD (ints s) pos).2=wd:=⟨_,rfl⟩;rw[Ux]at CW HC h0 GI;clear oG Ux hcn;go_wp2;go_roundw
     case rel=>exact⟨pos+wd,m,rfl,HC.out,by omega⟩
     case measure=>simp;omega
  ·have CW:∀ty,(Instr.next (.pointer (some ⟨w.heap.size,0,none⟩)) true ty).run Tryz.prog (w.iter s pos)=_:=fun ty=>run_next_end w s pos ty hp;go_wp2;go_ret2;have hn:strayL (ints s) m pos=none:=by
    cases m with
    | zero=>rfl
    | succ m=>unfold strayL;rw[aH,if_neg hp]
   rw[<-HC.out,hn];exact⟨rfl,_,rfl⟩
structure NB(B K:Nat)(w w':World):Prop where
 os:w'.os=w.os
 tape:w'.tape=w.tape
 output:w'.output=w.output
 size:w.heap.size<=w'.heap.size
 block:∀k,k<w.heap.size->k≠K->(k<B\/ ∀cur fr,w.heap[k]?≠some (.cells cur 5 fr))->w'.heap[k]?=w.heap[k]?
theorem NB.refl(B K:Nat)(w:World):NB B K w w:=⟨rfl,rfl,rfl,Nat.le_refl _,fun _ _ _ _=>rfl⟩
theorem NB.trans{B K:Nat}{a b c:World}(h:NB B K a b)(g:NB B K b c):NB B K a c:=
 ⟨g.os.trans h.os,g.tape.trans h.tape,g.output.trans h.output,Nat.le_trans h.size g.size,fun k hk hn hs=>by
  have e:=h.block k hk hn hs;exact(g.block k (Nat.lt_of_lt_of_le hk h.size) hn (hs.imp id fun h' cur fr=>by rw[e];exact h' cur fr)).trans e⟩
theorem NB.alloc{B K:Nat}{a b:World}(h:NB B K a b)(o:Obj):NB B K a (b.alloc o):=
 h.trans ⟨rfl,rfl,rfl,by simp,fun k hk _ _=>Below.heap_alloc _ _ _ hk⟩
theorem NB.fA{B K:Nat}{a b:World}(h:av (One K) a b):NB B K a b:=⟨h.os,h.tape,h.output,h.size,fun k hk hn _=>h.block k hk hn⟩
theorem NB.below{B K:Nat}{a b:World}(h:NB B K a b)(hK:K<=B)(hB:K<=a.heap.size):Below K a b:=⟨h.os,h.tape,h.output,h.size,fun k hk=>h.block k (by omega) (by omega) (.inl (by omega))⟩
structure zi(w:World)(B K:Nat)(out:List Int):Prop where
 row:∃v,w.heap[K]?=some (.cells #[v] 127 (0,0))/\w.ownsRow B 5 1 v out.length (out.map (Value.int .u8))
 lt:K<B
 size:B<=w.heap.size
theorem Aj{w:World}{B n:Nat}{v:Value}{xs:List Value}(h:w.ownsRow B 5 1 v n xs):∀k,v.ownBlock=some k->B<=k/\∃cur fr,w.heap[k]?=some (.cells cur 5 fr):=by
 intro k hk
 rcases h.2 with⟨rfl,_⟩| ⟨g,cap,cur,rfl,hg,xm,_⟩
 ·cases hk
 ·cases hk;exact⟨hg,cur,_,xm⟩
theorem zi.alloc{w:World}{B K:Nat}{out:List Int}(h:zi w B K out)(o:Obj):zi (w.alloc o) B K out:=by
 obtain⟨v,h1,h2⟩:=h.row;have:=h.lt;have:=h.size;exact⟨⟨v,by rw[Below.heap_alloc _ _ _ (by omega)];exact h1,h2.alloc o⟩,h.lt,by simp;omega⟩
theorem BC{w:World}{K:Nat}{v:Value}{t:TypeId}(h:w.heap[K]?=some (.cells #[v] t (0,0))):w.cell? ⟨K,0,none⟩=some v:=a_ (cur:= [_]) h 0 _ rfl
def fE(w w':World)(B K:Nat)(out s:List Int)(x:Ending):Prop:=x=.returned (.tuple #[])/\(∃qU,C_ out s qU/\qU.length<=20000/\zi w' B K qU)/\NB B K w w'
theorem xQ{w:World}{B K:Nat}{out:List Int}(h:zi w B K out):
    Calls Tryz.prog 113 #[.pointer (some ⟨K,0,none⟩)] w fun x w'=>x=.returned (.bool (decide (16384<out.length)))/\w=w':=by
 obtain⟨v,h1,h2⟩:=h.row;obtain⟨q,c,rfl,_⟩:∃q c,v=.slice q out.length c/\True:=by
  rcases h2.2 with⟨rfl,hn⟩| ⟨g,cap,cur,rfl,_⟩
  ·exact⟨none,0,by rw[hn],trivial⟩
  ·exact⟨_,_,rfl,trivial⟩
 have c0:=BC h1;obtain⟨n,hn⟩:∃n,out.length=n:=⟨_,rfl⟩;rw[hn]at c0 ⊢;go_enter Tryz.func113,Tryz.ntmps113;go_wp2;go_ret;refine⟨ai ?_,rfl⟩;rw[decide_eq_decide];omega
theorem zA(s:ByteArray):Lib.strCells s=(ints s).map (Value.int .u8):=by
 unfold Lib.strCells ints;simp
theorem gU{w:World}{B K:Nat}{out:List Int}(h:zi w B K out)(ho:out.length<=20000)(s:ByteArray)(hs:s.size<=100):
    Calls Tryz.prog 136 #[.pointer (some ⟨K,0,none⟩),.string s] w fun x w'=>fE w w' B K out (ints s) x:=by
 have hl:=xQ h;have hP:=C_.one out (ints s)
 by_cases mF:16384<out.length
 ·rw[decide_eq_true mF]at hl;rw[if_pos mF]at hP;go_enter Tryz.func136,Tryz.ntmps136;go_wp2_with(go_at_call 113;refine hl.mono ?_;rintro x w' ⟨rfl,rfl⟩)
  go_end0
  exact⟨rfl,⟨out,hP,ho,h⟩,NB.refl _ _ _⟩
 ·rw[decide_eq_false mF]at hl;rw[if_neg mF]at hP;obtain⟨v,h1,h2⟩:=h.row;have c0:=BC h1;have hB:=h.size;have bH:=h.lt;obtain⟨i0,hi,oN,oI,rV⟩:=info_parts Tryz.J6;go_enter Tryz.func136,Tryz.ntmps136;go_wp2_with(first
   | (go_at_call 113;refine hl.mono ?_;rintro x w' ⟨rfl,rfl⟩)
   | (at_builtin;refine Lib.wpList_append_own_string _ rfl _ _ 80 9 rfl B 5 i0 Tryz.underlying80 Tryz.underlying9 hi oN oI rV _ _ _ rfl h2 s rfl ?c3 ?c4 ?c5 ?_
      case c3=>unfold maxLen;omega
      case c4=>omega
      case c5=>exact hB
      intro v' w2 aL hg _;have oq:=Aj h2;have VM:w2.heap[K]?=some (.cells #[v] 127 (0,0)):=by
       rw[hg.block K (by omega) (fun e=>by have:=(oq K e.symm).1;omega)];exact h1
      have d0:=BC VM;have z0:w2.frozen? ⟨K,0,none⟩=false:=frozen_of_row w2 K 0 _ _ VM;obtain⟨q5,n5,c5,Uy⟩:=pU aL;subst Uy))
  go_end0
  have K3:av (One K) w2 (w2.setCell ⟨K,0,none⟩ (.slice q5 n5 c5)):=av.setCell (av.refl _ _) (fun _=>(rfl:K=K)) _;refine⟨rfl,⟨out++ints s,hP,by rw[List.length_append,aH];omega,⟨⟨_,by rw[heap_setCell_same _ K 0 _ _ _ VM];rfl, ?_⟩,bH, ?_⟩⟩, ?_⟩
  ·rw[List.length_append,aH,List.map_append,<-zA];exact aX aL K3 fun k e=>by have:=(Aj aL k e).1;unfold One;omega
  ·have:=hg.size;simp;omega
  ·refine NB.trans (b:=w2) ⟨hg.os,hg.tape,hg.output,hg.size,fun k hk hn hs'=>hg.block k hk fun e=> ?_⟩ (NB.fA K3);obtain⟨e1,cur,fr,e2⟩:=oq k e.symm
   rcases hs' with h'| h'
   ·omega
   ·exact h' cur fr e2
theorem Ak{w:World}{B K:Nat}{out:List Int}(hw:zi w B K out)(ho:out.length<=20000)(i:Nat)(hi:i<=1000000):
    Calls Tryz.prog 164 #[.pointer (some ⟨K,0,none⟩),.int .i64 i] w fun x w'=>fE w w' B K out (if i=0 then []else [44]) x:=by
 by_cases h0:i=0
 ·subst h0;go_enter Tryz.func164,Tryz.ntmps164;go_wp2
  go_end0
  exact⟨rfl,⟨out,C_.nil _,ho,hw⟩,NB.refl _ _ _⟩
 ·have hp:0<i:=by omega
  have BD:=gU hw ho ⟨#[44]⟩ (by decide);rw[if_neg h0];go_enter Tryz.func164,Tryz.ntmps164;go_wp2_with(go_at_call 136;refine BD.mono ?_;rintro x w2 ⟨rfl,lQ⟩)
  go_end0
  exact⟨rfl,lQ⟩
def escRune(l:Int):List Int:=if l<128 then aV l else Lib.encodeRuneZ l
theorem LU(w:World):Calls Tryz.prog 163 #[.int .i32 0] w fun x w'=>x=.returned (.string (strOfNums (aV 0)))/\av (fun _=>False) w w':=by
 have hb:bits .and .i32 0 15=0:=by kernel_rfl
 go_enter Tryz.func163,Tryz.ntmps163;go_wp2;go_quiet (fail);go_wp2;go_ret;exact⟨by kernel_rfl,(av.refl _ _).drewN _⟩
theorem LV(w:World):Calls Tryz.prog 163 #[.int .i32 1] w fun x w'=>x=.returned (.string (strOfNums (aV 1)))/\av (fun _=>False) w w':=by
 have hb:bits .and .i32 1 15=1:=by kernel_rfl
 go_enter Tryz.func163,Tryz.ntmps163;go_wp2;go_quiet (fail);go_wp2;go_ret;exact⟨by kernel_rfl,(av.refl _ _).drewN _⟩
theorem LW(w:World):Calls Tryz.prog 163 #[.int .i32 2] w fun x w'=>x=.returned (.string (strOfNums (aV 2)))/\av (fun _=>False) w w':=by
 have hb:bits .and .i32 2 15=2:=by kernel_rfl
 go_enter Tryz.func163,Tryz.ntmps163;go_wp2;go_quiet (fail);go_wp2;go_ret;exact⟨by kernel_rfl,(av.refl _ _).drewN _⟩
theorem LX(w:World):Calls Tryz.prog 163 #[.int .i32 3] w fun x w'=>x=.returned (.string (strOfNums (aV 3)))/\av (fun _=>False) w w':=by
 have hb:bits .and .i32 3 15=3:=by kernel_rfl
 go_enter Tryz.func163,Tryz.ntmps163;go_wp2;go_quiet (fail);go_wp2;go_ret;exact⟨by kernel_rfl,(av.refl _ _).drewN _⟩
theorem LY(w:World):Calls Tryz.prog 163 #[.int .i32 4] w fun x w'=>x=.returned (.string (strOfNums (aV 4)))/\av (fun _=>False) w w':=by
 have hb:bits .and .i32 4 15=4:=by kernel_rfl
 go_enter Tryz.func163,Tryz.ntmps163;go_wp2;go_quiet (fail);go_wp2;go_ret;exact⟨by kernel_rfl,(av.refl _ _).drewN _⟩
theorem LZ(w:World):Calls Tryz.prog 163 #[.int .i32 5] w fun x w'=>x=.returned (.string (strOfNums (aV 5)))/\av (fun _=>False) w w':=by
 have hb:bits .and .i32 5 15=5:=by kernel_rfl
 go_enter Tryz.func163,Tryz.ntmps163;go_wp2;go_quiet (fail);go_wp2;go_ret;exact⟨by kernel_rfl,(av.refl _ _).drewN _⟩
theorem L6(w:World):Calls Tryz.prog 163 #[.int .i32 6] w fun x w'=>x=.returned (.string (strOfNums (aV 6)))/\av (fun _=>False) w w':=by
 have hb:bits .and .i32 6 15=6:=by kernel_rfl
 go_enter Tryz.func163,Tryz.ntmps163;go_wp2;go_quiet (fail);go_wp2;go_ret;exact⟨by kernel_rfl,(av.refl _ _).drewN _⟩
theorem L8(w:World):Calls Tryz.prog 163 #[.int .i32 7] w fun x w'=>x=.returned (.string (strOfNums (aV 7)))/\av (fun _=>False) w w':=by
 have hb:bits .and .i32 7 15=7:=by kernel_rfl
 go_enter Tryz.func163,Tryz.ntmps163;go_wp2;go_quiet (fail);go_wp2;go_ret;exact⟨by kernel_rfl,(av.refl _ _).drewN _⟩
theorem GJ(w:World):Calls Tryz.prog 163 #[.int .i32 11] w fun x w'=>x=.returned (.string (strOfNums (aV 11)))/\av (fun _=>False) w w':=by
 have hb:bits .and .i32 11 15=11:=by kernel_rfl
 go_enter Tryz.func163,Tryz.ntmps163;go_wp2;go_quiet (fail);go_wp2;go_ret;exact⟨by kernel_rfl,(av.refl _ _).drewN _⟩
theorem GK(w:World):Calls Tryz.prog 163 #[.int .i32 14] w fun x w'=>x=.returned (.string (strOfNums (aV 14)))/\av (fun _=>False) w w':=by
 have hb:bits .and .i32 14 15=14:=by kernel_rfl
 go_enter Tryz.func163,Tryz.ntmps163;go_wp2;go_quiet (fail);go_wp2;go_ret;exact⟨by kernel_rfl,(av.refl _ _).drewN _⟩
theorem GL(w:World):Calls Tryz.prog 163 #[.int .i32 15] w fun x w'=>x=.returned (.string (strOfNums (aV 15)))/\av (fun _=>False) w w':=by
 have hb:bits .and .i32 15 15=15:=by kernel_rfl
 go_enter Tryz.func163,Tryz.ntmps163;go_wp2;go_quiet (fail);go_wp2;go_ret;exact⟨by kernel_rfl,(av.refl _ _).drewN _⟩
theorem GM(w:World):Calls Tryz.prog 163 #[.int .i32 16] w fun x w'=>x=.returned (.string (strOfNums (aV 16)))/\av (fun _=>False) w w':=by
 have hb:bits .and .i32 16 15=0:=by kernel_rfl
 go_enter Tryz.func163,Tryz.ntmps163;go_wp2;go_quiet (fail);go_wp2;go_ret;exact⟨by kernel_rfl,(av.refl _ _).drewN _⟩
theorem GN(w:World):Calls Tryz.prog 163 #[.int .i32 17] w fun x w'=>x=.returned (.string (strOfNums (aV 17)))/\av (fun _=>False) w w':=by
 have hb:bits .and .i32 17 15=1:=by kernel_rfl
 go_enter Tryz.func163,Tryz.ntmps163;go_wp2;go_quiet (fail);go_wp2;go_ret;exact⟨by kernel_rfl,(av.refl _ _).drewN _⟩
theorem GQ(w:World):Calls Tryz.prog 163 #[.int .i32 18] w fun x w'=>x=.returned (.string (strOfNums (aV 18)))/\av (fun _=>False) w w':=by
 have hb:bits .and .i32 18 15=2:=by kernel_rfl
 go_enter Tryz.func163,Tryz.ntmps163;go_wp2;go_quiet (fail);go_wp2;go_ret;exact⟨by kernel_rfl,(av.refl _ _).drewN _⟩
theorem GR(w:World):Calls Tryz.prog 163 #[.int .i32 19] w fun x w'=>x=.returned (.string (strOfNums (aV 19)))/\av (fun _=>False) w w':=by
 have hb:bits .and .i32 19 15=3:=by kernel_rfl
 go_enter Tryz.func163,Tryz.ntmps163;go_wp2;go_quiet (fail);go_wp2;go_ret;exact⟨by kernel_rfl,(av.refl _ _).drewN _⟩
theorem GU(w:World):Calls Tryz.prog 163 #[.int .i32 20] w fun x w'=>x=.returned (.string (strOfNums (aV 20)))/\av (fun _=>False) w w':=by
 have hb:bits .and .i32 20 15=4:=by kernel_rfl
 go_enter Tryz.func163,Tryz.ntmps163;go_wp2;go_quiet (fail);go_wp2;go_ret;exact⟨by kernel_rfl,(av.refl _ _).drewN _⟩
theorem GV(w:World):Calls Tryz.prog 163 #[.int .i32 21] w fun x w'=>x=.returned (.string (strOfNums (aV 21)))/\av (fun _=>False) w w':=by
 have hb:bits .and .i32 21 15=5:=by kernel_rfl
 go_enter Tryz.func163,Tryz.ntmps163;go_wp2;go_quiet (fail);go_wp2;go_ret;exact⟨by kernel_rfl,(av.refl _ _).drewN _⟩
theorem GX(w:World):Calls Tryz.prog 163 #[.int .i32 22] w fun x w'=>x=.returned (.string (strOfNums (aV 22)))/\av (fun _=>False) w w':=by
 have hb:bits .and .i32 22 15=6:=by kernel_rfl
 go_enter Tryz.func163,Tryz.ntmps163;go_wp2;go_quiet (fail);go_wp2;go_ret;exact⟨by kernel_rfl,(av.refl _ _).drewN _⟩
theorem GY(w:World):Calls Tryz.prog 163 #[.int .i32 23] w fun x w'=>x=.returned (.string (strOfNums (aV 23)))/\av (fun _=>False) w w':=by
 have hb:bits .and .i32 23 15=7:=by kernel_rfl
 go_enter Tryz.func163,Tryz.ntmps163;go_wp2;go_quiet (fail);go_wp2;go_ret;exact⟨by kernel_rfl,(av.refl _ _).drewN _⟩
theorem GZ(w:World):Calls Tryz.prog 163 #[.int .i32 24] w fun x w'=>x=.returned (.string (strOfNums (aV 24)))/\av (fun _=>False) w w':=by
 have hb:bits .and .i32 24 15=8:=by kernel_rfl
 go_enter Tryz.func163,Tryz.ntmps163;go_wp2;go_quiet (fail);go_wp2;go_ret;exact⟨by kernel_rfl,(av.refl _ _).drewN _⟩
theorem G9(w:World):Calls Tryz.prog 163 #[.int .i32 25] w fun x w'=>x=.returned (.string (strOfNums (aV 25)))/\av (fun _=>False) w w':=by
 have hb:bits .and .i32 25 15=9:=by kernel_rfl
 go_enter Tryz.func163,Tryz.ntmps163;go_wp2;go_quiet (fail);go_wp2;go_ret;exact⟨by kernel_rfl,(av.refl _ _).drewN _⟩
theorem G_(w:World):Calls Tryz.prog 163 #[.int .i32 26] w fun x w'=>x=.returned (.string (strOfNums (aV 26)))/\av (fun _=>False) w w':=by
 have hb:bits .and .i32 26 15=10:=by kernel_rfl
 go_enter Tryz.func163,Tryz.ntmps163;go_wp2;go_quiet (fail);go_wp2;go_ret;exact⟨by kernel_rfl,(av.refl _ _).drewN _⟩
theorem Ha(w:World):Calls Tryz.prog 163 #[.int .i32 27] w fun x w'=>x=.returned (.string (strOfNums (aV 27)))/\av (fun _=>False) w w':=by
 have hb:bits .and .i32 27 15=11:=by kernel_rfl
 go_enter Tryz.func163,Tryz.ntmps163;go_wp2;go_quiet (fail);go_wp2;go_ret;exact⟨by kernel_rfl,(av.refl _ _).drewN _⟩
theorem Hd(w:World):Calls Tryz.prog 163 #[.int .i32 28] w fun x w'=>x=.returned (.string (strOfNums (aV 28)))/\av (fun _=>False) w w':=by
 have hb:bits .and .i32 28 15=12:=by kernel_rfl
 go_enter Tryz.func163,Tryz.ntmps163;go_wp2;go_quiet (fail);go_wp2;go_ret;exact⟨by kernel_rfl,(av.refl _ _).drewN _⟩
theorem He(w:World):Calls Tryz.prog 163 #[.int .i32 29] w fun x w'=>x=.returned (.string (strOfNums (aV 29)))/\av (fun _=>False) w w':=by
 have hb:bits .and .i32 29 15=13:=by kernel_rfl
 go_enter Tryz.func163,Tryz.ntmps163;go_wp2;go_quiet (fail);go_wp2;go_ret;exact⟨by kernel_rfl,(av.refl _ _).drewN _⟩
theorem Hf(w:World):Calls Tryz.prog 163 #[.int .i32 30] w fun x w'=>x=.returned (.string (strOfNums (aV 30)))/\av (fun _=>False) w w':=by
 have hb:bits .and .i32 30 15=14:=by kernel_rfl
 go_enter Tryz.func163,Tryz.ntmps163;go_wp2;go_quiet (fail);go_wp2;go_ret;exact⟨by kernel_rfl,(av.refl _ _).drewN _⟩
theorem Hg(w:World):Calls Tryz.prog 163 #[.int .i32 31] w fun x w'=>x=.returned (.string (strOfNums (aV 31)))/\av (fun _=>False) w w':=by
 have hb:bits .and .i32 31 15=15:=by kernel_rfl
 go_enter Tryz.func163,Tryz.ntmps163;go_wp2;go_quiet (fail);go_wp2;go_ret;exact⟨by kernel_rfl,(av.refl _ _).drewN _⟩
theorem Hl(w:World):Calls Tryz.prog 163 #[.int .i32 34] w fun x w'=>x=.returned (.string (strOfNums (aV 34)))/\av (fun _=>False) w w':=by
 go_enter Tryz.func163,Tryz.ntmps163;go_wp2;go_ret;exact⟨by kernel_rfl,av.refl _ _⟩
theorem Hm(w:World):Calls Tryz.prog 163 #[.int .i32 92] w fun x w'=>x=.returned (.string (strOfNums (aV 92)))/\av (fun _=>False) w w':=by
 go_enter Tryz.func163,Tryz.ntmps163;go_wp2;go_ret;exact⟨by kernel_rfl,av.refl _ _⟩
theorem L9(w:World):Calls Tryz.prog 163 #[.int .i32 8] w fun x w'=>x=.returned (.string (strOfNums (aV 8)))/\av (fun _=>False) w w':=by
 go_enter Tryz.func163,Tryz.ntmps163;go_wp2;go_ret;exact⟨by kernel_rfl,av.refl _ _⟩
theorem L_(w:World):Calls Tryz.prog 163 #[.int .i32 9] w fun x w'=>x=.returned (.string (strOfNums (aV 9)))/\av (fun _=>False) w w':=by
 go_enter Tryz.func163,Tryz.ntmps163;go_wp2;go_ret;exact⟨by kernel_rfl,av.refl _ _⟩
theorem Ho(w:World):Calls Tryz.prog 163 #[.int .i32 10] w fun x w'=>x=.returned (.string (strOfNums (aV 10)))/\av (fun _=>False) w w':=by
 go_enter Tryz.func163,Tryz.ntmps163;go_wp2;go_ret;exact⟨by kernel_rfl,av.refl _ _⟩
theorem Hq(w:World):Calls Tryz.prog 163 #[.int .i32 12] w fun x w'=>x=.returned (.string (strOfNums (aV 12)))/\av (fun _=>False) w w':=by
 go_enter Tryz.func163,Tryz.ntmps163;go_wp2;go_ret;exact⟨by kernel_rfl,av.refl _ _⟩
theorem Ht(w:World):Calls Tryz.prog 163 #[.int .i32 13] w fun x w'=>x=.returned (.string (strOfNums (aV 13)))/\av (fun _=>False) w w':=by
 go_enter Tryz.func163,Tryz.ntmps163;go_wp2;go_ret;exact⟨by kernel_rfl,av.refl _ _⟩
theorem Hu(r:Nat):Utf8.encode (r:Int)=strOfNums (Lib.encodeRuneZ (r:Int)):=by
 rw[<-Go.Extern.FmtText.encode_eq];exact(N9 _).symm
theorem DI(l:Nat)(h:32<=l)(h1:l<=1114111)(h34:l≠34)(h92:l≠92)(w:World):Calls Tryz.prog 163 #[.int .i32 l] w fun x w'=>x=.returned (.string (strOfNums (Lib.encodeRuneZ l)))/\av (fun _=>False) w w':=by
 have g34:(l:Int)≠34:=by omega
 have g92:(l:Int)≠92:=by omega
 go_enter Tryz.func163,Tryz.ntmps163;go_wp2;go_ret;exact⟨Ry (Hu l),av.refl _ _⟩
theorem DJ(l:Nat)(h1:l<=1114111)(w:World):Calls Tryz.prog 163 #[.int .i32 l] w fun x w'=>x=.returned (.string (strOfNums (escRune l)))/\av (fun _=>False) w w':=by
 by_cases h:l<32\/ l=34\/ l=92
 ·have e:escRune (l:Int)=aV l:=by unfold escRune;rw[if_pos (by omega)]
  rw[e];have hc:l=0\/ l=1\/ l=2\/ l=3\/ l=4\/ l=5\/ l=6\/ l=7\/ l=8\/ l=9\/ l=10\/ l=11\/ l=12\/ l=13\/ l=14\/ l=15\/ l=16\/ l=17\/ l=18\/ l=19\/ l=20\/ l=21\/ l=22\/ l=23\/ l=24\/ l=25\/ l=26\/ l=27\/ l=28\/ l=29\/ l=30\/ l=31\/ l=34\/ l=92:=by omega
  rcases hc with rfl| rfl| rfl| rfl| rfl| rfl| rfl| rfl| rfl| rfl| rfl| rfl| rfl| rfl| rfl| rfl| rfl| rfl| rfl| rfl| rfl| rfl| rfl| rfl| rfl| rfl| rfl| rfl| rfl| rfl| rfl| rfl| rfl| rfl
  ·exact LU w
  ·exact LV w
  ·exact LW w
  ·exact LX w
  ·exact LY w
  ·exact LZ w
  ·exact L6 w
  ·exact L8 w
  ·exact L9 w
  ·exact L_ w
  ·exact Ho w
  ·exact GJ w
  ·exact Hq w
  ·exact Ht w
  ·exact GK w
  ·exact GL w
  ·exact GM w
  ·exact GN w
  ·exact GQ w
  ·exact GR w
  ·exact GU w
  ·exact GV w
  ·exact GX w
  ·exact GY w
  ·exact GZ w
  ·exact G9 w
  ·exact G_ w
  ·exact Ha w
  ·exact Hd w
  ·exact He w
  ·exact Hf w
  ·exact Hg w
  ·exact Hl w
  ·exact Hm w
 ·have e:escRune (l:Int)=Lib.encodeRuneZ l:=by
    unfold escRune
    split
    ·rw[Lib.encodeRuneZ_one (by omega) (by omega)];unfold aV;rw[if_neg (by omega),if_neg (by omega),if_neg (by omega),if_neg (by omega),if_neg (by omega),if_neg (by omega),if_neg (by omega),if_neg (by omega)]
    ·rfl
  rw[e];exact DI l (by omega) h1 (by omega) (by omega) w
theorem OP{t:List Int}{p:Nat}(h:p+1<t.length):(t.drop p).take 2= [ax t p,ax t (p+1)]:=by
 unfold ax;rw[List.drop_eq_getElem_cons (by omega),List.drop_eq_getElem_cons (i:=p+1) (by omega)];simp only[List.take_succ_cons,List.take_zero,Option.getD_some,List.getD_eq_getElem?_getD,List.getElem?_eq_getElem (show p<t.length by omega),List.getElem?_eq_getElem h]
theorem Hw{t:List Int}{p:Nat}(h:p+2<t.length):(t.drop p).take 3= [ax t p,ax t (p+1),ax t (p+2)]:=by
 unfold ax;rw[List.drop_eq_getElem_cons (by omega),List.drop_eq_getElem_cons (i:=p+1) (by omega),List.drop_eq_getElem_cons (i:=p+1+1) (by omega)];simp only[List.take_succ_cons,List.take_zero,Option.getD_some,List.getD_eq_getElem?_getD,List.getElem?_eq_getElem (show p<t.length by omega),List.getElem?_eq_getElem (show p+1<t.length by omega),List.getElem?_eq_getElem h]
theorem Ma{t:List Int}{p:Nat}(h:p+3<t.length):(t.drop p).take 4= [ax t p,ax t (p+1),ax t (p+2),ax t (p+3)]:=by
 unfold ax;rw[List.drop_eq_getElem_cons (by omega),List.drop_eq_getElem_cons (i:=p+1) (by omega),List.drop_eq_getElem_cons (i:=p+1+1) (by omega),List.drop_eq_getElem_cons (i:=p+1+1+1) (by omega)];simp only[List.take_succ_cons,List.take_zero,Option.getD_some,List.getD_eq_getElem?_getD,List.getElem?_eq_getElem (show p<t.length by omega),List.getElem?_eq_getElem (show p+1<t.length by omega),List.getElem?_eq_getElem (show p+2<t.length by omega),List.getElem?_eq_getElem h]
theorem xR(l:List Int)(h:∀c∈l,128<=c):l.flatMap aV=l:=by
 induction l with
 | nil=>rfl
 | cons a r ih=>
  have ha:=h a (List.mem_cons_self ..);rw[List.flatMap_cons,ih fun c hc=>h c (List.mem_cons_of_mem _ hc)];have:aV a= [a]:=by
   unfold aV;rw[if_neg (by omega),if_neg (by omega),if_neg (by omega),if_neg (by omega),if_neg (by omega),if_neg (by omega),if_neg (by omega),if_neg (by omega)]
  rw[this];rfl
theorem pV{t:List Int}{i:Nat}(h:bN t i=true):i<t.length/\ax t i / 64=2:=by
 unfold bN at h;have h:=of_decide_eq_true h;exact⟨KW (fun e=>by rw[e]at h;exact absurd h (by decide)),h⟩
theorem OQ{t:List Int}{p:Nat}{c:Int}{wd:Nat}(hb:∀i,0<=ax t i/\ax t i<=255)(hp:p<t.length)(hr:bD t p=(c,wd))(h0:wd≠0):
    ((t.drop p).take wd).flatMap aV=escRune c/\p+wd<=t.length/\0<=c/\c<=1114111:=by
 have b0:=hb p;have b1:=hb (p+1);have b2:=hb (p+2);have b3:=hb (p+3);unfold bD at hr
 split at hr
 ·rename_i h1;obtain⟨rfl,rfl⟩:=Prod.mk.inj hr;refine⟨?_,by omega,by omega,by omega⟩;have e:(t.drop p).take 1= [ax t p]:=by
   unfold ax;rw[List.drop_eq_getElem_cons hp];simp only[List.take_succ_cons,List.take_zero,Option.getD_some,List.getD_eq_getElem?_getD,List.getElem?_eq_getElem hp]
  rw[e];unfold escRune;rw[if_pos h1];simp
 ·split at hr
  ·rename_i h1 h2;simp only[Bool.and_eq_true,decide_eq_true_eq]at h2;obtain⟨l1,c1⟩:=pV h2.2
   split at hr
   ·rename_i h3;obtain⟨rfl,rfl⟩:=Prod.mk.inj hr;refine⟨?_,by omega,by omega,by omega⟩;rw[OP l1,xR _ (by intro c hc;simp at hc;omega)];unfold escRune;rw[if_neg (by omega),Lib.encodeRuneZ_two (by omega) (by omega)];simp only[List.cons.injEq,and_true];omega
   ·obtain⟨_,rfl⟩:=Prod.mk.inj hr;exact absurd rfl h0
  ·split at hr
   ·rename_i h1 h2 h3;simp only[Bool.and_eq_true,decide_eq_true_eq]at h3;obtain⟨l1,c1⟩:=pV h3.1.2;obtain⟨l2,c2⟩:=pV h3.2
    split at hr
    ·rename_i h4;simp only[cO,Bool.and_eq_true,Bool.or_eq_true,decide_eq_true_eq]at h4;obtain⟨rfl,rfl⟩:=Prod.mk.inj hr;refine⟨?_,by omega,by omega,by omega⟩;rw[Hw l2,xR _ (by intro c hc;simp at hc;omega)];unfold escRune;rw[if_neg (by omega),Lib.encodeRuneZ_three (by omega)];simp only[List.cons.injEq,and_true];omega
    ·obtain⟨_,rfl⟩:=Prod.mk.inj hr;exact absurd rfl h0
   ·split at hr
    ·rename_i h1 h2 h3 h4;simp only[Bool.and_eq_true,decide_eq_true_eq]at h4;obtain⟨l1,c1⟩:=pV h4.1.1.2;obtain⟨l2,c2⟩:=pV h4.1.2;obtain⟨l3,c3⟩:=pV h4.2
     split at hr
     ·rename_i h5;simp only[cO,Bool.and_eq_true,Bool.or_eq_true,decide_eq_true_eq]at h5;obtain⟨rfl,rfl⟩:=Prod.mk.inj hr;refine⟨?_,by omega,by omega,by omega⟩;rw[Ma l3,xR _ (by intro c hc;simp at hc;omega)];unfold escRune;rw[if_neg (by omega),Lib.encodeRuneZ_four (by omega) (by omega)];simp only[List.cons.injEq,and_true];omega
     ·obtain⟨_,rfl⟩:=Prod.mk.inj hr;exact absurd rfl h0
    ·obtain⟨_,rfl⟩:=Prod.mk.inj hr;exact absurd rfl h0
theorem Hy{c:Int}(h:0<=c/\c<=255):(∀x∈aV c,0<=x/\x<=255)/\(aV c).length<=6:=by
 unfold aV Vp
 (repeat' split);all_goals
  refine⟨fun x hx=> ?_,by simp⟩;simp at hx;omega
theorem Hz{c:Int}(h0:0<=c):(∀x∈escRune c,0<=x/\x<=255)/\(escRune c).length<=6:=by
 unfold escRune
 split
 ·exact Hy ⟨h0,by omega⟩
 ·exact⟨fun x hx=>by have:=Lib.encodeRuneZ_byte c x hx;omega,by have:=(Lib.encodeRuneZ_length c).2;omega⟩
theorem NB.iterAt{B K:Nat}{w wr:World}(h:NB B K w wr){k:Nat}(hk:w.heap.size<=k)(s:ByteArray)(p:Nat):NB B K w (wr.iterAt k s p):=
 ⟨h.os,h.tape,h.output,by rw[Lib.iterAt_size];exact h.size,fun j hj hn hs=>by rw[Lib.iterAt_other _ _ _ _ _ (by omega)];exact h.block j hj hn hs⟩
theorem zi.iterAt{w:World}{B K k:Nat}{out:List Int}{s s':ByteArray}{p p':Nat}(h:zi w B K out)(hk:w.heap[k]?=some (.stringIter s p))(hB:B<=k):zi (w.iterAt k s' p') B K out:=by
 obtain⟨v,h1,h2⟩:=h.row;have bH:=h.lt;refine⟨⟨v,by rw[Lib.iterAt_other _ _ _ _ _ (by omega)];exact h1,h2.1, ?_⟩,bH,by rw[Lib.iterAt_size];exact h.size⟩
 rcases h2.2 with hn| ⟨g,cap,cur,rfl,hg,xm,rest⟩
 ·exact .inl hn
 ·refine .inr ⟨g,cap,cur,rfl,hg, ?_,rest⟩;rw[Lib.iterAt_other _ _ _ _ _ (fun e=>by rw[e,hk]at xm;cases xm)];exact xm
theorem H_{B K k:Nat}{w w':World}{s:ByteArray}{p:Nat}(h:NB B K w w')(hk:w.heap[k]?=some (.stringIter s p))(hK:k≠K):w'.heap[k]?=some (.stringIter s p):=by
 rw[h.block k (Array.getElem?_eq_some_iff.1 hk).1 hK (.inr fun cur fr e=>by rw[hk]at e;cases e)];exact hk
theorem iterPos_of{w:World}{k:Nat}{s:ByteArray}{p:Nat}(h:w.heap[k]?=some (.stringIter s p)):w.iterPos k=p:=by simp[World.iterPos,h]
theorem zi.Uz{w w':World}{B K:Nat}{out:List Int}(h:zi w B K out)(hk:av (fun _=>False) w w'):zi w' B K out:=by
 obtain⟨v,h1,h2⟩:=h.row;have:=h.lt;have:=h.size;have:=hk.size;exact⟨⟨v,(hk.block K (by omega) fun h=>h).trans h1,aX h2 hk fun _ _ h=>h⟩,h.lt,by omega⟩
theorem Md{t:List Int}{pos wd:Nat}:t.take (pos+wd)=t.take pos++(t.drop pos).take wd:=List.take_add
theorem DK{w:World}{B K:Nat}{out:List Int}(hw:zi w B K out)(ho:out.length<=20000)(s:ByteArray)(hl:gY (ints s)=none):
    Calls Tryz.prog 139 #[.pointer (some ⟨K,0,none⟩),.string s] w fun x w'=>fE w w' B K out (quote (ints s)) x:=by
 have hq:=gU hw ho ⟨#[34]⟩ (by decide);have UA:Hid (K<B/\B<=w.heap.size):=⟨hw.lt,hw.size⟩;go_enter Tryz.func139,Tryz.ntmps139;go_wp2_with(go_at_call 136;refine hq.mono ?_;rintro x w1 ⟨rfl,⟨OT,UB,UC,UD⟩,Ki⟩)
 go_loopw [5] (fun _ wr=>∃(pos m:Nat) (qU:List Int),wr.heap[w1.heap.size]?=some (.stringIter s pos)/\pos<=s.size/\s.size<=pos+m/\strayL (ints s) m pos=none/\C_ out (34::((ints s).take pos).flatMap aV) qU/\qU.length<=20000/\zi wr B K qU/\NB B K w wr) (fun _ wr=>s.size - wr.iterPos w1.heap.size)
 case atStart=>exact⟨0,s.size,OT,World.iter_heap w1 s 0,Nat.zero_le _,by omega,by unfold gY at hl;rw[aH]at hl;exact hl,UB,UC,UD.alloc _,Ki.alloc _⟩
 case round=>
  obtain⟨pos,m,zba,hit,hps,hpm,ny,BD,Ia,UE,F7⟩:=hrel;have HN:Hid (w.heap.size<=w1.heap.size):=Ki.size;clear hq hw UB UC UD Ki hl;have zbb:=iterPos_of hit;have VN:=UA.out;have hNN:=HN.out
  by_cases hp:pos<s.size
  ·have CW:∀ty,(Instr.next (.pointer (some ⟨w1.heap.size,0,none⟩)) true ty).run Tryz.prog wr=_:=fun ty=>Lib.run_next_any_at wr w1.heap.size s pos ty hit hp;obtain⟨m,rfl⟩:∃m',m=m'+1:=⟨m - 1,by omega⟩;unfold strayL at ny;rw[aH,if_pos hp]at ny;have oG:=oL s pos;obtain⟨⟨c,wd⟩,hr⟩:∃r,bD (ints s) pos=r:=⟨_,rfl⟩;rw[hr]at ny oG;have h0:wd≠0:=fun e=>by simp only[e,if_true]at ny;cases ny
   simp only[if_neg h0]at ny oG;obtain⟨he,KV,NL,wL⟩:=OQ (nA s) (by rw[aH];exact hp) hr h0;rw[aH]at KV;obtain⟨c,rfl⟩:∃n:Nat,c=n:=⟨c.toNat,by omega⟩;rw[show((c:Int).toNat)=c by simp]at oG;rw[oG]at CW;have VO:=Lib.iterAt_heap wr w1.heap.size s pos (pos+wd) hit;have Kj:=F7.iterAt hNN s (pos+wd);have BF:=UE.iterAt (s':=s) (p':=pos+wd) hit (by omega);obtain⟨W1,zB⟩:∃W1,W1=wr.iterAt w1.heap.size s (pos+wd):=⟨_,rfl⟩;simp only at CW;rw[<-zB]at CW VO Kj BF;have hes:=DJ c (by omega) W1;obtain⟨oK,OU⟩:=Hz NL;obtain⟨u,hu⟩:∃u,strOfNums (escRune (c:Int))=u:=⟨_,rfl⟩;have HU:Hid (ints u=escRune (c:Int)):=by show ints u=_;rw[<-hu];exact N8 _ oK
   have OV:u.size<=100:=by rw[<-hu,N_];omega
   rw[hu]at hes;have Bv:Hid (strayL (ints s) m (pos+wd)=none):=ny;clear zB hit hu oG ny oK OU;go_wp2_with(first
    | (go_at_call 163;refine hes.mono ?_;rintro x w4 ⟨rfl,xS⟩
       have GI:=BF.Uz xS;have zdW:=(xS.block _ (Array.getElem?_eq_some_iff.1 VO).1 (fun h=>h)).trans VO;have hpt:=gU GI Ia u OV)
    | (go_at_call 136;refine hpt.mono ?_;rintro x w5 ⟨rfl,⟨zbc,hp5,ho5,xU⟩,R6⟩))
   have zbd:=H_ R6 zdW (by omega);have zbe:=iterPos_of zbd;go_roundw
   case rel=>
    refine⟨pos+wd,m,zbc,zbd,KV,by omega,Bv.out, ?_,ho5,xU,(Kj.trans (NB.fA (xS.mono fun _ _ h=>h.elim))).trans R6⟩;have:=BD.trans hp5;rw[HU.out,<-he]at this;rw[Md,List.flatMap_append];exact this
   case measure=>rw[zbe,zbb];omega
  ·have CW:∀ty,(Instr.next (.pointer (some ⟨w1.heap.size,0,none⟩)) true ty).run Tryz.prog wr=_:=fun ty=>Lib.run_next_end_at wr w1.heap.size s pos ty hit hp;have UF:=gU UE Ia ⟨#[34]⟩ (by decide);go_wp2_with(go_at_call 136;refine UF.mono ?_;rintro x w3 ⟨rfl,⟨DL,OW,OX,BF⟩,Kj⟩)
   go_end0
   refine⟨rfl,⟨DL, ?_,OX,BF⟩,F7.trans Kj⟩;have:=BD.trans OW;rw[List.take_of_length_le (by rw[aH];omega)]at this;exact this
theorem Al(j:J):∀(l:List J) (b:Bool),zn b (l++ [j])=zn b l++((if l.length=0/\b=true then []else [44])++kH j)
 | [],b=>by
  rw[List.nil_append,uy]
  cases b<;>simp[zn]
 | i::r,b=>by
  rw[List.cons_append,uy,uy,Al j r false];simp
theorem Am(j:J):∀(l:List J) (ks:List ByteArray) (b:Bool),zo b ks (l++ [j])=zo b ks l++((if l.length=0/\b=true then []else [44])++(quote (ints (ks.getD l.length aN))++(58::kH j)))
 | [],ks,b=>by
  rw[List.nil_append,uz]
  cases b<;>cases ks<;>simp[zo]
 | i::r,ks,b=>by
  rw[List.cons_append,uz,uz,Am j r ks.tail false]
  cases ks<;>simp
abbrev NQ(K:Nat)(w:World):Prop:=Lib.TabBelow Tryz.prog K w "internal/strconv.uint64pow10" .u64 Lib.pow10Tab
theorem Ib{B K:Nat}{w w':World}(h:NQ K w)(n:NB B K w w')(hK:K<=B)(hB:K<=w.heap.size):NQ K w':=fun w2 h2=>h w2 ((n.below hK hB).trans h2)
def wideJ:Nat->J->Bool
 | 0,_=>true
 | d+1,.mk _ _ _ _ l=>decide (l.length<=100000)&&l.all (wideJ d)
def qV(d:Nat)(j:J):Bool:=goodJ d j&&wideJ d j
def uC(d:Nat):Prop:=∀(w:World) (B K:Nat) (out:List Int) (O:Nat->Prop) (j:J) (k i:Int) (t:ByteArray) (pk pl:Option Addr) (nk ck nl cl:Nat),zi w B K out->out.length<=20000->(∀x,O x->x<B/\x≠K)->NQ K w→
 qV d j=true->isJ O w j [.int .i64 k,.int .i64 i,.string t,.slice pk nk ck,.slice pl nl cl]→
 Calls Tryz.prog 111 #[.pointer (some ⟨K,0,none⟩),.agg #[.int .i64 k,.int .i64 i,.string t,.slice pk nk ck,.slice pl nl cl]] w fun x w'=>fE w w' B K out (kH j) x
theorem dI{O:Nat->Prop}{w:World}{j:J}{cs:List Value}(h:isJ O w j cs):∃k i t pk nk ck pl nl cl,cs= [.int .i64 k,.int .i64 i,.string t,.slice pk nk ck,.slice pl nl cl]:=by
 cases j
 unfold isJ at h;obtain⟨pk,ck,pl,cl,e,_⟩:=h;exact⟨_,_,_,_,_,_,_,_,_,e⟩
theorem jr{B K:Nat}{w w':World}{O:Nat->Prop}(n:NB B K w w')(hB:B<=w.heap.size)(hO:∀x,O x->x<B/\x≠K):∀x,O x->O x/\w'.heap[x]?=w.heap[x]?:=
 fun x hx=>⟨hx,n.block x (by have:=(hO x hx).1;omega) (hO x hx).2 (.inl (hO x hx).1)⟩
theorem gT{l:List J}{k:Nat}(h:k<l.length):l.take (k+1)=l.take k++ [l.getD k J.zero]:=by
 rw[List.take_add_one,List.getElem?_eq_getElem h,List.getD_eq_getElem?_getD,List.getElem?_eq_getElem h]
 rfl
theorem xV{B K:Nat}{wr w3:World}{cs:Array Value}(n:NB B K (wr.alloc (.cells cs 25)) w3)(hK:K<wr.heap.size):w3.heap[wr.heap.size]?=some (.cells cs 25 (0,0)):=by
 have h:=heap_alloc_new wr (.cells cs 25);rw[n.block wr.heap.size (by simp) (by omega) (.inr fun cur fr e=>by rw[h]at e;injection e with e;injection e with _ e2 _;exact absurd e2 (by decide))];exact h
theorem VP{d:Nat}(V:uC d){w:World}{B K:Nat}{out:List Int}{O:Nat->Prop}{l:List J}{pl:Option Addr}{cl:Nat}(hw:zi w B K out)(ho:out.length<=20000)(hO:∀x,O x->x<B/\x≠K)(hT:NQ K w)
    (hg:l.all (qV d)=true) (hj:isJs O w pl 0 l) (hc:l.length<=cl) (dP:l.length<=1000000):
    Calls Tryz.prog 140 #[.pointer (some ⟨K,0,none⟩),.slice pl l.length cl] w fun x w'=>fE w w' B K out (91::(zn true l++ [93])) x:=by
 have hq:=gU hw ho ⟨#[91]⟩ (by decide);have UA:Hid (K<B/\B<=w.heap.size):=⟨hw.lt,hw.size⟩;obtain⟨n,hn⟩:∃n,l.length=n:=⟨_,rfl⟩;have HN:Hid (l.length=n):=hn;rw[hn]at hc dP ⊢;clear hn;go_enter Tryz.func140,Tryz.ntmps140;go_wp2_with(go_at_call 136;refine hq.mono ?_;rintro x w1 ⟨rfl,⟨OT,UB,UC,UD⟩,Ki⟩)
 go_loopw [10] (fun i wr=>∃(k:Nat) (qU:List Int),i=.int .i64 k/\k<=n/\C_ out (91::zn true (l.take k)) qU/\qU.length<=20000/\zi wr B K qU/\NB B K w wr) (fun i _=>n - (intOf i).toNat)
 case atStart=>exact⟨0,OT,rfl,Nat.zero_le _,by rw[List.take_zero];exact UB,UC,UD,Ki⟩
 case round=>
  clear UB UC UD Ki hq;obtain⟨k,zba,rfl,hk,lQ,Ia,UE,F7⟩:=hrel;have VN:=UA.out
  by_cases fG:k<n
  ·have uD:k<l.length:=by rw[HN.out];exact fG
   obtain⟨lb,lo,cs,vM,mG,bA,ja⟩:=isJs.at l 0 k hj uD;subst vM;obtain⟨kv,iv,tv,pv,nv,cv,qv,mv,dv,rfl⟩:=dI ja;have rT:=(jr F7 VN.2 hO lb mG).2;have cc:∀m v, [Value.int .i64 kv,.int .i64 iv,.string tv,.slice pv nv cv,.slice qv mv dv][m]?=some v->wr.cell? ⟨lb,lo+k*5+m,none⟩=some v:=fun m v h=>by
    have:=bA m v h;rw[Nat.zero_add]at this;exact(World.cell?_of_block (a:=⟨lb,lo+k*5+m,none⟩) rT).trans this
   have y0:wr.cell? ⟨lb,lo+k*5,none⟩=some (.int .i64 kv):=cc 0 _ rfl;have y1:=cc 1 _ rfl;have y2:=cc 2 _ rfl;have y3:=cc 3 _ rfl;have y4:=cc 4 _ rfl;clear cc bA;have Vu:(k:Int)<(n:Int):=by omega
   have hm:=Ak (UE.alloc (.cells #[.int .i64 kv,.int .i64 iv,.string tv,.slice pv nv cv,.slice qv mv dv] 25)) Ia k (by omega);have HG:Hid (qV d (l.getD k J.zero)=true):=by
    have:=List.all_eq_true.1 hg (l.getD k J.zero) (by rw[List.getD_eq_getElem?_getD,List.getElem?_eq_getElem uD];exact List.getElem_mem uD);exact this
   go_wp2_with(first
    | (go_at_call 164;refine hm.mono ?_;rintro x w3 ⟨rfl,⟨DL,OW,OX,BF⟩,Kj⟩
       have hvb:=xV Kj (by have:=F7.size;omega);obtain⟨j0,j1,j2,j3,j4⟩:=aM hvb;have Q_:=(F7.alloc (.cells #[.int .i64 kv,.int .i64 iv,.string tv,.slice pv nv cv,.slice qv mv dv] 25)).trans Kj;have hV:=V w3 B K DL O _ kv iv tv pv qv nv cv mv dv BF OX hO (Ib hT Q_ (by omega) (by omega)) HG.out (ja.carry (jr Q_ VN.2 hO)))
    | (go_at_call 111;refine hV.mono ?_;rintro x w4 ⟨rfl,⟨VQ,VR,eO,GI⟩,VS⟩))
   go_roundw
   case rel=>
    refine⟨k+1,VQ,by go_num,fG, ?_,eO,GI,Q_.trans VS⟩;have:=(lQ.trans OW).trans VR;rw[gT uD,Al,List.length_take,Nat.min_eq_left (by omega)];simp only[and_true];simpa using this
   case measure=>simp[intOf];omega
  ·obtain rfl:k=n:=by omega
   have UF:=gU UE Ia ⟨#[93]⟩ (by decide);go_wp2_with(go_at_call 136;refine UF.mono ?_;rintro x w3 ⟨rfl,⟨DL,OW,OX,BF⟩,Kj⟩)
   go_end0
   refine⟨rfl,⟨DL, ?_,OX,BF⟩,F7.trans Kj⟩;have:=lQ.trans OW;rw[List.take_of_length_le (by rw[HN.out];omega)]at this;exact this
theorem R7{d:Nat}(V:uC d){w:World}{B K:Nat}{out:List Int}{O:Nat->Prop}{ks:List ByteArray}{l:List J}{pk pl:Option Addr}{ck cl:Nat}(hw:zi w B K out)(ho:out.length<=20000)(hO:∀x,O x->x<B/\x≠K)(hT:NQ K w)
    (hg:l.all (qV d)=true) (Ao:ks.all letters=true) (sO:ks.length=l.length) (qR:ig O w pk ck ks) (hj:isJs O w pl 0 l) (hc:l.length<=cl) (dP:l.length<=1000000):
    Calls Tryz.prog 141 #[.pointer (some ⟨K,0,none⟩),.slice pk ks.length ck,.slice pl l.length cl] w fun x w'=>fE w w' B K out (123::(zo true ks l++ [125])) x:=by
 have hq:=gU hw ho ⟨#[123]⟩ (by decide);have UA:Hid (K<B/\B<=w.heap.size):=⟨hw.lt,hw.size⟩;obtain⟨n,hn⟩:∃n,l.length=n:=⟨_,rfl⟩;have HN:Hid (l.length=n):=hn;have HKN:Hid (ks.length=n):=sO.trans hn;rw[sO.trans hn];rw[hn]at hc dP ⊢;clear hn sO;go_enter Tryz.func141,Tryz.ntmps141;go_wp2_with(go_at_call 136;refine hq.mono ?_;rintro x w1 ⟨rfl,⟨OT,UB,UC,UD⟩,Ki⟩)
 go_loopw [12] (fun i wr=>∃(k:Nat) (qU:List Int),i=.int .i64 k/\k<=n/\C_ out (123::zo true ks (l.take k)) qU/\qU.length<=20000/\zi wr B K qU/\NB B K w wr) (fun i _=>n - (intOf i).toNat)
 case atStart=>exact⟨0,OT,rfl,Nat.zero_le _,by rw[List.take_zero];exact UB,UC,UD,Ki⟩
 case round=>
  clear UB UC UD Ki hq;obtain⟨k,zba,rfl,hk,lQ,Ia,UE,F7⟩:=hrel;have VN:=UA.out
  by_cases fG:k<n
  ·have uD:k<l.length:=by rw[HN.out];exact fG
   obtain⟨lb,lo,cs,vM,mG,bA,ja⟩:=isJs.at l 0 k hj uD;subst vM;obtain⟨kv,iv,tv,pv,nv,cv,qv,mv,dv,rfl⟩:=dI ja;have rT:=(jr F7 VN.2 hO lb mG).2;have cc:∀m v, [Value.int .i64 kv,.int .i64 iv,.string tv,.slice pv nv cv,.slice qv mv dv][m]?=some v->wr.cell? ⟨lb,lo+k*5+m,none⟩=some v:=fun m v h=>by
    have:=bA m v h;rw[Nat.zero_add]at this;exact(World.cell?_of_block (a:=⟨lb,lo+k*5+m,none⟩) rT).trans this
   have y0:wr.cell? ⟨lb,lo+k*5,none⟩=some (.int .i64 kv):=cc 0 _ rfl;have y1:=cc 1 _ rfl;have y2:=cc 2 _ rfl;have y3:=cc 3 _ rfl;have y4:=cc 4 _ rfl;clear cc bA;obtain⟨ad,VT,rX,zC⟩:=qR.2 k (by rw[HKN.out];exact fG);subst VT;obtain⟨key,vP⟩:∃key,ks.getD k aN=key:=⟨_,rfl⟩;rw[vP]at zC;have VU:Hid (ks.getD k aN=key):=vP;have zdX:gY (ints key)=none:=by
    have hm:=List.all_eq_true.1 Ao (ks.getD k aN) (by rw[List.getD_eq_getElem?_getD,List.getElem?_eq_getElem (by rw[HKN.out];exact fG)];exact List.getElem_mem _);rw[vP]at hm;unfold letters at hm;exact Option.isNone_iff_eq_none.1 hm
   clear vP;have Gz:n<=ck:=by have:=qR.1;rw[HKN.out]at this;exact this
   have Vu:(k:Int)<(n:Int):=by omega
   have hm:=Ak (UE.alloc (.cells #[.int .i64 kv,.int .i64 iv,.string tv,.slice pv nv cv,.slice qv mv dv] 25)) Ia k (by omega);have HG:Hid (qV d (l.getD k J.zero)=true):=by
    have:=List.all_eq_true.1 hg (l.getD k J.zero) (by rw[List.getD_eq_getElem?_getD,List.getElem?_eq_getElem uD];exact List.getElem_mem uD);exact this
   go_wp2_with(first
    | (go_at_call 164;refine hm.mono ?_;rintro x w3 ⟨rfl,⟨DL,OW,OX,BF⟩,Kj⟩
       have Q_:=(F7.alloc (.cells #[.int .i64 kv,.int .i64 iv,.string tv,.slice pv nv cv,.slice qv mv dv] 25)).trans Kj;have zia:w3.cell? (ad.add k)=some (.string key):=(World.cell?_of_block (by rw[bF];exact(jr Q_ VN.2 hO ad.block rX).2)).trans zC;have hx:=DK BF OX key zdX)
    | (go_at_call 139;refine hx.mono ?_;rintro x w5 ⟨rfl,⟨zbc,hp5,ho5,xU⟩,R6⟩
       have hq5:=gU xU ho5 ⟨#[58]⟩ (by decide))
    | (go_at_call 136;refine hq5.mono ?_;rintro x w6 ⟨rfl,⟨zdY,hp6,ho6,VV⟩,hn6⟩
       have zdZ:=xV ((Kj.trans R6).trans hn6) (by have:=F7.size;omega);obtain⟨j0,j1,j2,j3,j4⟩:=aM zdZ;have hnB:=(Q_.trans R6).trans hn6;have hV:=V w6 B K zdY O _ kv iv tv pv qv nv cv mv dv VV ho6 hO (Ib hT hnB (by omega) (by omega)) HG.out (ja.carry (jr hnB VN.2 hO)))
    | (go_at_call 111;refine hV.mono ?_;rintro x w4 ⟨rfl,⟨VQ,VR,eO,GI⟩,VS⟩))
   go_roundw
   case rel=>
    refine⟨k+1,VQ,by go_num,fG, ?_,eO,GI,hnB.trans VS⟩;have:=(((lQ.trans OW).trans hp5).trans hp6).trans VR;rw[gT uD,Am,List.length_take,Nat.min_eq_left (by omega)];rw[VU.out];have e58:ints ⟨#[58]⟩= [58]:=rfl;rw[e58]at this;simpa using this
   case measure=>simp[intOf];omega
  ·obtain rfl:k=n:=by omega
   have UF:=gU UE Ia ⟨#[125]⟩ (by decide);go_wp2_with(go_at_call 136;refine UF.mono ?_;rintro x w3 ⟨rfl,⟨DL,OW,OX,BF⟩,Kj⟩)
   go_end0
   refine⟨rfl,⟨DL, ?_,OX,BF⟩,F7.trans Kj⟩;have:=lQ.trans OW;rw[List.take_of_length_le (by rw[HN.out];omega)]at this;exact this
theorem Me(b:Bool)(w:World):Calls Tryz.prog 137 #[.bool b] w fun x w'=>x=.returned (.string (if b=true then⟨#[116,114,117,101]⟩else⟨#[102,97,108,115,101]⟩))/\w=w':=by
 cases b
 all_goals
  go_enter Tryz.func137,Tryz.ntmps137;go_wp2;go_ret;exact⟨rfl,rfl⟩
theorem OY(n:Int)(h0: -9223372036854775808<=n)(h1:n<=9223372036854775807){K:Nat}{w:World}(hT:NQ K w):
    Calls Tryz.prog 138 #[.int .i64 n,.int .i64 10] w fun x w'=>x=.returned (.string ⟨(Lib.itoa n).toArray⟩)/\av (fun _=>False) w w':=by
 refine(Tryz.strconv_FormatInt_10 n h0 h1 w hT.here).mono ?_;rintro x w' ⟨rfl,k,os,rfl⟩;exact⟨rfl,av.aW (Lib.below_grow _ w (Nat.le_refl _) k os)⟩
theorem fE.box{w w':World}{B K:Nat}{out s:List Int}{x:Ending}{o:Obj}(h:fE (w.alloc o) w' B K out s x):fE w w' B K out s x:=⟨h.1,h.2.1,((NB.refl B K w).alloc o).trans h.2.2⟩
theorem DN:uC 0:=by
 intro w B K out O j k i t pk pl nk ck nl cl hw ho hO hT hg hj;unfold qV goodJ at hg
 cases hg
theorem DR{d:Nat}(V:uC d):uC (d+1):=by
 intro w B K out O j k i t pk pl nk ck nl cl hw ho hO hT hg hj
 cases j with
 | mk k' i' t' ks l=>
  unfold isJ at hj;obtain⟨VW,R8,VX,zD,e,qR,CX,l9⟩:=hj
  cases e
  unfold qV goodJ wideJ at hg;simp only[Bool.and_eq_true]at hg;obtain⟨⟨_,hg⟩,Ux,hwl⟩:=hg;have Ux:=of_decide_eq_true Ux;have fq:=hw.size;have bH:=hw.lt;have nO:=hw.alloc (.cells #[.int .i64 k,.int .i64 i,.string t,.slice pk ks.length ck,.slice pl l.length cl] 25);have Q_:NB B K w (w.alloc (.cells #[.int .i64 k,.int .i64 i,.string t,.slice pk ks.length ck,.slice pl l.length cl] 25)):=(NB.refl _ _ _).alloc _;have hTA:NQ K (w.alloc (.cells #[.int .i64 k,.int .i64 i,.string t,.slice pk ks.length ck,.slice pl l.length cl] 25)):=Ib hT Q_ (by omega) (by omega);have zd0:=qR.carry (jr Q_ fq hO);have zbf:=l9.carry (jr Q_ fq hO)
  by_cases k0:k=0
  ·subst k0;have hq:=gU nO ho ⟨#[110,117,108,108]⟩ (by decide);go_enter Tryz.func111,Tryz.ntmps111;go_wp2_with(go_at_call 136;refine hq.mono ?_;intro x w2 lQ;obtain⟨rfl,lQ⟩:=lQ)
   go_end0
   exact fE.box ⟨rfl,lQ⟩
  rw[if_neg k0]at hg
  by_cases k1:k=1
  ·subst k1;rw[if_pos rfl]at hg;have fb:=fun b=>Me b (w.alloc (.cells #[.int .i64 1,.int .i64 i,.string t,.slice pk ks.length ck,.slice pl l.length cl] 25))
   by_cases h1:i=1
   ·subst h1;have hq:=gU nO ho ⟨#[116,114,117,101]⟩ (by decide);have fb:=fb true;rw[if_pos rfl]at fb;go_enter Tryz.func111,Tryz.ntmps111;go_wp2_with(first
     | (go_at_call 137;refine fb.mono ?_;rintro x w' ⟨rfl,rfl⟩)
     | (go_at_call 136;refine hq.mono ?_;intro x w2 lQ;obtain⟨rfl,lQ⟩:=lQ))
    go_end0
    exact fE.box ⟨rfl,lQ⟩
   ·have h1:i=0:=by
      simp only[Bool.or_eq_true,decide_eq_true_eq]at hg;omega
    subst h1;have hq:=gU nO ho ⟨#[102,97,108,115,101]⟩ (by decide);have fb:=fb false;rw[if_neg (by decide)]at fb;go_enter Tryz.func111,Tryz.ntmps111;go_wp2_with(first
     | (go_at_call 137;refine fb.mono ?_;rintro x w' ⟨rfl,rfl⟩)
     | (go_at_call 136;refine hq.mono ?_;intro x w2 lQ;obtain⟨rfl,lQ⟩:=lQ))
    go_end0
    exact fE.box ⟨rfl,lQ⟩
  rw[if_neg k1]at hg
  by_cases k2:k=2
  ·subst k2;rw[if_pos rfl]at hg;simp only[Bool.and_eq_true,decide_eq_true_eq]at hg;unfold dC at hg;have fi:=OY i (by omega) (by omega) hTA;have dP:=Lib.itoa_length_le i (by omega) (by omega);obtain⟨u,hu⟩:∃u:ByteArray,(⟨(Lib.itoa i).toArray⟩:ByteArray)=u:=⟨_,rfl⟩;have HU:Hid (ints u=kH (.mk 2 i t ks l)):=by
    show _=_
    rw[<-hu];unfold kH zaY ints
    rfl
   have OV:u.size<=100:=by
    rw[<-hu]
    show(Lib.itoa i).toArray.size<=100
    simp;omega
   rw[hu]at fi;clear hu dP;go_enter Tryz.func111,Tryz.ntmps111;go_wp2_with(first
    | (go_at_call 138;refine fi.mono ?_;rintro x w3 ⟨rfl,DT⟩;have hq:=gU (nO.Uz DT) ho u OV)
    | (go_at_call 136;refine hq.mono ?_;intro x w2 lQ;obtain⟨rfl,lQ⟩:=lQ))
   go_end0
   rw[HU.out]at lQ;exact fE.box ⟨rfl,lQ.1,(NB.fA (DT.mono fun _ _ h=>h.elim)).trans lQ.2⟩
  rw[if_neg k2]at hg
  by_cases k3:k=3
  ·subst k3;rw[if_pos rfl]at hg;have hq:=DK nO ho t (Option.isNone_iff_eq_none.1 hg);go_enter Tryz.func111,Tryz.ntmps111;go_wp2_with(go_at_call 139;refine hq.mono ?_;intro x w2 lQ;obtain⟨rfl,lQ⟩:=lQ)
   go_end0
   exact fE.box ⟨rfl,by unfold kH;exact lQ⟩
  rw[if_neg k3]at hg
  by_cases k4:k=4
  ·subst k4;rw[if_pos rfl]at hg;have eF:l.all (qV d)=true:=by
    rw[List.all_eq_true]at hg hwl ⊢;intro x hx;unfold qV;rw[hg x hx,hwl x hx]
    rfl
   have hq:=VP V nO ho hO hTA eF zbf CX (by omega);clear hg hwl eF;go_enter Tryz.func111,Tryz.ntmps111;go_wp2_with(go_at_call 140;refine hq.mono ?_;intro x w2 lQ;obtain⟨rfl,lQ⟩:=lQ)
   go_end0
   exact fE.box ⟨rfl,by unfold kH;exact lQ⟩
  rw[if_neg k4]at hg
  by_cases k5:k=5
  ·subst k5;rw[if_pos rfl]at hg;simp only[Bool.and_eq_true,decide_eq_true_eq]at hg;obtain⟨⟨fG,Ao,_⟩,hg⟩:=hg;have eF:l.all (qV d)=true:=by
    rw[List.all_eq_true]at hg hwl ⊢;intro x hx;unfold qV;rw[hg x hx,hwl x hx]
    rfl
   have hq:=R7 V nO ho hO hTA eF Ao fG zd0 zbf CX (by omega);clear hg hwl eF Ao;have NR:Hid (ks.length=l.length):=fG;clear fG;go_enter Tryz.func111,Tryz.ntmps111;go_wp2_with(go_at_call 141;refine hq.mono ?_;intro x w2 lQ;obtain⟨rfl,lQ⟩:=lQ)
   go_end0
   exact fE.box ⟨rfl,by unfold kH;exact lQ⟩
  rw[if_neg k5]at hg
  cases hg
theorem writes:∀d,uC d
 | 0=>DN
 | d+1=>DR (writes d)
theorem vQ(s:ByteArray)(w:World)(hs:s.size<=1000000000):Calls Tryz.prog 158 #[.string s] w fun x w'=>x=.returned (.bool (letters s))/\Below w.heap.size w w':=by
 have sa:=LQ s w hs
 cases ny:gY (ints s)with
 | none=>
  have HL:Hid (letters s=true):=by show letters s=true;unfold letters;rw[ny];rfl
  rw[ny]at sa;go_enter Tryz.func158,Tryz.ntmps158;go_wp2_with(go_at_call 176;refine sa.mono ?_;rintro x w1 ⟨rfl,pos,rfl⟩);go_ret;exact⟨ai HL.out.symm,(Below.refl _ _).alloc (Nat.le_refl _) _⟩
 | some p=>
  have HL:Hid (letters s=false):=by show letters s=false;unfold letters;rw[ny];rfl
  rw[ny]at sa;go_enter Tryz.func158,Tryz.ntmps158;go_wp2_with(go_at_call 176;refine sa.mono ?_;rintro x w1 ⟨rfl,pos,rfl⟩);go_ret;exact⟨ai HL.out.symm,(Below.refl _ _).alloc (Nat.le_refl _) _⟩
theorem Kk{t:ByteArray}:(t.toList== [])=decide (t.size=0):=by
 rw[Lib.toList_data,Bool.eq_iff_iff];simp only[beq_iff_eq,decide_eq_true_eq]
 constructor
 ·intro h
  show t.data.size=0
  rw[<-Array.length_toList,h];rfl
 ·intro h;exact List.eq_nil_of_length_eq_zero (by rw[Array.length_toList];exact h)
def aZ(k i:Int)(t:ByteArray)(nk nl:Nat):Bool:=(decide (i=0) || decide (k=1) || decide (k=2))&&(decide (t.size=0) || decide (k=3))&&(decide (nk=0) || decide (k=5))&&(decide (nl=0) || decide (k=4) || decide (k=5))
theorem OZ(k i:Int)(t:ByteArray)(pk pl:Option Addr)(nk ck nl cl:Nat)(w:World):
    Calls Tryz.prog 157 #[.agg #[.int .i64 k,.int .i64 i,.string t,.slice pk nk ck,.slice pl nl cl]] w fun x w'=>x=.returned (.bool (aZ k i t nk nl))/\Below w.heap.size w w':=by
 have hn:=Kk (t:=t)
 by_cases h1:i=0
 ·subst h1
  by_cases h2:t.size=0
  ·rw[decide_eq_true h2]at hn
   by_cases h3:nk=0
   ·subst h3
    by_cases h4:nl=0
    ·subst h4;have HB:Hid (aZ k 0 t 0 0=true):=by show _=_;unfold aZ;simp[*]
     go_enter Tryz.func157,Tryz.ntmps157;go_wp2;go_ret;refine⟨ai ?_,(Below.refl _ _).alloc (Nat.le_refl _) _⟩
     first| exact HB.out.symm| (rw[HB.out];simp;omega)
    ·skip
     by_cases a1:k=4
     ·subst a1;have HB:Hid (aZ 4 0 t 0 nl=true):=by show _=_;unfold aZ;simp[*]
      go_enter Tryz.func157,Tryz.ntmps157;go_wp2;go_ret;refine⟨ai ?_,(Below.refl _ _).alloc (Nat.le_refl _) _⟩
      first| exact HB.out.symm| (rw[HB.out];simp;omega)
     ·skip
      by_cases a2:k=5
      ·subst a2;have HB:Hid (aZ 5 0 t 0 nl=true):=by show _=_;unfold aZ;simp[*]
       go_enter Tryz.func157,Tryz.ntmps157;go_wp2;go_ret;refine⟨ai ?_,(Below.refl _ _).alloc (Nat.le_refl _) _⟩
       first| exact HB.out.symm| (rw[HB.out];simp;omega)
      ·skip
       have HB:Hid (aZ k 0 t 0 nl=false):=by show _=_;unfold aZ;simp[*]
       go_enter Tryz.func157,Tryz.ntmps157;go_wp2;go_ret;refine⟨ai ?_,(Below.refl _ _).alloc (Nat.le_refl _) _⟩
       first| exact HB.out.symm| (rw[HB.out];simp;omega)
   ·have h3p:0<nk:=by omega
    by_cases a3:k=5
    ·subst a3
     by_cases h4:nl=0
     ·subst h4;have HB:Hid (aZ 5 0 t nk 0=true):=by show _=_;unfold aZ;simp[*]
      go_enter Tryz.func157,Tryz.ntmps157;go_wp2;go_ret;refine⟨ai ?_,(Below.refl _ _).alloc (Nat.le_refl _) _⟩
      first| exact HB.out.symm| (rw[HB.out];simp;omega)
     ·skip
      have HB:Hid (aZ 5 0 t nk nl=true):=by show _=_;unfold aZ;simp[*]
      go_enter Tryz.func157,Tryz.ntmps157;go_wp2;go_ret;refine⟨ai ?_,(Below.refl _ _).alloc (Nat.le_refl _) _⟩
      first| exact HB.out.symm| (rw[HB.out];simp;omega)
    ·skip
     have HB:Hid (aZ k 0 t nk nl=false):=by show _=_;unfold aZ;simp[*]
     go_enter Tryz.func157,Tryz.ntmps157;go_wp2;go_ret;refine⟨ai ?_,(Below.refl _ _).alloc (Nat.le_refl _) _⟩
     first| exact HB.out.symm| (rw[HB.out];simp;omega)
  ·rw[decide_eq_false h2]at hn
   by_cases a4:k=3
   ·subst a4
    by_cases h3:nk=0
    ·subst h3
     by_cases h4:nl=0
     ·subst h4;have HB:Hid (aZ 3 0 t 0 0=true):=by show _=_;unfold aZ;simp[*]
      go_enter Tryz.func157,Tryz.ntmps157;go_wp2;go_ret;refine⟨ai ?_,(Below.refl _ _).alloc (Nat.le_refl _) _⟩
      first| exact HB.out.symm| (rw[HB.out];simp;omega)
     ·skip
      have HB:Hid (aZ 3 0 t 0 nl=false):=by show _=_;unfold aZ;simp[*]
      go_enter Tryz.func157,Tryz.ntmps157;go_wp2;go_ret;refine⟨ai ?_,(Below.refl _ _).alloc (Nat.le_refl _) _⟩
      first| exact HB.out.symm| (rw[HB.out];simp;omega)
    ·have h3p:0<nk:=by omega
     have HB:Hid (aZ 3 0 t nk nl=false):=by show _=_;unfold aZ;simp[*]
     go_enter Tryz.func157,Tryz.ntmps157;go_wp2;go_ret;refine⟨ai ?_,(Below.refl _ _).alloc (Nat.le_refl _) _⟩
     first| exact HB.out.symm| (rw[HB.out];simp;omega)
   ·skip
    have HB:Hid (aZ k 0 t nk nl=false):=by show _=_;unfold aZ;simp[*]
    go_enter Tryz.func157,Tryz.ntmps157;go_wp2;go_ret;refine⟨ai ?_,(Below.refl _ _).alloc (Nat.le_refl _) _⟩
    first| exact HB.out.symm| (rw[HB.out];simp;omega)
 ·skip
  by_cases a5:k=1
  ·subst a5
   by_cases h2:t.size=0
   ·rw[decide_eq_true h2]at hn
    by_cases h3:nk=0
    ·subst h3
     by_cases h4:nl=0
     ·subst h4;have HB:Hid (aZ 1 i t 0 0=true):=by show _=_;unfold aZ;simp[*]
      go_enter Tryz.func157,Tryz.ntmps157;go_wp2;go_ret;refine⟨ai ?_,(Below.refl _ _).alloc (Nat.le_refl _) _⟩
      first| exact HB.out.symm| (rw[HB.out];simp;omega)
     ·skip
      have HB:Hid (aZ 1 i t 0 nl=false):=by show _=_;unfold aZ;simp[*]
      go_enter Tryz.func157,Tryz.ntmps157;go_wp2;go_ret;refine⟨ai ?_,(Below.refl _ _).alloc (Nat.le_refl _) _⟩
      first| exact HB.out.symm| (rw[HB.out];simp;omega)
    ·have h3p:0<nk:=by omega
     have HB:Hid (aZ 1 i t nk nl=false):=by show _=_;unfold aZ;simp[*]
     go_enter Tryz.func157,Tryz.ntmps157;go_wp2;go_ret;refine⟨ai ?_,(Below.refl _ _).alloc (Nat.le_refl _) _⟩
     first| exact HB.out.symm| (rw[HB.out];simp;omega)
   ·rw[decide_eq_false h2]at hn;have HB:Hid (aZ 1 i t nk nl=false):=by show _=_;unfold aZ;simp[*]
    go_enter Tryz.func157,Tryz.ntmps157;go_wp2;go_ret;refine⟨ai ?_,(Below.refl _ _).alloc (Nat.le_refl _) _⟩
    first| exact HB.out.symm| (rw[HB.out];simp;omega)
  ·skip
   by_cases a6:k=2
   ·subst a6
    by_cases h2:t.size=0
    ·rw[decide_eq_true h2]at hn
     by_cases h3:nk=0
     ·subst h3
      by_cases h4:nl=0
      ·subst h4;have HB:Hid (aZ 2 i t 0 0=true):=by show _=_;unfold aZ;simp[*]
       go_enter Tryz.func157,Tryz.ntmps157;go_wp2;go_ret;refine⟨ai ?_,(Below.refl _ _).alloc (Nat.le_refl _) _⟩
       first| exact HB.out.symm| (rw[HB.out];simp;omega)
      ·skip
       have HB:Hid (aZ 2 i t 0 nl=false):=by show _=_;unfold aZ;simp[*]
       go_enter Tryz.func157,Tryz.ntmps157;go_wp2;go_ret;refine⟨ai ?_,(Below.refl _ _).alloc (Nat.le_refl _) _⟩
       first| exact HB.out.symm| (rw[HB.out];simp;omega)
     ·have h3p:0<nk:=by omega
      have HB:Hid (aZ 2 i t nk nl=false):=by show _=_;unfold aZ;simp[*]
      go_enter Tryz.func157,Tryz.ntmps157;go_wp2;go_ret;refine⟨ai ?_,(Below.refl _ _).alloc (Nat.le_refl _) _⟩
      first| exact HB.out.symm| (rw[HB.out];simp;omega)
    ·rw[decide_eq_false h2]at hn;have HB:Hid (aZ 2 i t nk nl=false):=by show _=_;unfold aZ;simp[*]
     go_enter Tryz.func157,Tryz.ntmps157;go_wp2;go_ret;refine⟨ai ?_,(Below.refl _ _).alloc (Nat.le_refl _) _⟩
     first| exact HB.out.symm| (rw[HB.out];simp;omega)
   ·skip
    have b1:(i !=0)=true:=by simp[h1]
    have b2:(k !=1)=true:=by simp[*]
    have b3:(k !=2)=true:=by simp[*]
    have HB:Hid (aZ k i t nk nl=false):=by show _=_;unfold aZ;simp[*]
    go_enter Tryz.func157,Tryz.ntmps157;go_wp2;go_ret;refine⟨ai ?_,(Below.refl _ _).alloc (Nat.le_refl _) _⟩
    first| exact HB.out.symm| (rw[HB.out];simp;omega)
end Go.Proofs.YtldegjjaknelgaaGreatDoor

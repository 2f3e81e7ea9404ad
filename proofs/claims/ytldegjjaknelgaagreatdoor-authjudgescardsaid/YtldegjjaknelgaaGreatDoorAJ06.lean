/- A part. -/
import Derived.Test.YtldegjjaknelgaaGreatDoorAJ05
import Derived.Lib.AppendStr
import Derived.Stop.FmtQuoteTie
import Derived.Lib.OthersKept
import Derived.Lib.AppendIntMem
import Derived.Lib.ItoaLen
set_option maxRecDepth 100000
set_option maxHeartbeats 64000000
namespace Go.Proofs.YtldegjjaknelgaaGreatDoor
open Go.RowKit
def QJ(s:ByteArray)(i:Nat):Bool:=decide (aB (ints s) i=239/\aB (ints s) (i+1)=191/\aB (ints s) (i+2)=189)
theorem IG{l:List UInt8}{n:Nat}(h:n+3<=l.length):(l.drop n).take 3= [l[n],l[n+1],l[n+2]]:=by
 rw[List.drop_eq_getElem_cons (by omega),List.drop_eq_getElem_cons (i:=n+1) (by omega),List.drop_eq_getElem_cons (i:=n+2) (by omega)]
 rfl
theorem CV(a:UInt8)(n:Nat)(hn:n<256):((a.toNat:Int)=(n:Int))↔a=UInt8.ofNat n:=by
 constructor
 ·intro h
  apply UInt8.toNat_inj.1
  have:a.toNat=n:=by omega
  rw[this];simp;omega
 ·intro h;subst h;simp;omega
theorem Yy(s:ByteArray)(i:Nat):decide ((s.data.toList.drop i).take 3= [239,191,189])=QJ s i:=by
 unfold QJ;rw[decide_eq_decide];have hl:s.data.toList.length=s.size:=by simp
 by_cases h:i+3<=s.size
 ·rw[IG (by omega),CR s i (by omega),CR s (i+1) (by omega),CR s (i+2) (by omega)];have e1:=CV s[i] 239 (by omega);have e2:=CV s[i+1] 191 (by omega);have e3:=CV s[i+2] 189 (by omega);have g:∀k (hk:k<s.size),s.data.toList[k]'(by omega)=s[k]:=fun k hk=>by simp[ByteArray.getElem_eq_getElem_data]
  rw[g i (by omega),g (i+1) (by omega),g (i+2) (by omega)];simp only[List.cons.injEq,and_true];exact and_congr e1.symm (and_congr e2.symm e3.symm)
 ·constructor
  ·intro h';have:=congrArg List.length h';simp at this;omega
  ·intro h';have:=lF s (i+2) (by omega);omega
theorem QK(s:ByteArray)(i:Nat):(((s.extract i s.size).extract 0 3).toList== [239,191,189])=QJ s i:=by
 rw[<-Yy,Lib.toList_data,ByteArray.data_extract,Array.toList_extract,ByteArray.data_extract,Array.toList_extract];simp only[List.extract_eq_take_drop,List.drop_zero,Nat.sub_zero];have:(s.data.toList.drop i).take (s.size - i)=s.data.toList.drop i:=List.take_of_length_le (by simp);rw[this,Bool.eq_iff_iff];simp only[beq_iff_eq,decide_eq_true_eq]
theorem QL(s:ByteArray)(i:Nat)(w:World)(hi:i<=s.size)(hs:s.size<=1000000000):
    Calls Tryz.prog 92 #[.string (s.extract i s.size),.string ⟨#[239,191,189]⟩] w fun e w'=>e=.returned (.bool (QJ s i))/\w=w':=by
 have h1:=QK s i;have hu:(s.extract i s.size).size=s.size - i:=by simp
 by_cases h:i+3<=s.size
 ·obtain⟨u,hu'⟩:∃u,s.extract i s.size=u:=⟨_,rfl⟩;rw[hu']at h1 hu ⊢;have hu1:3<=u.size:=by omega
  have ET:u.size<=1000000000:=by omega
  clear hu hu'
  cases hb:QJ s i
  all_goals
   rw[hb]at h1;go_enter Tryz.func92,Tryz.ntmps92;go_wp2;go_ret;exact⟨rfl,rfl⟩
 ·have hF:QJ s i=false:=by
    unfold QJ
    apply decide_eq_false
    intro h';have:=lF s (i+2) (by omega);omega
  rw[hF];obtain⟨u,hu'⟩:∃u,s.extract i s.size=u:=⟨_,rfl⟩;rw[hu']at h1 hu ⊢;have hu1:u.size<3:=by omega
  clear hu hu' h1;go_enter Tryz.func92,Tryz.ntmps92;go_wp2;go_ret;exact⟨rfl,rfl⟩
theorem zi(s:ByteArray)(i:Nat)(w:World)(hi:i<=s.size)(hs:s.size<=1000000000):
    Calls Tryz.prog 58 #[.string (s.extract i s.size),.string ⟨#[239,191,189]⟩] w fun e w'=>e=.returned (.bool (QJ s i))/\w=w':=by
 go_enter Tryz.func58,Tryz.ntmps58;go_wp2_with(go_at_call 92;refine(QL s i _ hi hs).mono ?_;rintro x w' ⟨rfl,rfl⟩);go_ret;exact⟨rfl,rfl⟩
def NV(r:Option Nat)(x:Ending):Prop:=match r with
 | none=>x=.returned (.tuple #[.int .i64 0,.bool false])
 | some p=>x=.returned (.tuple #[.int .i64 p,.bool true])
theorem NW(s:ByteArray)(w:World)(hs:s.size<=1000000000):
    Calls Tryz.prog 176 #[.string s] w fun x w'=>NV (iO (ints s)) x/\∃pos,w'=w.iter s pos:=by
 go_enter Tryz.func176,Tryz.ntmps176;go_wp2
 go_loopw [4] (fun _ wr=>∃(pos m:Nat),wr=w.iter s pos/\strayL (ints s) m pos=iO (ints s)/\s.size<=pos+m) (fun _ wr=>s.size - wr.iterPos w.heap.size)
 case atStart=>exact⟨0,s.size,rfl,by unfold iO;rw[aM],by omega⟩
 case round=>
  obtain⟨pos,m,rfl,hc,hb⟩:=hrel;have HC:Hid (strayL (ints s) m pos=iO (ints s)):=hc;clear hc
  by_cases hp:pos<s.size
  ·have El:∀ty,(Instr.next (.pointer (some ⟨w.heap.size,0,none⟩)) true ty).run Tryz.prog (w.iter s pos)=_:=fun ty=>run_next_any w s pos ty hp;have pJ:=p9 s pos;obtain⟨m,rfl⟩:∃m',m=m'+1:=⟨m - 1,by omega⟩;unfold strayL at HC;rw[aM,if_pos hp]at HC
   by_cases h0:(bN (ints s) pos).2=0
   ·rw[if_pos h0]at HC pJ;have hF:QJ s pos=false:=by
     unfold QJ
     apply decide_eq_false
     rintro⟨a,b,c⟩;rw[Bw _ _ a b c]at h0
     cases h0
    have pf:=fun w'=>zi s pos w' (by omega) hs;rw[hF]at pf;rw[pJ]at El;go_wp2_with(go_at_call 58;refine(pf _).mono ?_;rintro x w' ⟨rfl,rfl⟩);go_ret2;rw[<-HC.out];exact⟨rfl,_,rfl⟩
   ·rw[if_neg h0]at HC pJ;have II:=yM (ints s) pos
    by_cases hr:(bN (ints s) pos).1=65533
    ·have hF:QJ s pos=true:=decide_eq_true (Mi (ints s) pos (ou s) h0 hr);have pf:=fun w'=>zi s pos w' (by omega) hs;rw[hF]at pf;rw[hr]at pJ;rw[pJ]at El;obtain⟨wd,WW⟩:∃wd,(bN (ints s) pos).2=wd:=⟨_,rfl⟩;rw[WW]at El HC h0 II;clear pJ WW;go_wp2_with(go_at_call 58;refine(pf _).mono ?_;rintro x w' ⟨rfl,rfl⟩);go_roundw
     case rel=>exact⟨pos+wd,m,rfl,HC.out,by omega⟩
     case measure=>simp;omega
    ·obtain⟨c,hcn⟩:∃c,(bN (ints s) pos).1.toNat=c:=⟨_,rfl⟩;have x_:(c:Int)≠65533:=by omega
     rw[hcn]at pJ;rw[pJ]at El;obtain⟨wd,WW⟩:∃wd,(bN (ints s) pos).2=wd:=⟨_,rfl⟩;rw[WW]at El HC h0 II;clear pJ WW hcn;go_wp2;go_roundw
     case rel=>exact⟨pos+wd,m,rfl,HC.out,by omega⟩
     case measure=>simp;omega
  ·have El:∀ty,(Instr.next (.pointer (some ⟨w.heap.size,0,none⟩)) true ty).run Tryz.prog (w.iter s pos)=_:=fun ty=>run_next_end w s pos ty hp;go_wp2;go_ret2;have hn:strayL (ints s) m pos=none:=by
    cases m with
    | zero=>rfl
    | succ m=>unfold strayL;rw[aM,if_neg hp]
   rw[<-HC.out,hn];exact⟨rfl,_,rfl⟩
structure NB(B K:Nat)(w w':World):Prop where
 os:w'.os=w.os
 tape:w'.tape=w.tape
 output:w'.output=w.output
 size:w.heap.size<=w'.heap.size
 block:∀k,k<w.heap.size->k≠K->(k<B\/ ∀cur fr,w.heap[k]?≠some (.cells cur 5 fr))->w'.heap[k]?=w.heap[k]?
theorem NB.refl(B K:Nat)(w:World):NB B K w w:=⟨rfl,rfl,rfl,Nat.le_refl _,fun _ _ _ _=>rfl⟩
theorem NB.trans{B K:Nat}{a b c:World}(h:NB B K a b)(g:NB B K b c):NB B K a c:=
 ⟨g.os.trans h.os,g.tape.trans h.tape,g.output.trans h.output,Nat.le_trans h.size g.size,fun k hk hn hs=>by
  have e:=h.block k hk hn hs;exact(g.block k (Nat.lt_of_lt_of_le hk h.size) hn (hs.imp id fun h' cur fr=>by rw[e];exact h' cur fr)).trans e⟩
theorem NB.alloc{B K:Nat}{a b:World}(h:NB B K a b)(o:Obj):NB B K a (b.alloc o):=
 h.trans ⟨rfl,rfl,rfl,by simp,fun k hk _ _=>Below.heap_alloc _ _ _ hk⟩
theorem NB.jo{B K:Nat}{a b:World}(h:ay (One K) a b):NB B K a b:=⟨h.os,h.tape,h.output,h.size,fun k hk hn _=>h.block k hk hn⟩
theorem NB.below{B K:Nat}{a b:World}(h:NB B K a b)(hK:K<=B)(hB:K<=a.heap.size):Below K a b:=⟨h.os,h.tape,h.output,h.size,fun k hk=>h.block k (by omega) (by omega) (.inl (by omega))⟩
structure AB(w:World)(B K:Nat)(out:List Int):Prop where
 row:∃v,w.heap[K]?=some (.cells #[v] 127 (0,0))/\w.ownsRow B 5 1 v out.length (out.map (Value.int .u8))
 lt:K<B
 size:B<=w.heap.size
theorem BL{w:World}{B n:Nat}{v:Value}{xs:List Value}(h:w.ownsRow B 5 1 v n xs):∀k,v.ownBlock=some k->B<=k/\∃cur fr,w.heap[k]?=some (.cells cur 5 fr):=by
 intro k hk
 rcases h.2 with⟨rfl,_⟩| ⟨g,cap,cur,rfl,hg,yK,_⟩
 ·cases hk
 ·cases hk;exact⟨hg,cur,_,yK⟩
theorem AB.alloc{w:World}{B K:Nat}{out:List Int}(h:AB w B K out)(o:Obj):AB (w.alloc o) B K out:=by
 obtain⟨v,h1,h2⟩:=h.row;have:=h.lt;have:=h.size;exact⟨⟨v,by rw[Below.heap_alloc _ _ _ (by omega)];exact h1,h2.alloc o⟩,h.lt,by simp;omega⟩
theorem CW{w:World}{K:Nat}{v:Value}{t:TypeId}(h:w.heap[K]?=some (.cells #[v] t (0,0))):w.cell? ⟨K,0,none⟩=some v:=bB (cur:= [_]) h 0 _ rfl
def f_(w w':World)(B K:Nat)(out s:List Int)(x:Ending):Prop:=x=.returned (.tuple #[])/\(∃sI,Et out s sI/\sI.length<=20000/\AB w' B K sI)/\NB B K w w'
theorem zk{w:World}{B K:Nat}{out:List Int}(h:AB w B K out):
    Calls Tryz.prog 113 #[.pointer (some ⟨K,0,none⟩)] w fun x w'=>x=.returned (.bool (decide (16384<out.length)))/\w=w':=by
 obtain⟨v,h1,h2⟩:=h.row;obtain⟨q,c,rfl,_⟩:∃q c,v=.slice q out.length c/\True:=by
  rcases h2.2 with⟨rfl,hn⟩| ⟨g,cap,cur,rfl,_⟩
  ·exact⟨none,0,by rw[hn],trivial⟩
  ·exact⟨_,_,rfl,trivial⟩
 have c0:=CW h1;obtain⟨n,hn⟩:∃n,out.length=n:=⟨_,rfl⟩;rw[hn]at c0 ⊢;go_enter Tryz.func113,Tryz.ntmps113;go_wp2;go_ret;refine⟨aj ?_,rfl⟩;rw[decide_eq_decide];omega
theorem A8(s:ByteArray):Lib.strCells s=(ints s).map (Value.int .u8):=by
 unfold Lib.strCells ints;simp
theorem iF{w:World}{B K:Nat}{out:List Int}(h:AB w B K out)(ho:out.length<=20000)(s:ByteArray)(hs:s.size<=100):
    Calls Tryz.prog 136 #[.pointer (some ⟨K,0,none⟩),.string s] w fun x w'=>f_ w w' B K out (ints s) x:=by
 have hl:=zk h;have hP:=Et.one out (ints s)
 by_cases nJ:16384<out.length
 ·rw[decide_eq_true nJ]at hl;rw[if_pos nJ]at hP;go_enter Tryz.func136,Tryz.ntmps136;go_wp2_with(go_at_call 113;refine hl.mono ?_;rintro x w' ⟨rfl,rfl⟩)
  go_end0
  exact⟨rfl,⟨out,hP,ho,h⟩,NB.refl _ _ _⟩
 ·rw[decide_eq_false nJ]at hl;rw[if_neg nJ]at hP;obtain⟨v,h1,h2⟩:=h.row;have c0:=CW h1;have hB:=h.size;have bQ:=h.lt;obtain⟨i0,hi,rC,pR,nC⟩:=info_parts Tryz.Ml;go_enter Tryz.func136,Tryz.ntmps136;go_wp2_with(first
   | (go_at_call 113;refine hl.mono ?_;rintro x w' ⟨rfl,rfl⟩)
   | (at_builtin;refine Lib.wpList_append_own_string _ rfl _ _ 80 9 rfl B 5 i0 Tryz.underlying80 Tryz.underlying9 hi rC pR nC _ _ _ rfl h2 s rfl ?c3 ?c4 ?c5 ?_
      case c3=>unfold maxLen;omega
      case c4=>omega
      case c5=>exact hB
      intro v' w2 aN hg _;have qc:=BL h2;have P7:w2.heap[K]?=some (.cells #[v] 127 (0,0)):=by
       rw[hg.block K (by omega) (fun e=>by have:=(qc K e.symm).1;omega)];exact h1
      have d0:=CW P7;have z0:w2.frozen? ⟨K,0,none⟩=false:=frozen_of_row w2 K 0 _ _ P7;obtain⟨q5,n5,c5,hE5⟩:=qP aN;subst hE5))
  go_end0
  have K3:ay (One K) w2 (w2.setCell ⟨K,0,none⟩ (.slice q5 n5 c5)):=ay.setCell (ay.refl _ _) (fun _=>(rfl:K=K)) _;refine⟨rfl,⟨out++ints s,hP,by rw[List.length_append,aM];omega,⟨⟨_,by rw[heap_setCell_same _ K 0 _ _ _ P7];rfl, ?_⟩,bQ, ?_⟩⟩, ?_⟩
  ·rw[List.length_append,aM,List.map_append,<-A8];exact bf aN K3 fun k e=>by have:=(BL aN k e).1;unfold One;omega
  ·have:=hg.size;simp;omega
  ·refine NB.trans (b:=w2) ⟨hg.os,hg.tape,hg.output,hg.size,fun k hk hn hs'=>hg.block k hk fun e=> ?_⟩ (NB.jo K3);obtain⟨e1,cur,fr,e2⟩:=qc k e.symm
   rcases hs' with h'| h'
   ·omega
   ·exact h' cur fr e2
theorem BM{w:World}{B K:Nat}{out:List Int}(hw:AB w B K out)(ho:out.length<=20000)(i:Nat)(hi:i<=1000000):
    Calls Tryz.prog 164 #[.pointer (some ⟨K,0,none⟩),.int .i64 i] w fun x w'=>f_ w w' B K out (if i=0 then []else [44]) x:=by
 by_cases h0:i=0
 ·subst h0;go_enter Tryz.func164,Tryz.ntmps164;go_wp2
  go_end0
  exact⟨rfl,⟨out,Et.nil _,ho,hw⟩,NB.refl _ _ _⟩
 ·have hp:0<i:=by omega
  have CX:=iF hw ho ⟨#[44]⟩ (by decide);rw[if_neg h0];go_enter Tryz.func164,Tryz.ntmps164;go_wp2_with(go_at_call 136;refine CX.mono ?_;rintro x w2 ⟨rfl,mX⟩)
  go_end0
  exact⟨rfl,mX⟩
def escRune(l:Int):List Int:=if l<128 then bu l else Lib.encodeRuneZ l
theorem NY(w:World):Calls Tryz.prog 163 #[.int .i32 0] w fun x w'=>x=.returned (.string (strOfNums (bu 0)))/\ay (fun _=>False) w w':=by
 have hb:bits .and .i32 0 15=0:=by kernel_rfl
 go_enter Tryz.func163,Tryz.ntmps163;go_wp2;go_quiet (fail);go_wp2;go_ret;exact⟨by kernel_rfl,(ay.refl _ _).drewN _⟩
theorem NZ(w:World):Calls Tryz.prog 163 #[.int .i32 1] w fun x w'=>x=.returned (.string (strOfNums (bu 1)))/\ay (fun _=>False) w w':=by
 have hb:bits .and .i32 1 15=1:=by kernel_rfl
 go_enter Tryz.func163,Tryz.ntmps163;go_wp2;go_quiet (fail);go_wp2;go_ret;exact⟨by kernel_rfl,(ay.refl _ _).drewN _⟩
theorem N7(w:World):Calls Tryz.prog 163 #[.int .i32 2] w fun x w'=>x=.returned (.string (strOfNums (bu 2)))/\ay (fun _=>False) w w':=by
 have hb:bits .and .i32 2 15=2:=by kernel_rfl
 go_enter Tryz.func163,Tryz.ntmps163;go_wp2;go_quiet (fail);go_wp2;go_ret;exact⟨by kernel_rfl,(ay.refl _ _).drewN _⟩
theorem N8(w:World):Calls Tryz.prog 163 #[.int .i32 3] w fun x w'=>x=.returned (.string (strOfNums (bu 3)))/\ay (fun _=>False) w w':=by
 have hb:bits .and .i32 3 15=3:=by kernel_rfl
 go_enter Tryz.func163,Tryz.ntmps163;go_wp2;go_quiet (fail);go_wp2;go_ret;exact⟨by kernel_rfl,(ay.refl _ _).drewN _⟩
theorem N9(w:World):Calls Tryz.prog 163 #[.int .i32 4] w fun x w'=>x=.returned (.string (strOfNums (bu 4)))/\ay (fun _=>False) w w':=by
 have hb:bits .and .i32 4 15=4:=by kernel_rfl
 go_enter Tryz.func163,Tryz.ntmps163;go_wp2;go_quiet (fail);go_wp2;go_ret;exact⟨by kernel_rfl,(ay.refl _ _).drewN _⟩
theorem N_(w:World):Calls Tryz.prog 163 #[.int .i32 5] w fun x w'=>x=.returned (.string (strOfNums (bu 5)))/\ay (fun _=>False) w w':=by
 have hb:bits .and .i32 5 15=5:=by kernel_rfl
 go_enter Tryz.func163,Tryz.ntmps163;go_wp2;go_quiet (fail);go_wp2;go_ret;exact⟨by kernel_rfl,(ay.refl _ _).drewN _⟩
theorem Oa(w:World):Calls Tryz.prog 163 #[.int .i32 6] w fun x w'=>x=.returned (.string (strOfNums (bu 6)))/\ay (fun _=>False) w w':=by
 have hb:bits .and .i32 6 15=6:=by kernel_rfl
 go_enter Tryz.func163,Tryz.ntmps163;go_wp2;go_quiet (fail);go_wp2;go_ret;exact⟨by kernel_rfl,(ay.refl _ _).drewN _⟩
theorem Ob(w:World):Calls Tryz.prog 163 #[.int .i32 7] w fun x w'=>x=.returned (.string (strOfNums (bu 7)))/\ay (fun _=>False) w w':=by
 have hb:bits .and .i32 7 15=7:=by kernel_rfl
 go_enter Tryz.func163,Tryz.ntmps163;go_wp2;go_quiet (fail);go_wp2;go_ret;exact⟨by kernel_rfl,(ay.refl _ _).drewN _⟩
theorem IJ(w:World):Calls Tryz.prog 163 #[.int .i32 11] w fun x w'=>x=.returned (.string (strOfNums (bu 11)))/\ay (fun _=>False) w w':=by
 have hb:bits .and .i32 11 15=11:=by kernel_rfl
 go_enter Tryz.func163,Tryz.ntmps163;go_wp2;go_quiet (fail);go_wp2;go_ret;exact⟨by kernel_rfl,(ay.refl _ _).drewN _⟩
theorem IK(w:World):Calls Tryz.prog 163 #[.int .i32 14] w fun x w'=>x=.returned (.string (strOfNums (bu 14)))/\ay (fun _=>False) w w':=by
 have hb:bits .and .i32 14 15=14:=by kernel_rfl
 go_enter Tryz.func163,Tryz.ntmps163;go_wp2;go_quiet (fail);go_wp2;go_ret;exact⟨by kernel_rfl,(ay.refl _ _).drewN _⟩
theorem IL(w:World):Calls Tryz.prog 163 #[.int .i32 15] w fun x w'=>x=.returned (.string (strOfNums (bu 15)))/\ay (fun _=>False) w w':=by
 have hb:bits .and .i32 15 15=15:=by kernel_rfl
 go_enter Tryz.func163,Tryz.ntmps163;go_wp2;go_quiet (fail);go_wp2;go_ret;exact⟨by kernel_rfl,(ay.refl _ _).drewN _⟩
theorem IM(w:World):Calls Tryz.prog 163 #[.int .i32 16] w fun x w'=>x=.returned (.string (strOfNums (bu 16)))/\ay (fun _=>False) w w':=by
 have hb:bits .and .i32 16 15=0:=by kernel_rfl
 go_enter Tryz.func163,Tryz.ntmps163;go_wp2;go_quiet (fail);go_wp2;go_ret;exact⟨by kernel_rfl,(ay.refl _ _).drewN _⟩
theorem IP(w:World):Calls Tryz.prog 163 #[.int .i32 17] w fun x w'=>x=.returned (.string (strOfNums (bu 17)))/\ay (fun _=>False) w w':=by
 have hb:bits .and .i32 17 15=1:=by kernel_rfl
 go_enter Tryz.func163,Tryz.ntmps163;go_wp2;go_quiet (fail);go_wp2;go_ret;exact⟨by kernel_rfl,(ay.refl _ _).drewN _⟩
theorem IQ(w:World):Calls Tryz.prog 163 #[.int .i32 18] w fun x w'=>x=.returned (.string (strOfNums (bu 18)))/\ay (fun _=>False) w w':=by
 have hb:bits .and .i32 18 15=2:=by kernel_rfl
 go_enter Tryz.func163,Tryz.ntmps163;go_wp2;go_quiet (fail);go_wp2;go_ret;exact⟨by kernel_rfl,(ay.refl _ _).drewN _⟩
theorem IU(w:World):Calls Tryz.prog 163 #[.int .i32 19] w fun x w'=>x=.returned (.string (strOfNums (bu 19)))/\ay (fun _=>False) w w':=by
 have hb:bits .and .i32 19 15=3:=by kernel_rfl
 go_enter Tryz.func163,Tryz.ntmps163;go_wp2;go_quiet (fail);go_wp2;go_ret;exact⟨by kernel_rfl,(ay.refl _ _).drewN _⟩
theorem IV(w:World):Calls Tryz.prog 163 #[.int .i32 20] w fun x w'=>x=.returned (.string (strOfNums (bu 20)))/\ay (fun _=>False) w w':=by
 have hb:bits .and .i32 20 15=4:=by kernel_rfl
 go_enter Tryz.func163,Tryz.ntmps163;go_wp2;go_quiet (fail);go_wp2;go_ret;exact⟨by kernel_rfl,(ay.refl _ _).drewN _⟩
theorem IW(w:World):Calls Tryz.prog 163 #[.int .i32 21] w fun x w'=>x=.returned (.string (strOfNums (bu 21)))/\ay (fun _=>False) w w':=by
 have hb:bits .and .i32 21 15=5:=by kernel_rfl
 go_enter Tryz.func163,Tryz.ntmps163;go_wp2;go_quiet (fail);go_wp2;go_ret;exact⟨by kernel_rfl,(ay.refl _ _).drewN _⟩
theorem IX(w:World):Calls Tryz.prog 163 #[.int .i32 22] w fun x w'=>x=.returned (.string (strOfNums (bu 22)))/\ay (fun _=>False) w w':=by
 have hb:bits .and .i32 22 15=6:=by kernel_rfl
 go_enter Tryz.func163,Tryz.ntmps163;go_wp2;go_quiet (fail);go_wp2;go_ret;exact⟨by kernel_rfl,(ay.refl _ _).drewN _⟩
theorem IY(w:World):Calls Tryz.prog 163 #[.int .i32 23] w fun x w'=>x=.returned (.string (strOfNums (bu 23)))/\ay (fun _=>False) w w':=by
 have hb:bits .and .i32 23 15=7:=by kernel_rfl
 go_enter Tryz.func163,Tryz.ntmps163;go_wp2;go_quiet (fail);go_wp2;go_ret;exact⟨by kernel_rfl,(ay.refl _ _).drewN _⟩
theorem IZ(w:World):Calls Tryz.prog 163 #[.int .i32 24] w fun x w'=>x=.returned (.string (strOfNums (bu 24)))/\ay (fun _=>False) w w':=by
 have hb:bits .and .i32 24 15=8:=by kernel_rfl
 go_enter Tryz.func163,Tryz.ntmps163;go_wp2;go_quiet (fail);go_wp2;go_ret;exact⟨by kernel_rfl,(ay.refl _ _).drewN _⟩
theorem I1(w:World):Calls Tryz.prog 163 #[.int .i32 25] w fun x w'=>x=.returned (.string (strOfNums (bu 25)))/\ay (fun _=>False) w w':=by
 have hb:bits .and .i32 25 15=9:=by kernel_rfl
 go_enter Tryz.func163,Tryz.ntmps163;go_wp2;go_quiet (fail);go_wp2;go_ret;exact⟨by kernel_rfl,(ay.refl _ _).drewN _⟩
theorem I4(w:World):Calls Tryz.prog 163 #[.int .i32 26] w fun x w'=>x=.returned (.string (strOfNums (bu 26)))/\ay (fun _=>False) w w':=by
 have hb:bits .and .i32 26 15=10:=by kernel_rfl
 go_enter Tryz.func163,Tryz.ntmps163;go_wp2;go_quiet (fail);go_wp2;go_ret;exact⟨by kernel_rfl,(ay.refl _ _).drewN _⟩
theorem I5(w:World):Calls Tryz.prog 163 #[.int .i32 27] w fun x w'=>x=.returned (.string (strOfNums (bu 27)))/\ay (fun _=>False) w w':=by
 have hb:bits .and .i32 27 15=11:=by kernel_rfl
 go_enter Tryz.func163,Tryz.ntmps163;go_wp2;go_quiet (fail);go_wp2;go_ret;exact⟨by kernel_rfl,(ay.refl _ _).drewN _⟩
theorem I6(w:World):Calls Tryz.prog 163 #[.int .i32 28] w fun x w'=>x=.returned (.string (strOfNums (bu 28)))/\ay (fun _=>False) w w':=by
 have hb:bits .and .i32 28 15=12:=by kernel_rfl
 go_enter Tryz.func163,Tryz.ntmps163;go_wp2;go_quiet (fail);go_wp2;go_ret;exact⟨by kernel_rfl,(ay.refl _ _).drewN _⟩
theorem I7(w:World):Calls Tryz.prog 163 #[.int .i32 29] w fun x w'=>x=.returned (.string (strOfNums (bu 29)))/\ay (fun _=>False) w w':=by
 have hb:bits .and .i32 29 15=13:=by kernel_rfl
 go_enter Tryz.func163,Tryz.ntmps163;go_wp2;go_quiet (fail);go_wp2;go_ret;exact⟨by kernel_rfl,(ay.refl _ _).drewN _⟩
theorem I8(w:World):Calls Tryz.prog 163 #[.int .i32 30] w fun x w'=>x=.returned (.string (strOfNums (bu 30)))/\ay (fun _=>False) w w':=by
 have hb:bits .and .i32 30 15=14:=by kernel_rfl
 go_enter Tryz.func163,Tryz.ntmps163;go_wp2;go_quiet (fail);go_wp2;go_ret;exact⟨by kernel_rfl,(ay.refl _ _).drewN _⟩
theorem I9(w:World):Calls Tryz.prog 163 #[.int .i32 31] w fun x w'=>x=.returned (.string (strOfNums (bu 31)))/\ay (fun _=>False) w w':=by
 have hb:bits .and .i32 31 15=15:=by kernel_rfl
 go_enter Tryz.func163,Tryz.ntmps163;go_wp2;go_quiet (fail);go_wp2;go_ret;exact⟨by kernel_rfl,(ay.refl _ _).drewN _⟩
theorem I_(w:World):Calls Tryz.prog 163 #[.int .i32 34] w fun x w'=>x=.returned (.string (strOfNums (bu 34)))/\ay (fun _=>False) w w':=by
 go_enter Tryz.func163,Tryz.ntmps163;go_wp2;go_ret;exact⟨by kernel_rfl,ay.refl _ _⟩
theorem Ja(w:World):Calls Tryz.prog 163 #[.int .i32 92] w fun x w'=>x=.returned (.string (strOfNums (bu 92)))/\ay (fun _=>False) w w':=by
 go_enter Tryz.func163,Tryz.ntmps163;go_wp2;go_ret;exact⟨by kernel_rfl,ay.refl _ _⟩
theorem Oc(w:World):Calls Tryz.prog 163 #[.int .i32 8] w fun x w'=>x=.returned (.string (strOfNums (bu 8)))/\ay (fun _=>False) w w':=by
 go_enter Tryz.func163,Tryz.ntmps163;go_wp2;go_ret;exact⟨by kernel_rfl,ay.refl _ _⟩
theorem Od(w:World):Calls Tryz.prog 163 #[.int .i32 9] w fun x w'=>x=.returned (.string (strOfNums (bu 9)))/\ay (fun _=>False) w w':=by
 go_enter Tryz.func163,Tryz.ntmps163;go_wp2;go_ret;exact⟨by kernel_rfl,ay.refl _ _⟩
theorem Jb(w:World):Calls Tryz.prog 163 #[.int .i32 10] w fun x w'=>x=.returned (.string (strOfNums (bu 10)))/\ay (fun _=>False) w w':=by
 go_enter Tryz.func163,Tryz.ntmps163;go_wp2;go_ret;exact⟨by kernel_rfl,ay.refl _ _⟩
theorem Jc(w:World):Calls Tryz.prog 163 #[.int .i32 12] w fun x w'=>x=.returned (.string (strOfNums (bu 12)))/\ay (fun _=>False) w w':=by
 go_enter Tryz.func163,Tryz.ntmps163;go_wp2;go_ret;exact⟨by kernel_rfl,ay.refl _ _⟩
theorem Jd(w:World):Calls Tryz.prog 163 #[.int .i32 13] w fun x w'=>x=.returned (.string (strOfNums (bu 13)))/\ay (fun _=>False) w w':=by
 go_enter Tryz.func163,Tryz.ntmps163;go_wp2;go_ret;exact⟨by kernel_rfl,ay.refl _ _⟩
theorem Je(r:Nat):Utf8.encode (r:Int)=strOfNums (Lib.encodeRuneZ (r:Int)):=by
 rw[<-Go.Extern.FmtText.encode_eq];exact(Qh _).symm
theorem EU(l:Nat)(h:32<=l)(h1:l<=1114111)(h34:l≠34)(h92:l≠92)(w:World):Calls Tryz.prog 163 #[.int .i32 l] w fun x w'=>x=.returned (.string (strOfNums (Lib.encodeRuneZ l)))/\ay (fun _=>False) w w':=by
 have g34:(l:Int)≠34:=by omega
 have g92:(l:Int)≠92:=by omega
 go_enter Tryz.func163,Tryz.ntmps163;go_wp2;go_ret;exact⟨Ux (Je l),ay.refl _ _⟩
theorem EW(l:Nat)(h1:l<=1114111)(w:World):Calls Tryz.prog 163 #[.int .i32 l] w fun x w'=>x=.returned (.string (strOfNums (escRune l)))/\ay (fun _=>False) w w':=by
 by_cases h:l<32\/ l=34\/ l=92
 ·have e:escRune (l:Int)=bu l:=by unfold escRune;rw[if_pos (by omega)]
  rw[e];have hc:l=0\/ l=1\/ l=2\/ l=3\/ l=4\/ l=5\/ l=6\/ l=7\/ l=8\/ l=9\/ l=10\/ l=11\/ l=12\/ l=13\/ l=14\/ l=15\/ l=16\/ l=17\/ l=18\/ l=19\/ l=20\/ l=21\/ l=22\/ l=23\/ l=24\/ l=25\/ l=26\/ l=27\/ l=28\/ l=29\/ l=30\/ l=31\/ l=34\/ l=92:=by omega
  rcases hc with rfl| rfl| rfl| rfl| rfl| rfl| rfl| rfl| rfl| rfl| rfl| rfl| rfl| rfl| rfl| rfl| rfl| rfl| rfl| rfl| rfl| rfl| rfl| rfl| rfl| rfl| rfl| rfl| rfl| rfl| rfl| rfl| rfl| rfl
  ·exact NY w
  ·exact NZ w
  ·exact N7 w
  ·exact N8 w
  ·exact N9 w
  ·exact N_ w
  ·exact Oa w
  ·exact Ob w
  ·exact Oc w
  ·exact Od w
  ·exact Jb w
  ·exact IJ w
  ·exact Jc w
  ·exact Jd w
  ·exact IK w
  ·exact IL w
  ·exact IM w
  ·exact IP w
  ·exact IQ w
  ·exact IU w
  ·exact IV w
  ·exact IW w
  ·exact IX w
  ·exact IY w
  ·exact IZ w
  ·exact I1 w
  ·exact I4 w
  ·exact I5 w
  ·exact I6 w
  ·exact I7 w
  ·exact I8 w
  ·exact I9 w
  ·exact I_ w
  ·exact Ja w
 ·have e:escRune (l:Int)=Lib.encodeRuneZ l:=by
    unfold escRune
    split
    ·rw[Lib.encodeRuneZ_one (by omega) (by omega)];unfold bu;rw[if_neg (by omega),if_neg (by omega),if_neg (by omega),if_neg (by omega),if_neg (by omega),if_neg (by omega),if_neg (by omega),if_neg (by omega)]
    ·rfl
  rw[e];exact EU l (by omega) h1 (by omega) (by omega) w
theorem QM{t:List Int}{p:Nat}(h:p+1<t.length):(t.drop p).take 2= [aB t p,aB t (p+1)]:=by
 unfold aB;rw[List.drop_eq_getElem_cons (by omega),List.drop_eq_getElem_cons (i:=p+1) (by omega)];simp only[List.take_succ_cons,List.take_zero,Option.getD_some,List.getD_eq_getElem?_getD,List.getElem?_eq_getElem (show p<t.length by omega),List.getElem?_eq_getElem h]
theorem Jf{t:List Int}{p:Nat}(h:p+2<t.length):(t.drop p).take 3= [aB t p,aB t (p+1),aB t (p+2)]:=by
 unfold aB;rw[List.drop_eq_getElem_cons (by omega),List.drop_eq_getElem_cons (i:=p+1) (by omega),List.drop_eq_getElem_cons (i:=p+1+1) (by omega)];simp only[List.take_succ_cons,List.take_zero,Option.getD_some,List.getD_eq_getElem?_getD,List.getElem?_eq_getElem (show p<t.length by omega),List.getElem?_eq_getElem (show p+1<t.length by omega),List.getElem?_eq_getElem h]
theorem Oe{t:List Int}{p:Nat}(h:p+3<t.length):(t.drop p).take 4= [aB t p,aB t (p+1),aB t (p+2),aB t (p+3)]:=by
 unfold aB;rw[List.drop_eq_getElem_cons (by omega),List.drop_eq_getElem_cons (i:=p+1) (by omega),List.drop_eq_getElem_cons (i:=p+1+1) (by omega),List.drop_eq_getElem_cons (i:=p+1+1+1) (by omega)];simp only[List.take_succ_cons,List.take_zero,Option.getD_some,List.getD_eq_getElem?_getD,List.getElem?_eq_getElem (show p<t.length by omega),List.getElem?_eq_getElem (show p+1<t.length by omega),List.getElem?_eq_getElem (show p+2<t.length by omega),List.getElem?_eq_getElem h]
theorem zl(l:List Int)(h:∀c∈l,128<=c):l.flatMap bu=l:=by
 induction l with
 | nil=>rfl
 | cons a r ih=>
  have ha:=h a (List.mem_cons_self ..);rw[List.flatMap_cons,ih fun c hc=>h c (List.mem_cons_of_mem _ hc)];have:bu a= [a]:=by
   unfold bu;rw[if_neg (by omega),if_neg (by omega),if_neg (by omega),if_neg (by omega),if_neg (by omega),if_neg (by omega),if_neg (by omega),if_neg (by omega)]
  rw[this];rfl
theorem qQ{t:List Int}{i:Nat}(h:bW t i=true):i<t.length/\aB t i / 64=2:=by
 unfold bW at h;have h:=of_decide_eq_true h;exact⟨Nn (fun e=>by rw[e]at h;exact absurd h (by decide)),h⟩
theorem QN{t:List Int}{p:Nat}{c:Int}{wd:Nat}(hb:∀i,0<=aB t i/\aB t i<=255)(hp:p<t.length)(hr:bN t p=(c,wd))(h0:wd≠0):
    ((t.drop p).take wd).flatMap bu=escRune c/\p+wd<=t.length/\0<=c/\c<=1114111:=by
 have b0:=hb p;have b1:=hb (p+1);have b2:=hb (p+2);have b3:=hb (p+3);unfold bN at hr
 split at hr
 ·rename_i h1;obtain⟨rfl,rfl⟩:=Prod.mk.inj hr;refine⟨?_,by omega,by omega,by omega⟩;have e:(t.drop p).take 1= [aB t p]:=by
   unfold aB;rw[List.drop_eq_getElem_cons hp];simp only[List.take_succ_cons,List.take_zero,Option.getD_some,List.getD_eq_getElem?_getD,List.getElem?_eq_getElem hp]
  rw[e];unfold escRune;rw[if_pos h1];simp
 ·split at hr
  ·rename_i h1 h2;simp only[Bool.and_eq_true,decide_eq_true_eq]at h2;obtain⟨l1,c1⟩:=qQ h2.2
   split at hr
   ·rename_i h3;obtain⟨rfl,rfl⟩:=Prod.mk.inj hr;refine⟨?_,by omega,by omega,by omega⟩;rw[QM l1,zl _ (by intro c hc;simp at hc;omega)];unfold escRune;rw[if_neg (by omega),Lib.encodeRuneZ_two (by omega) (by omega)];simp only[List.cons.injEq,and_true];omega
   ·obtain⟨_,rfl⟩:=Prod.mk.inj hr;exact absurd rfl h0
  ·split at hr
   ·rename_i h1 h2 h3;simp only[Bool.and_eq_true,decide_eq_true_eq]at h3;obtain⟨l1,c1⟩:=qQ h3.1.2;obtain⟨l2,c2⟩:=qQ h3.2
    split at hr
    ·rename_i h4;simp only[dz,Bool.and_eq_true,Bool.or_eq_true,decide_eq_true_eq]at h4;obtain⟨rfl,rfl⟩:=Prod.mk.inj hr;refine⟨?_,by omega,by omega,by omega⟩;rw[Jf l2,zl _ (by intro c hc;simp at hc;omega)];unfold escRune;rw[if_neg (by omega),Lib.encodeRuneZ_three (by omega)];simp only[List.cons.injEq,and_true];omega
    ·obtain⟨_,rfl⟩:=Prod.mk.inj hr;exact absurd rfl h0
   ·split at hr
    ·rename_i h1 h2 h3 h4;simp only[Bool.and_eq_true,decide_eq_true_eq]at h4;obtain⟨l1,c1⟩:=qQ h4.1.1.2;obtain⟨l2,c2⟩:=qQ h4.1.2;obtain⟨l3,c3⟩:=qQ h4.2
     split at hr
     ·rename_i h5;simp only[dz,Bool.and_eq_true,Bool.or_eq_true,decide_eq_true_eq]at h5;obtain⟨rfl,rfl⟩:=Prod.mk.inj hr;refine⟨?_,by omega,by omega,by omega⟩;rw[Oe l3,zl _ (by intro c hc;simp at hc;omega)];unfold escRune;rw[if_neg (by omega),Lib.encodeRuneZ_four (by omega) (by omega)];simp only[List.cons.injEq,and_true];omega
     ·obtain⟨_,rfl⟩:=Prod.mk.inj hr;exact absurd rfl h0
    ·obtain⟨_,rfl⟩:=Prod.mk.inj hr;exact absurd rfl h0
theorem Jg{c:Int}(h:0<=c/\c<=255):(∀x∈bu c,0<=x/\x<=255)/\(bu c).length<=6:=by
 unfold bu Yc
 (repeat' split);all_goals
  refine⟨fun x hx=> ?_,by simp⟩;simp at hx;omega
theorem Jh{c:Int}(h0:0<=c):(∀x∈escRune c,0<=x/\x<=255)/\(escRune c).length<=6:=by
 unfold escRune
 split
 ·exact Jg ⟨h0,by omega⟩
 ·exact⟨fun x hx=>by have:=Lib.encodeRuneZ_byte c x hx;omega,by have:=(Lib.encodeRuneZ_length c).2;omega⟩
theorem NB.iterAt{B K:Nat}{w wr:World}(h:NB B K w wr){k:Nat}(hk:w.heap.size<=k)(s:ByteArray)(p:Nat):NB B K w (wr.iterAt k s p):=
 ⟨h.os,h.tape,h.output,by rw[Lib.iterAt_size];exact h.size,fun j hj hn hs=>by rw[Lib.iterAt_other _ _ _ _ _ (by omega)];exact h.block j hj hn hs⟩
theorem AB.iterAt{w:World}{B K k:Nat}{out:List Int}{s s':ByteArray}{p p':Nat}(h:AB w B K out)(hk:w.heap[k]?=some (.stringIter s p))(hB:B<=k):AB (w.iterAt k s' p') B K out:=by
 obtain⟨v,h1,h2⟩:=h.row;have bQ:=h.lt;refine⟨⟨v,by rw[Lib.iterAt_other _ _ _ _ _ (by omega)];exact h1,h2.1, ?_⟩,bQ,by rw[Lib.iterAt_size];exact h.size⟩
 rcases h2.2 with hn| ⟨g,cap,cur,rfl,hg,yK,rest⟩
 ·exact .inl hn
 ·refine .inr ⟨g,cap,cur,rfl,hg, ?_,rest⟩;rw[Lib.iterAt_other _ _ _ _ _ (fun e=>by rw[e,hk]at yK;cases yK)];exact yK
theorem Ji{B K k:Nat}{w w':World}{s:ByteArray}{p:Nat}(h:NB B K w w')(hk:w.heap[k]?=some (.stringIter s p))(hK:k≠K):w'.heap[k]?=some (.stringIter s p):=by
 rw[h.block k (Array.getElem?_eq_some_iff.1 hk).1 hK (.inr fun cur fr e=>by rw[hk]at e;cases e)];exact hk
theorem iterPos_of{w:World}{k:Nat}{s:ByteArray}{p:Nat}(h:w.heap[k]?=some (.stringIter s p)):w.iterPos k=p:=by simp[World.iterPos,h]
theorem AB.WX{w w':World}{B K:Nat}{out:List Int}(h:AB w B K out)(hk:ay (fun _=>False) w w'):AB w' B K out:=by
 obtain⟨v,h1,h2⟩:=h.row;have:=h.lt;have:=h.size;have:=hk.size;exact⟨⟨v,(hk.block K (by omega) fun h=>h).trans h1,bf h2 hk fun _ _ h=>h⟩,h.lt,by omega⟩
theorem Og{t:List Int}{pos wd:Nat}:t.take (pos+wd)=t.take pos++(t.drop pos).take wd:=List.take_add
theorem EX{w:World}{B K:Nat}{out:List Int}(hw:AB w B K out)(ho:out.length<=20000)(s:ByteArray)(hl:iO (ints s)=none):
    Calls Tryz.prog 139 #[.pointer (some ⟨K,0,none⟩),.string s] w fun x w'=>f_ w w' B K out (quote (ints s)) x:=by
 have hq:=iF hw ho ⟨#[34]⟩ (by decide);have WY:Hid (K<B/\B<=w.heap.size):=⟨hw.lt,hw.size⟩;go_enter Tryz.func139,Tryz.ntmps139;go_wp2_with(go_at_call 136;refine hq.mono ?_;rintro x w1 ⟨rfl,⟨QO,WZ,W_,Xa⟩,MB⟩)
 go_loopw [5] (fun _ wr=>∃(pos m:Nat) (sI:List Int),wr.heap[w1.heap.size]?=some (.stringIter s pos)/\pos<=s.size/\s.size<=pos+m/\strayL (ints s) m pos=none/\Et out (34::((ints s).take pos).flatMap bu) sI/\sI.length<=20000/\AB wr B K sI/\NB B K w wr) (fun _ wr=>s.size - wr.iterPos w1.heap.size)
 case atStart=>exact⟨0,s.size,QO,World.iter_heap w1 s 0,Nat.zero_le _,by omega,by unfold iO at hl;rw[aM]at hl;exact hl,WZ,W_,Xa.alloc _,MB.alloc _⟩
 case round=>
  obtain⟨pos,m,zdG,hit,hps,hpm,lG,CX,Jj,Xb,ES⟩:=hrel;have HN:Hid (w.heap.size<=w1.heap.size):=MB.size;clear hq hw WZ W_ Xa MB hl;have zdH:=iterPos_of hit;have Yz:=WY.out;have hNN:=HN.out
  by_cases hp:pos<s.size
  ·have El:∀ty,(Instr.next (.pointer (some ⟨w1.heap.size,0,none⟩)) true ty).run Tryz.prog wr=_:=fun ty=>Lib.run_next_any_at wr w1.heap.size s pos ty hit hp;obtain⟨m,rfl⟩:∃m',m=m'+1:=⟨m - 1,by omega⟩;unfold strayL at lG;rw[aM,if_pos hp]at lG;have pJ:=p9 s pos;obtain⟨⟨c,wd⟩,hr⟩:∃r,bN (ints s) pos=r:=⟨_,rfl⟩;rw[hr]at lG pJ;have h0:wd≠0:=fun e=>by simp only[e,if_true]at lG;cases lG
   simp only[if_neg h0]at lG pJ;obtain⟨he,Nl,PY,x_⟩:=QN (ou s) (by rw[aM];exact hp) hr h0;rw[aM]at Nl;obtain⟨c,rfl⟩:∃n:Nat,c=n:=⟨c.toNat,by omega⟩;rw[show((c:Int).toNat)=c by simp]at pJ;rw[pJ]at El;have YA:=Lib.iterAt_heap wr w1.heap.size s pos (pos+wd) hit;have MC:=ES.iterAt hNN s (pos+wd);have CY:=Xb.iterAt (s':=s) (p':=pos+wd) hit (by omega);obtain⟨W1,pW⟩:∃W1,W1=wr.iterAt w1.heap.size s (pos+wd):=⟨_,rfl⟩;simp only at El;rw[<-pW]at El YA MC CY;have hes:=EW c (by omega) W1;obtain⟨pX,Oh⟩:=Jh PY;obtain⟨u,hu⟩:∃u,strOfNums (escRune (c:Int))=u:=⟨_,rfl⟩;have HU:Hid (ints u=escRune (c:Int)):=by show ints u=_;rw[<-hu];exact Qg _ pX
   have QP:u.size<=100:=by rw[<-hu,Qi];omega
   rw[hu]at hes;have qa:Hid (strayL (ints s) m (pos+wd)=none):=lG;clear pW hit hu pJ lG pX Oh;go_wp2_with(first
    | (go_at_call 163;refine hes.mono ?_;rintro x w4 ⟨rfl,zm⟩
       have II:=CY.WX zm;have zgt:=(zm.block _ (Array.getElem?_eq_some_iff.1 YA).1 (fun h=>h)).trans YA;have hpt:=iF II Jj u QP)
    | (go_at_call 136;refine hpt.mono ?_;rintro x w5 ⟨rfl,⟨zdI,hp5,ho5,zn⟩,UX⟩))
   have zdJ:=Ji UX zgt (by omega);have zdK:=iterPos_of zdJ;go_roundw
   case rel=>
    refine⟨pos+wd,m,zdI,zdJ,Nl,by omega,qa.out, ?_,ho5,zn,(MC.trans (NB.jo (zm.mono fun _ _ h=>h.elim))).trans UX⟩;have:=CX.trans hp5;rw[HU.out,<-he]at this;rw[Og,List.flatMap_append];exact this
   case measure=>rw[zdK,zdH];omega
  ·have El:∀ty,(Instr.next (.pointer (some ⟨w1.heap.size,0,none⟩)) true ty).run Tryz.prog wr=_:=fun ty=>Lib.run_next_end_at wr w1.heap.size s pos ty hit hp;have Xc:=iF Xb Jj ⟨#[34]⟩ (by decide);go_wp2_with(go_at_call 136;refine Xc.mono ?_;rintro x w3 ⟨rfl,⟨EY,Oi,QQ,CY⟩,MC⟩)
   go_end0
   refine⟨rfl,⟨EY, ?_,QQ,CY⟩,ES.trans MC⟩;have:=CX.trans Oi;rw[List.take_of_length_le (by rw[aM];omega)]at this;exact this
theorem BN(j:J):∀(l:List J) (b:Bool),AQ b (l++ [j])=AQ b l++((if l.length=0/\b=true then []else [44])++lK j)
 | [],b=>by
  rw[List.nil_append,vQ]
  cases b<;>simp[AQ]
 | i::r,b=>by
  rw[List.cons_append,vQ,vQ,BN j r false];simp
theorem BO(j:J):∀(l:List J) (ks:List ByteArray) (b:Bool),AR b ks (l++ [j])=AR b ks l++((if l.length=0/\b=true then []else [44])++(quote (ints (ks.getD l.length aT))++(58::lK j)))
 | [],ks,b=>by
  rw[List.nil_append,vR]
  cases b<;>cases ks<;>simp[AR]
 | i::r,ks,b=>by
  rw[List.cons_append,vR,vR,BO j r ks.tail false]
  cases ks<;>simp
abbrev P8(K:Nat)(w:World):Prop:=Lib.TabBelow Tryz.prog K w "internal/strconv.uint64pow10" .u64 Lib.pow10Tab
theorem Jk{B K:Nat}{w w':World}(h:P8 K w)(n:NB B K w w')(hK:K<=B)(hB:K<=w.heap.size):P8 K w':=fun w2 h2=>h w2 ((n.below hK hB).trans h2)
def wideJ:Nat->J->Bool
 | 0,_=>true
 | d+1,.mk _ _ _ _ l=>decide (l.length<=100000)&&l.all (wideJ d)
def sJ(d:Nat)(j:J):Bool:=goodJ d j&&wideJ d j
def vS(d:Nat):Prop:=∀(w:World) (B K:Nat) (out:List Int) (O:Nat->Prop) (j:J) (k i:Int) (t:ByteArray) (pk pl:Option Addr) (nk ck nl cl:Nat),AB w B K out->out.length<=20000->(∀x,O x->x<B/\x≠K)->P8 K w→
 sJ d j=true->isJ O w j [.int .i64 k,.int .i64 i,.string t,.slice pk nk ck,.slice pl nl cl]→
 Calls Tryz.prog 111 #[.pointer (some ⟨K,0,none⟩),.agg #[.int .i64 k,.int .i64 i,.string t,.slice pk nk ck,.slice pl nl cl]] w fun x w'=>f_ w w' B K out (lK j) x
theorem dw{O:Nat->Prop}{w:World}{j:J}{cs:List Value}(h:isJ O w j cs):∃k i t pk nk ck pl nl cl,cs= [.int .i64 k,.int .i64 i,.string t,.slice pk nk ck,.slice pl nl cl]:=by
 cases j
 unfold isJ at h;obtain⟨pk,ck,pl,cl,e,_⟩:=h;exact⟨_,_,_,_,_,_,_,_,_,e⟩
theorem jY{B K:Nat}{w w':World}{O:Nat->Prop}(n:NB B K w w')(hB:B<=w.heap.size)(hO:∀x,O x->x<B/\x≠K):∀x,O x->O x/\w'.heap[x]?=w.heap[x]?:=
 fun x hx=>⟨hx,n.block x (by have:=(hO x hx).1;omega) (hO x hx).2 (.inl (hO x hx).1)⟩
theorem iE{l:List J}{k:Nat}(h:k<l.length):l.take (k+1)=l.take k++ [l.getD k J.zero]:=by
 rw[List.take_add_one,List.getElem?_eq_getElem h,List.getD_eq_getElem?_getD,List.getElem?_eq_getElem h]
 rfl
theorem zo{B K:Nat}{wr w3:World}{cs:Array Value}(n:NB B K (wr.alloc (.cells cs 25)) w3)(hK:K<wr.heap.size):w3.heap[wr.heap.size]?=some (.cells cs 25 (0,0)):=by
 have h:=heap_alloc_new wr (.cells cs 25);rw[n.block wr.heap.size (by simp) (by omega) (.inr fun cur fr e=>by rw[h]at e;injection e with e;injection e with _ e2 _;exact absurd e2 (by decide))];exact h
theorem YB{d:Nat}(V:vS d){w:World}{B K:Nat}{out:List Int}{O:Nat->Prop}{l:List J}{pl:Option Addr}{cl:Nat}(hw:AB w B K out)(ho:out.length<=20000)(hO:∀x,O x->x<B/\x≠K)(hT:P8 K w)
    (hg:l.all (sJ d)=true) (hj:isJs O w pl 0 l) (hc:l.length<=cl) (fw:l.length<=1000000):
    Calls Tryz.prog 140 #[.pointer (some ⟨K,0,none⟩),.slice pl l.length cl] w fun x w'=>f_ w w' B K out (91::(AQ true l++ [93])) x:=by
 have hq:=iF hw ho ⟨#[91]⟩ (by decide);have WY:Hid (K<B/\B<=w.heap.size):=⟨hw.lt,hw.size⟩;obtain⟨n,hn⟩:∃n,l.length=n:=⟨_,rfl⟩;have HN:Hid (l.length=n):=hn;rw[hn]at hc fw ⊢;clear hn;go_enter Tryz.func140,Tryz.ntmps140;go_wp2_with(go_at_call 136;refine hq.mono ?_;rintro x w1 ⟨rfl,⟨QO,WZ,W_,Xa⟩,MB⟩)
 go_loopw [10] (fun i wr=>∃(k:Nat) (sI:List Int),i=.int .i64 k/\k<=n/\Et out (91::AQ true (l.take k)) sI/\sI.length<=20000/\AB wr B K sI/\NB B K w wr) (fun i _=>n - (intOf i).toNat)
 case atStart=>exact⟨0,QO,rfl,Nat.zero_le _,by rw[List.take_zero];exact WZ,W_,Xa,MB⟩
 case round=>
  clear WZ W_ Xa MB hq;obtain⟨k,zdG,rfl,hk,mX,Jj,Xb,ES⟩:=hrel;have Yz:=WY.out
  by_cases eQ:k<n
  ·have vT:k<l.length:=by rw[HN.out];exact eQ
   obtain⟨lb,lo,cs,tO,lY,bC,iL⟩:=isJs.at l 0 k hj vT;subst tO;obtain⟨kv,iv,tv,pv,nv,cv,qv,mv,dv,rfl⟩:=dw iL;have tK:=(jY ES Yz.2 hO lb lY).2;have cc:∀m v, [Value.int .i64 kv,.int .i64 iv,.string tv,.slice pv nv cv,.slice qv mv dv][m]?=some v->wr.cell? ⟨lb,lo+k*5+m,none⟩=some v:=fun m v h=>by
    have:=bC m v h;rw[Nat.zero_add]at this;exact(World.cell?_of_block (a:=⟨lb,lo+k*5+m,none⟩) tK).trans this
   have y0:wr.cell? ⟨lb,lo+k*5,none⟩=some (.int .i64 kv):=cc 0 _ rfl;have y1:=cc 1 _ rfl;have y2:=cc 2 _ rfl;have y3:=cc 3 _ rfl;have y4:=cc 4 _ rfl;clear cc bC;have Yh:(k:Int)<(n:Int):=by omega
   have hm:=BM (Xb.alloc (.cells #[.int .i64 kv,.int .i64 iv,.string tv,.slice pv nv cv,.slice qv mv dv] 25)) Jj k (by omega);have HG:Hid (sJ d (l.getD k J.zero)=true):=by
    have:=List.all_eq_true.1 hg (l.getD k J.zero) (by rw[List.getD_eq_getElem?_getD,List.getElem?_eq_getElem vT];exact List.getElem_mem vT);exact this
   go_wp2_with(first
    | (go_at_call 164;refine hm.mono ?_;rintro x w3 ⟨rfl,⟨EY,Oi,QQ,CY⟩,MC⟩
       have hvb:=zo MC (by have:=ES.size;omega);obtain⟨j0,j1,j2,j3,j4⟩:=aU hvb;have TW:=(ES.alloc (.cells #[.int .i64 kv,.int .i64 iv,.string tv,.slice pv nv cv,.slice qv mv dv] 25)).trans MC;have hV:=V w3 B K EY O _ kv iv tv pv qv nv cv mv dv CY QQ hO (Jk hT TW (by omega) (by omega)) HG.out (iL.carry (jY TW Yz.2 hO)))
    | (go_at_call 111;refine hV.mono ?_;rintro x w4 ⟨rfl,⟨YC,UY,ft,II⟩,YD⟩))
   go_roundw
   case rel=>
    refine⟨k+1,YC,by go_num,eQ, ?_,ft,II,TW.trans YD⟩;have:=(mX.trans Oi).trans UY;rw[iE vT,BN,List.length_take,Nat.min_eq_left (by omega)];simp only[and_true];simpa using this
   case measure=>simp[intOf];omega
  ·obtain rfl:k=n:=by omega
   have Xc:=iF Xb Jj ⟨#[93]⟩ (by decide);go_wp2_with(go_at_call 136;refine Xc.mono ?_;rintro x w3 ⟨rfl,⟨EY,Oi,QQ,CY⟩,MC⟩)
   go_end0
   refine⟨rfl,⟨EY, ?_,QQ,CY⟩,ES.trans MC⟩;have:=mX.trans Oi;rw[List.take_of_length_le (by rw[HN.out];omega)]at this;exact this
theorem UZ{d:Nat}(V:vS d){w:World}{B K:Nat}{out:List Int}{O:Nat->Prop}{ks:List ByteArray}{l:List J}{pk pl:Option Addr}{ck cl:Nat}(hw:AB w B K out)(ho:out.length<=20000)(hO:∀x,O x->x<B/\x≠K)(hT:P8 K w)
    (hg:l.all (sJ d)=true) (BP:ks.all letters=true) (mW:ks.length=l.length) (oJ:jP O w pk ck ks) (hj:isJs O w pl 0 l) (hc:l.length<=cl) (fw:l.length<=1000000):
    Calls Tryz.prog 141 #[.pointer (some ⟨K,0,none⟩),.slice pk ks.length ck,.slice pl l.length cl] w fun x w'=>f_ w w' B K out (123::(AR true ks l++ [125])) x:=by
 have hq:=iF hw ho ⟨#[123]⟩ (by decide);have WY:Hid (K<B/\B<=w.heap.size):=⟨hw.lt,hw.size⟩;obtain⟨n,hn⟩:∃n,l.length=n:=⟨_,rfl⟩;have HN:Hid (l.length=n):=hn;have HKN:Hid (ks.length=n):=mW.trans hn;rw[mW.trans hn];rw[hn]at hc fw ⊢;clear hn mW;go_enter Tryz.func141,Tryz.ntmps141;go_wp2_with(go_at_call 136;refine hq.mono ?_;rintro x w1 ⟨rfl,⟨QO,WZ,W_,Xa⟩,MB⟩)
 go_loopw [12] (fun i wr=>∃(k:Nat) (sI:List Int),i=.int .i64 k/\k<=n/\Et out (123::AR true ks (l.take k)) sI/\sI.length<=20000/\AB wr B K sI/\NB B K w wr) (fun i _=>n - (intOf i).toNat)
 case atStart=>exact⟨0,QO,rfl,Nat.zero_le _,by rw[List.take_zero];exact WZ,W_,Xa,MB⟩
 case round=>
  clear WZ W_ Xa MB hq;obtain⟨k,zdG,rfl,hk,mX,Jj,Xb,ES⟩:=hrel;have Yz:=WY.out
  by_cases eQ:k<n
  ·have vT:k<l.length:=by rw[HN.out];exact eQ
   obtain⟨lb,lo,cs,tO,lY,bC,iL⟩:=isJs.at l 0 k hj vT;subst tO;obtain⟨kv,iv,tv,pv,nv,cv,qv,mv,dv,rfl⟩:=dw iL;have tK:=(jY ES Yz.2 hO lb lY).2;have cc:∀m v, [Value.int .i64 kv,.int .i64 iv,.string tv,.slice pv nv cv,.slice qv mv dv][m]?=some v->wr.cell? ⟨lb,lo+k*5+m,none⟩=some v:=fun m v h=>by
    have:=bC m v h;rw[Nat.zero_add]at this;exact(World.cell?_of_block (a:=⟨lb,lo+k*5+m,none⟩) tK).trans this
   have y0:wr.cell? ⟨lb,lo+k*5,none⟩=some (.int .i64 kv):=cc 0 _ rfl;have y1:=cc 1 _ rfl;have y2:=cc 2 _ rfl;have y3:=cc 3 _ rfl;have y4:=cc 4 _ rfl;clear cc bC;obtain⟨ad,YE,qR,A9⟩:=oJ.2 k (by rw[HKN.out];exact eQ);subst YE;obtain⟨key,xt⟩:∃key,ks.getD k aT=key:=⟨_,rfl⟩;rw[xt]at A9;have YF:Hid (ks.getD k aT=key):=xt;have zgu:iO (ints key)=none:=by
    have hm:=List.all_eq_true.1 BP (ks.getD k aT) (by rw[List.getD_eq_getElem?_getD,List.getElem?_eq_getElem (by rw[HKN.out];exact eQ)];exact List.getElem_mem _);rw[xt]at hm;unfold letters at hm;exact Option.isNone_iff_eq_none.1 hm
   clear xt;have CU:n<=ck:=by have:=oJ.1;rw[HKN.out]at this;exact this
   have Yh:(k:Int)<(n:Int):=by omega
   have hm:=BM (Xb.alloc (.cells #[.int .i64 kv,.int .i64 iv,.string tv,.slice pv nv cv,.slice qv mv dv] 25)) Jj k (by omega);have HG:Hid (sJ d (l.getD k J.zero)=true):=by
    have:=List.all_eq_true.1 hg (l.getD k J.zero) (by rw[List.getD_eq_getElem?_getD,List.getElem?_eq_getElem vT];exact List.getElem_mem vT);exact this
   go_wp2_with(first
    | (go_at_call 164;refine hm.mono ?_;rintro x w3 ⟨rfl,⟨EY,Oi,QQ,CY⟩,MC⟩
       have TW:=(ES.alloc (.cells #[.int .i64 kv,.int .i64 iv,.string tv,.slice pv nv cv,.slice qv mv dv] 25)).trans MC;have zkE:w3.cell? (ad.add k)=some (.string key):=(World.cell?_of_block (by rw[bK];exact(jY TW Yz.2 hO ad.block qR).2)).trans A9;have hx:=EX CY QQ key zgu)
    | (go_at_call 139;refine hx.mono ?_;rintro x w5 ⟨rfl,⟨zdI,hp5,ho5,zn⟩,UX⟩
       have hq5:=iF zn ho5 ⟨#[58]⟩ (by decide))
    | (go_at_call 136;refine hq5.mono ?_;rintro x w6 ⟨rfl,⟨zgv,hp6,ho6,YG⟩,hn6⟩
       have zgw:=zo ((MC.trans UX).trans hn6) (by have:=ES.size;omega);obtain⟨j0,j1,j2,j3,j4⟩:=aU zgw;have hnB:=(TW.trans UX).trans hn6;have hV:=V w6 B K zgv O _ kv iv tv pv qv nv cv mv dv YG ho6 hO (Jk hT hnB (by omega) (by omega)) HG.out (iL.carry (jY hnB Yz.2 hO)))
    | (go_at_call 111;refine hV.mono ?_;rintro x w4 ⟨rfl,⟨YC,UY,ft,II⟩,YD⟩))
   go_roundw
   case rel=>
    refine⟨k+1,YC,by go_num,eQ, ?_,ft,II,hnB.trans YD⟩;have:=(((mX.trans Oi).trans hp5).trans hp6).trans UY;rw[iE vT,BO,List.length_take,Nat.min_eq_left (by omega)];rw[YF.out];have e58:ints ⟨#[58]⟩= [58]:=rfl;rw[e58]at this;simpa using this
   case measure=>simp[intOf];omega
  ·obtain rfl:k=n:=by omega
   have Xc:=iF Xb Jj ⟨#[125]⟩ (by decide);go_wp2_with(go_at_call 136;refine Xc.mono ?_;rintro x w3 ⟨rfl,⟨EY,Oi,QQ,CY⟩,MC⟩)
   go_end0
   refine⟨rfl,⟨EY, ?_,QQ,CY⟩,ES.trans MC⟩;have:=mX.trans Oi;rw[List.take_of_length_le (by rw[HN.out];omega)]at this;exact this
theorem Oj(b:Bool)(w:World):Calls Tryz.prog 137 #[.bool b] w fun x w'=>x=.returned (.string (if b=true then⟨#[116,114,117,101]⟩else⟨#[102,97,108,115,101]⟩))/\w=w':=by
 cases b
 all_goals
  go_enter Tryz.func137,Tryz.ntmps137;go_wp2;go_ret;exact⟨rfl,rfl⟩
theorem QR(n:Int)(h0: -9223372036854775808<=n)(h1:n<=9223372036854775807){K:Nat}{w:World}(hT:P8 K w):
    Calls Tryz.prog 138 #[.int .i64 n,.int .i64 10] w fun x w'=>x=.returned (.string ⟨(Lib.itoa n).toArray⟩)/\ay (fun _=>False) w w':=by
 refine(Tryz.strconv_FormatInt_10 n h0 h1 w hT.here).mono ?_;rintro x w' ⟨rfl,k,os,rfl⟩;exact⟨rfl,ay.bq (Lib.below_grow _ w (Nat.le_refl _) k os)⟩
theorem f_.box{w w':World}{B K:Nat}{out s:List Int}{x:Ending}{o:Obj}(h:f_ (w.alloc o) w' B K out s x):f_ w w' B K out s x:=⟨h.1,h.2.1,((NB.refl B K w).alloc o).trans h.2.2⟩
theorem EZ:vS 0:=by
 intro w B K out O j k i t pk pl nk ck nl cl hw ho hO hT hg hj;unfold sJ goodJ at hg
 cases hg
theorem E5{d:Nat}(V:vS d):vS (d+1):=by
 intro w B K out O j k i t pk pl nk ck nl cl hw ho hO hT hg hj
 cases j with
 | mk k' i' t' ks l=>
  unfold isJ at hj;obtain⟨YH,U0,YI,A_,e,oJ,Em,oo⟩:=hj
  cases e
  unfold sJ goodJ wideJ at hg;simp only[Bool.and_eq_true]at hg;obtain⟨⟨_,hg⟩,WW,hwl⟩:=hg;have WW:=of_decide_eq_true WW;have fK:=hw.size;have bQ:=hw.lt;have g_:=hw.alloc (.cells #[.int .i64 k,.int .i64 i,.string t,.slice pk ks.length ck,.slice pl l.length cl] 25);have TW:NB B K w (w.alloc (.cells #[.int .i64 k,.int .i64 i,.string t,.slice pk ks.length ck,.slice pl l.length cl] 25)):=(NB.refl _ _ _).alloc _;have hTA:P8 K (w.alloc (.cells #[.int .i64 k,.int .i64 i,.string t,.slice pk ks.length ck,.slice pl l.length cl] 25)):=Jk hT TW (by omega) (by omega);have zgx:=oJ.carry (jY TW fK hO);have zdL:=oo.carry (jY TW fK hO)
  by_cases k0:k=0
  ·subst k0;have hq:=iF g_ ho ⟨#[110,117,108,108]⟩ (by decide);go_enter Tryz.func111,Tryz.ntmps111;go_wp2_with(go_at_call 136;refine hq.mono ?_;intro x w2 mX;obtain⟨rfl,mX⟩:=mX)
   go_end0
   exact f_.box ⟨rfl,mX⟩
  rw[if_neg k0]at hg
  by_cases k1:k=1
  ·subst k1;rw[if_pos rfl]at hg;have fb:=fun b=>Oj b (w.alloc (.cells #[.int .i64 1,.int .i64 i,.string t,.slice pk ks.length ck,.slice pl l.length cl] 25))
   by_cases h1:i=1
   ·subst h1;have hq:=iF g_ ho ⟨#[116,114,117,101]⟩ (by decide);have fb:=fb true;rw[if_pos rfl]at fb;go_enter Tryz.func111,Tryz.ntmps111;go_wp2_with(first
     | (go_at_call 137;refine fb.mono ?_;rintro x w' ⟨rfl,rfl⟩)
     | (go_at_call 136;refine hq.mono ?_;intro x w2 mX;obtain⟨rfl,mX⟩:=mX))
    go_end0
    exact f_.box ⟨rfl,mX⟩
   ·have h1:i=0:=by
      simp only[Bool.or_eq_true,decide_eq_true_eq]at hg;omega
    subst h1;have hq:=iF g_ ho ⟨#[102,97,108,115,101]⟩ (by decide);have fb:=fb false;rw[if_neg (by decide)]at fb;go_enter Tryz.func111,Tryz.ntmps111;go_wp2_with(first
     | (go_at_call 137;refine fb.mono ?_;rintro x w' ⟨rfl,rfl⟩)
     | (go_at_call 136;refine hq.mono ?_;intro x w2 mX;obtain⟨rfl,mX⟩:=mX))
    go_end0
    exact f_.box ⟨rfl,mX⟩
  rw[if_neg k1]at hg
  by_cases k2:k=2
  ·subst k2;rw[if_pos rfl]at hg;simp only[Bool.and_eq_true,decide_eq_true_eq]at hg;unfold dN at hg;have fi:=QR i (by omega) (by omega) hTA;have fw:=Lib.itoa_length_le i (by omega) (by omega);obtain⟨u,hu⟩:∃u:ByteArray,(⟨(Lib.itoa i).toArray⟩:ByteArray)=u:=⟨_,rfl⟩;have HU:Hid (ints u=lK (.mk 2 i t ks l)):=by
    show _=_
    rw[<-hu];unfold lK zdu ints
    rfl
   have QP:u.size<=100:=by
    rw[<-hu]
    show(Lib.itoa i).toArray.size<=100
    simp;omega
   rw[hu]at fi;clear hu fw;go_enter Tryz.func111,Tryz.ntmps111;go_wp2_with(first
    | (go_at_call 138;refine fi.mono ?_;rintro x w3 ⟨rfl,E8⟩;have hq:=iF (g_.WX E8) ho u QP)
    | (go_at_call 136;refine hq.mono ?_;intro x w2 mX;obtain⟨rfl,mX⟩:=mX))
   go_end0
   rw[HU.out]at mX;exact f_.box ⟨rfl,mX.1,(NB.jo (E8.mono fun _ _ h=>h.elim)).trans mX.2⟩
  rw[if_neg k2]at hg
  by_cases k3:k=3
  ·subst k3;rw[if_pos rfl]at hg;have hq:=EX g_ ho t (Option.isNone_iff_eq_none.1 hg);go_enter Tryz.func111,Tryz.ntmps111;go_wp2_with(go_at_call 139;refine hq.mono ?_;intro x w2 mX;obtain⟨rfl,mX⟩:=mX)
   go_end0
   exact f_.box ⟨rfl,by unfold lK;exact mX⟩
  rw[if_neg k3]at hg
  by_cases k4:k=4
  ·subst k4;rw[if_pos rfl]at hg;have fo:l.all (sJ d)=true:=by
    rw[List.all_eq_true]at hg hwl ⊢;intro x hx;unfold sJ;rw[hg x hx,hwl x hx]
    rfl
   have hq:=YB V g_ ho hO hTA fo zdL Em (by omega);clear hg hwl fo;go_enter Tryz.func111,Tryz.ntmps111;go_wp2_with(go_at_call 140;refine hq.mono ?_;intro x w2 mX;obtain⟨rfl,mX⟩:=mX)
   go_end0
   exact f_.box ⟨rfl,by unfold lK;exact mX⟩
  rw[if_neg k4]at hg
  by_cases k5:k=5
  ·subst k5;rw[if_pos rfl]at hg;simp only[Bool.and_eq_true,decide_eq_true_eq]at hg;obtain⟨⟨eQ,BP,_⟩,hg⟩:=hg;have fo:l.all (sJ d)=true:=by
    rw[List.all_eq_true]at hg hwl ⊢;intro x hx;unfold sJ;rw[hg x hx,hwl x hx]
    rfl
   have hq:=UZ V g_ ho hO hTA fo BP eQ zgx zdL Em (by omega);clear hg hwl fo BP;have YJ:Hid (ks.length=l.length):=eQ;clear eQ;go_enter Tryz.func111,Tryz.ntmps111;go_wp2_with(go_at_call 141;refine hq.mono ?_;intro x w2 mX;obtain⟨rfl,mX⟩:=mX)
   go_end0
   exact f_.box ⟨rfl,by unfold lK;exact mX⟩
  rw[if_neg k5]at hg
  cases hg
theorem writes:∀d,vS d
 | 0=>EZ
 | d+1=>E5 (writes d)
theorem xu(s:ByteArray)(w:World)(hs:s.size<=1000000000):Calls Tryz.prog 158 #[.string s] w fun x w'=>x=.returned (.bool (letters s))/\Below w.heap.size w w':=by
 have sa:=NW s w hs
 cases lG:iO (ints s)with
 | none=>
  have HL:Hid (letters s=true):=by show letters s=true;unfold letters;rw[lG];rfl
  rw[lG]at sa;go_enter Tryz.func158,Tryz.ntmps158;go_wp2_with(go_at_call 176;refine sa.mono ?_;rintro x w1 ⟨rfl,pos,rfl⟩);go_ret;exact⟨aj HL.out.symm,(Below.refl _ _).alloc (Nat.le_refl _) _⟩
 | some p=>
  have HL:Hid (letters s=false):=by show letters s=false;unfold letters;rw[lG];rfl
  rw[lG]at sa;go_enter Tryz.func158,Tryz.ntmps158;go_wp2_with(go_at_call 176;refine sa.mono ?_;rintro x w1 ⟨rfl,pos,rfl⟩);go_ret;exact⟨aj HL.out.symm,(Below.refl _ _).alloc (Nat.le_refl _) _⟩
theorem ME{t:ByteArray}:(t.toList== [])=decide (t.size=0):=by
 rw[Lib.toList_data,Bool.eq_iff_iff];simp only[beq_iff_eq,decide_eq_true_eq]
 constructor
 ·intro h
  show t.data.size=0
  rw[<-Array.length_toList,h];rfl
 ·intro h;exact List.eq_nil_of_length_eq_zero (by rw[Array.length_toList];exact h)
def bA(k i:Int)(t:ByteArray)(nk nl:Nat):Bool:=(decide (i=0) || decide (k=1) || decide (k=2))&&(decide (t.size=0) || decide (k=3))&&(decide (nk=0) || decide (k=5))&&(decide (nl=0) || decide (k=4) || decide (k=5))
theorem QS(k i:Int)(t:ByteArray)(pk pl:Option Addr)(nk ck nl cl:Nat)(w:World):
    Calls Tryz.prog 157 #[.agg #[.int .i64 k,.int .i64 i,.string t,.slice pk nk ck,.slice pl nl cl]] w fun x w'=>x=.returned (.bool (bA k i t nk nl))/\Below w.heap.size w w':=by
 have hn:=ME (t:=t)
 by_cases h1:i=0
 ·subst h1
  by_cases h2:t.size=0
  ·rw[decide_eq_true h2]at hn
   by_cases h3:nk=0
   ·subst h3
    by_cases h4:nl=0
    ·subst h4;have HB:Hid (bA k 0 t 0 0=true):=by show _=_;unfold bA;simp[*]
     go_enter Tryz.func157,Tryz.ntmps157;go_wp2;go_ret;refine⟨aj ?_,(Below.refl _ _).alloc (Nat.le_refl _) _⟩
     first| exact HB.out.symm| (rw[HB.out];simp;omega)
    ·skip
     by_cases a1:k=4
     ·subst a1;have HB:Hid (bA 4 0 t 0 nl=true):=by show _=_;unfold bA;simp[*]
      go_enter Tryz.func157,Tryz.ntmps157;go_wp2;go_ret;refine⟨aj ?_,(Below.refl _ _).alloc (Nat.le_refl _) _⟩
      first| exact HB.out.symm| (rw[HB.out];simp;omega)
     ·skip
      by_cases a2:k=5
      ·subst a2;have HB:Hid (bA 5 0 t 0 nl=true):=by show _=_;unfold bA;simp[*]
       go_enter Tryz.func157,Tryz.ntmps157;go_wp2;go_ret;refine⟨aj ?_,(Below.refl _ _).alloc (Nat.le_refl _) _⟩
       first| exact HB.out.symm| (rw[HB.out];simp;omega)
      ·skip
       have HB:Hid (bA k 0 t 0 nl=false):=by show _=_;unfold bA;simp[*]
       go_enter Tryz.func157,Tryz.ntmps157;go_wp2;go_ret;refine⟨aj ?_,(Below.refl _ _).alloc (Nat.le_refl _) _⟩
       first| exact HB.out.symm| (rw[HB.out];simp;omega)
   ·have h3p:0<nk:=by omega
    by_cases a3:k=5
    ·subst a3
     by_cases h4:nl=0
     ·subst h4;have HB:Hid (bA 5 0 t nk 0=true):=by show _=_;unfold bA;simp[*]
      go_enter Tryz.func157,Tryz.ntmps157;go_wp2;go_ret;refine⟨aj ?_,(Below.refl _ _).alloc (Nat.le_refl _) _⟩
      first| exact HB.out.symm| (rw[HB.out];simp;omega)
     ·skip
      have HB:Hid (bA 5 0 t nk nl=true):=by show _=_;unfold bA;simp[*]
      go_enter Tryz.func157,Tryz.ntmps157;go_wp2;go_ret;refine⟨aj ?_,(Below.refl _ _).alloc (Nat.le_refl _) _⟩
      first| exact HB.out.symm| (rw[HB.out];simp;omega)
    ·skip
     have HB:Hid (bA k 0 t nk nl=false):=by show _=_;unfold bA;simp[*]
     go_enter Tryz.func157,Tryz.ntmps157;go_wp2;go_ret;refine⟨aj ?_,(Below.refl _ _).alloc (Nat.le_refl _) _⟩
     first| exact HB.out.symm| (rw[HB.out];simp;omega)
  ·rw[decide_eq_false h2]at hn
   by_cases a4:k=3
   ·subst a4
    by_cases h3:nk=0
    ·subst h3
     by_cases h4:nl=0
     ·subst h4;have HB:Hid (bA 3 0 t 0 0=true):=by show _=_;unfold bA;simp[*]
      go_enter Tryz.func157,Tryz.ntmps157;go_wp2;go_ret;refine⟨aj ?_,(Below.refl _ _).alloc (Nat.le_refl _) _⟩
      first| exact HB.out.symm| (rw[HB.out];simp;omega)
     ·skip
      have HB:Hid (bA 3 0 t 0 nl=false):=by show _=_;unfold bA;simp[*]
      go_enter Tryz.func157,Tryz.ntmps157;go_wp2;go_ret;refine⟨aj ?_,(Below.refl _ _).alloc (Nat.le_refl _) _⟩
      first| exact HB.out.symm| (rw[HB.out];simp;omega)
    ·have h3p:0<nk:=by omega
     have HB:Hid (bA 3 0 t nk nl=false):=by show _=_;unfold bA;simp[*]
     go_enter Tryz.func157,Tryz.ntmps157;go_wp2;go_ret;refine⟨aj ?_,(Below.refl _ _).alloc (Nat.le_refl _) _⟩
     first| exact HB.out.symm| (rw[HB.out];simp;omega)
   ·skip
    have HB:Hid (bA k 0 t nk nl=false):=by show _=_;unfold bA;simp[*]
    go_enter Tryz.func157,Tryz.ntmps157;go_wp2;go_ret;refine⟨aj ?_,(Below.refl _ _).alloc (Nat.le_refl _) _⟩
    first| exact HB.out.symm| (rw[HB.out];simp;omega)
 ·skip
  by_cases a5:k=1
  ·subst a5
   by_cases h2:t.size=0
   ·rw[decide_eq_true h2]at hn
    by_cases h3:nk=0
    ·subst h3
     by_cases h4:nl=0
     ·subst h4;have HB:Hid (bA 1 i t 0 0=true):=by show _=_;unfold bA;simp[*]
      go_enter Tryz.func157,Tryz.ntmps157;go_wp2;go_ret;refine⟨aj ?_,(Below.refl _ _).alloc (Nat.le_refl _) _⟩
      first| exact HB.out.symm| (rw[HB.out];simp;omega)
     ·skip
      have HB:Hid (bA 1 i t 0 nl=false):=by show _=_;unfold bA;simp[*]
      go_enter Tryz.func157,Tryz.ntmps157;go_wp2;go_ret;refine⟨aj ?_,(Below.refl _ _).alloc (Nat.le_refl _) _⟩
      first| exact HB.out.symm| (rw[HB.out];simp;omega)
    ·have h3p:0<nk:=by omega
     have HB:Hid (bA 1 i t nk nl=false):=by show _=_;unfold bA;simp[*]
     go_enter Tryz.func157,Tryz.ntmps157;go_wp2;go_ret;refine⟨aj ?_,(Below.refl _ _).alloc (Nat.le_refl _) _⟩
     first| exact HB.out.symm| (rw[HB.out];simp;omega)
   ·rw[decide_eq_false h2]at hn;have HB:Hid (bA 1 i t nk nl=false):=by show _=_;unfold bA;simp[*]
    go_enter Tryz.func157,Tryz.ntmps157;go_wp2;go_ret;refine⟨aj ?_,(Below.refl _ _).alloc (Nat.le_refl _) _⟩
    first| exact HB.out.symm| (rw[HB.out];simp;omega)
  ·skip
   by_cases a6:k=2
   ·subst a6
    by_cases h2:t.size=0
    ·rw[decide_eq_true h2]at hn
     by_cases h3:nk=0
     ·subst h3
      by_cases h4:nl=0
      ·subst h4;have HB:Hid (bA 2 i t 0 0=true):=by show _=_;unfold bA;simp[*]
       go_enter Tryz.func157,Tryz.ntmps157;go_wp2;go_ret;refine⟨aj ?_,(Below.refl _ _).alloc (Nat.le_refl _) _⟩
       first| exact HB.out.symm| (rw[HB.out];simp;omega)
      ·skip
       have HB:Hid (bA 2 i t 0 nl=false):=by show _=_;unfold bA;simp[*]
       go_enter Tryz.func157,Tryz.ntmps157;go_wp2;go_ret;refine⟨aj ?_,(Below.refl _ _).alloc (Nat.le_refl _) _⟩
       first| exact HB.out.symm| (rw[HB.out];simp;omega)
     ·have h3p:0<nk:=by omega
      have HB:Hid (bA 2 i t nk nl=false):=by show _=_;unfold bA;simp[*]
      go_enter Tryz.func157,Tryz.ntmps157;go_wp2;go_ret;refine⟨aj ?_,(Below.refl _ _).alloc (Nat.le_refl _) _⟩
      first| exact HB.out.symm| (rw[HB.out];simp;omega)
    ·rw[decide_eq_false h2]at hn;have HB:Hid (bA 2 i t nk nl=false):=by show _=_;unfold bA;simp[*]
     go_enter Tryz.func157,Tryz.ntmps157;go_wp2;go_ret;refine⟨aj ?_,(Below.refl _ _).alloc (Nat.le_refl _) _⟩
     first| exact HB.out.symm| (rw[HB.out];simp;omega)
   ·skip
    have b1:(i !=0)=true:=by simp[h1]
    have b2:(k !=1)=true:=by simp[*]
    have b3:(k !=2)=true:=by simp[*]
    have HB:Hid (bA k i t nk nl=false):=by show _=_;unfold bA;simp[*]
    go_enter Tryz.func157,Tryz.ntmps157;go_wp2;go_ret;refine⟨aj ?_,(Below.refl _ _).alloc (Nat.le_refl _) _⟩
    first| exact HB.out.symm| (rw[HB.out];simp;omega)
end Go.Proofs.YtldegjjaknelgaaGreatDoor

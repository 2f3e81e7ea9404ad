/- A part. -/
import Derived.Test.YtldkblgclochjaaGreatDoorE17
import Derived.Deep.MidRow
import Derived.Deep.Cut
import Derived.RangeFuncNested
import Derived.Lib.AppendZeros
import Derived.RangeFuncBound
import Derived.RangeFuncCalls
import Derived.RangeFuncLeaves
import Derived.Shelf.Abstract
import Derived.Shelf.RegionOpen
import Derived.OwnWalkIn
import Derived.TacticsInMore
import Derived.LoopNIn
import Derived.LoopIn
import Derived.Laws.StructEq
import Derived.Deep.CutRange
import Derived.Deep.CutBlock
import Derived.Deep.QuietTactic
set_option maxRecDepth 100000
set_option maxHeartbeats 16000000
namespace Go.Proofs.YtldkblgclochjaaGreatDoor
open Go.RowKit Go.Maps
theorem zw:∀{a b:List ByteArray},rises a=true->rises b=true->(∀x,x∈a↔x∈b)->a=b
 | [],b,_,_,h=>by
  cases b with
  | nil=>rfl
  | cons y r=>exact absurd ((h y).2 (List.mem_cons_self ..)) (by simp)
 | x::a,b,ha,hb,h=>by
  cases b with
  | nil=>exact absurd ((h x).1 (List.mem_cons_self ..)) (by simp)
  | cons y b=>
   simp only[rises,Bool.and_eq_true,List.all_eq_true]at ha hb;have f:x=y:=by
    rcases List.mem_cons.1 ((h x).1 (List.mem_cons_self ..))with e| e
    ·exact e
    ·rcases List.mem_cons.1 ((h y).2 (List.mem_cons_self ..))with d| d
     ·exact d.symm
     ·have h1:=hb.1 x e;have h2:=ha.1 y d;have:=mE h1 h2;rw[jL]at this
      cases this
   subst f;rw[zw ha.2 hb.2 fun z=> ?_]
   constructor
   ·intro c
    rcases List.mem_cons.1 ((h z).1 (List.mem_cons_of_mem _ c))with e| e
    ·subst e;have:=ha.1 z c;rw[jL]at this
     cases this
    ·exact e
   ·intro c
    rcases List.mem_cons.1 ((h z).2 (List.mem_cons_of_mem _ c))with e| e
    ·subst e;have:=hb.1 z c;rw[jL]at this
     cases this
    ·exact e
theorem zx{a b:ByteArray}(h:a.data=b.data):a=b:=by cases a;cases b;simp at h;rw[h]
theorem KH:∀{ps:List (ByteArray×J)} {s:ByteArray},(lookJ ps s).isSome=true->s∈ps.map (·.1)
 | [],_,h=>by cases h
 | p::r,s,h=>by
  unfold lookJ at h
  split at h
  ·rename_i e;rw[List.map_cons,zx e];exact List.mem_cons_self ..
  ·rw[List.map_cons];exact List.mem_cons_of_mem _ (KH h)
theorem gv{ps:List (ByteArray×J)}{s:ByteArray}(h:(gz ps s).kind≠0):s∈ps.map (·.1):=by
 refine KH ?_;unfold gz at h
 cases e:lookJ ps s with
 | none=>rw[e]at h;exact absurd rfl h
 | some j=>rfl
theorem eO{s x:ByteArray}:∀{ps:List (ByteArray×J)},x∈ps.map (·.1)->x=s\/ x∈(jJ ps s).map (·.1)
 | [],h=>by cases h
 | p::r,h=>by
  rw[List.map_cons]at h;unfold jJ
  rcases List.mem_cons.1 h with e| e
  ·by_cases c:p.1.data=s.data
   ·exact .inl (by rw[e];exact zx c)
   ·rw[if_neg c,List.map_cons,e];exact .inr (List.mem_cons_self ..)
  ·rcases eO (s:=s) e with h1| h1
   ·exact .inl h1
   ·refine .inr ?_
    split
    ·exact h1
    ·rw[List.map_cons];exact List.mem_cons_of_mem _ h1
theorem F6{a b:ByteArray}(h:a.data≠b.data):∀ps:List (ByteArray×J),lookJ (jJ ps a) b=lookJ ps b
 | []=>rfl
 | p::r=>by
  have d:=F6 h r;unfold jJ
  by_cases c:p.1.data=a.data
  ·rw[if_pos c,d];exact(if_neg (by rw[c];exact h)).symm
  ·rw[if_neg c]
   show(if p.1.data=b.data then some p.2 else lookJ (jJ r a) b)=(if p.1.data=b.data then some p.2 else lookJ r b)
   rw[d]
theorem a_{a b:ByteArray}(h:a.data≠b.data)(ps:List (ByteArray×J)):gz (jJ ps a) b=gz ps b:=by unfold gz;rw[F6 h]
def gq(j:J)(s:ByteArray):J:=gz (mg j) s
theorem gq1(j:J):qm j=gq j fE:=by unfold qm FY gq;rw[a_ (by decide)]
theorem gq2(j:J):qo j=gq j bN:=by unfold qo H_ FY gq;rw[a_ (by decide),a_ (by decide)]
theorem gq3(j:J):rG3 j=gq j aS:=by unfold rG3 IU H_ FY gq;rw[a_ (by decide),a_ (by decide),a_ (by decide)]
theorem gq4(j:J):nU j=gq j dL:=by unfold nU Kz IU H_ FY gq;rw[a_ (by decide),a_ (by decide),a_ (by decide),a_ (by decide)]
theorem gq5(j:J):nV j=gq j dG:=by unfold nV Mg Kz IU H_ FY gq;rw[a_ (by decide),a_ (by decide),a_ (by decide),a_ (by decide),a_ (by decide)]
theorem gq6(j:J):qp j=gq j dw:=by unfold qp OA Mg Kz IU H_ FY gq;rw[a_ (by decide),a_ (by decide),a_ (by decide),a_ (by decide),a_ (by decide),a_ (by decide)]
theorem gq7(j:J):qw j=gq j qQ:=by unfold qw QE OA Mg Kz IU H_ FY gq;rw[a_ (by decide),a_ (by decide),a_ (by decide),a_ (by decide),a_ (by decide),a_ (by decide),a_ (by decide)]
theorem gq8(j:J):qx j=gq j ed:=by unfold qx Ty QE OA Mg Kz IU H_ FY gq;rw[a_ (by decide),a_ (by decide),a_ (by decide),a_ (by decide),a_ (by decide),a_ (by decide),a_ (by decide),a_ (by decide)]
theorem gq9(j:J):nI j=gq j dV:=by unfold nI UF Ty QE OA Mg Kz IU H_ FY gq;rw[a_ (by decide),a_ (by decide),a_ (by decide),a_ (by decide),a_ (by decide),a_ (by decide),a_ (by decide),a_ (by decide),a_ (by decide)]
theorem zd8(j:J):nO j=gq j kK:=by unfold nO ym UF Ty QE OA Mg Kz IU H_ FY gq;rw[a_ (by decide),a_ (by decide),a_ (by decide),a_ (by decide),a_ (by decide),a_ (by decide),a_ (by decide),a_ (by decide),a_ (by decide),a_ (by decide)]
theorem ng(j:J):bM j=⟨(gq j eu).text,(gq j fE).text,(gq j bN).text,BC j,if BC j=true then(gq j kK).text else aH,gq j aS,(gq j dL).list.map J.text,(gq j dG).list.map J.text,(gq j dw).int,(gq j qQ).int,(gq j ed).text,aT (gq j dV)⟩:=by
 unfold bM;rw[gq1,gq2,gq3,gq4,gq5,gq6,gq7,gq8,gq9,zd8]
 rfl
theorem jD{d:Nat}{v:J}(h:goodJ d v=true)(m:v.kind=3):v=aR v.text:=by
 cases d with
 | zero=>unfold goodJ at h;cases h
 | succ d=>
  obtain⟨k,i,t,ks,l⟩:=v;obtain rfl:k=3:=m;unfold goodJ bare at h;simp only[Bool.and_eq_true,Bool.or_eq_true,decide_eq_true_eq]at h;obtain⟨⟨⟨⟨h1,_⟩,h3⟩,h4⟩,_⟩:=h;have f:i=0:=by omega
  have j:ks= []:=List.eq_nil_of_length_eq_zero (by omega);have c:l= []:=List.eq_nil_of_length_eq_zero (by omega);rw[f,j,c]
  rfl
theorem yt{d:Nat}{v:J}(h:goodJ d v=true)(f:v.kind=2):v=kg v.int:=by
 cases d with
 | zero=>unfold goodJ at h;cases h
 | succ d=>
  obtain⟨k,i,t,ks,l⟩:=v;obtain rfl:k=2:=f;unfold goodJ bare at h;simp only[Bool.and_eq_true,Bool.or_eq_true,decide_eq_true_eq]at h;obtain⟨⟨⟨⟨_,h2⟩,h3⟩,h4⟩,_⟩:=h;have m:t=aH:=FU (by omega);have j:ks= []:=List.eq_nil_of_length_eq_zero (by omega);have c:l= []:=List.eq_nil_of_length_eq_zero (by omega);rw[m,j,c]
  rfl
theorem zy{d:Nat}:∀{l:List J},(∀x∈l,goodJ d x=true)->b_ l=false->l=(l.map J.text).map aR
 | [],_,_=>rfl
 | x::r,hg,hn=>by
  have c:x.kind=3/\b_ r=false:=by
   unfold b_ at hn ⊢;rw[List.any_cons,Bool.or_eq_false_iff]at hn;exact⟨by simpa using hn.1,hn.2⟩
  rw[List.map_cons,List.map_cons,<-jD (hg x (List.mem_cons_self ..)) c.1,<-zy (fun y f=>hg y (List.mem_cons_of_mem _ f)) c.2]
theorem vM{d:Nat}{v:J}(h:goodJ (d+1) v=true)(z:v.kind=4)(j:b_ v.list=false):v=dH (v.list.map J.text):=by
 have u:=(il h).2.2.1;obtain⟨k,i,t,ks,l⟩:=v;obtain rfl:k=4:=z;unfold goodJ bare at h;simp only[Bool.and_eq_true,Bool.or_eq_true,decide_eq_true_eq]at h;obtain⟨⟨⟨⟨h1,h2⟩,h3⟩,h4⟩,_⟩:=h;have m:i=0:=by omega
 have E:t=aH:=FU (by omega);have A:ks= []:=List.eq_nil_of_length_eq_zero (by omega);unfold dH;have f:∀x∈l,goodJ d x=true:=u;have c:b_ l=false:=j
 show J.mk 4 i t ks l=J.mk 4 0 aH [] ((l.map J.text).map aR)
 rw[<-zy f c,m,E,A]
theorem F7{d:Nat}{v:J}(h:goodJ (d+1) v=true)(A:v.kind=5)(m:b_ (v.list.take v.keys.length)=false):v=fH (aT v):=by
 have z:=(il h).2.2.1;obtain⟨k,i,t,ks,l⟩:=v;obtain rfl:k=5:=A;unfold goodJ bare at h;simp only[Bool.and_eq_true,Bool.or_eq_true,decide_eq_true_eq]at h;obtain⟨⟨⟨⟨h1,h2⟩,h3⟩,h4⟩,h5⟩:=h;have x:i=0:=by omega
 have E:t=aH:=FU (by omega);simp at h5;have j:ks.length=l.length:=h5.1.1;have u:b_ l=false:=by
  have c:b_ (l.take ks.length)=false:=m
  rwa [j,List.take_length]at c
 have f:l=(l.map J.text).map aR:=zy z u;unfold fH aT
 show J.mk 5 i t ks l=J.mk 5 0 aH ((ks.zip (l.map J.text)).map (·.1)) ((ks.zip (l.map J.text)).map fun s=>aR s.2)
 rw[zu,List.map_fst_zip (by rw[List.length_map];omega),List.map_snd_zip (by rw[List.length_map];omega),<-f,x,E]
def vN:List ByteArray:= [dG,aS,dw,ed,kK,dL,eu,bN,dV,qQ,fE]
def vO:List ByteArray:= [dG,aS,dw,ed,dL,eu,bN,dV,qQ,fE]
theorem zd9(v0 v1 v2 v3 v4 v5 c f d v9 h:J):bM (.mk 5 0 aH vN [v0,v1,v2,v3,v4,v5,c,f,d,v9,h])=⟨c.text,h.text,f.text,true,v4.text,v1,v5.list.map J.text,v0.list.map J.text,v2.int,v9.int,v3.text,aT d⟩:=by kernel_rfl
theorem zea(v0 v1 v2 v3 v5 c f d v9 h:J):bM (.mk 5 0 aH vO [v0,v1,v2,v3,v5,c,f,d,v9,h])=⟨c.text,h.text,f.text,false,aH,v1,v5.list.map J.text,v0.list.map J.text,v2.int,v9.int,v3.text,aT d⟩:=by kernel_rfl
theorem okT(v0 v1 v2 v3 v4 v5 d f c v9 h:J):fO (.mk 5 0 aH vN [v0,v1,v2,v3,v4,v5,d,f,c,v9,h])=(!(((((((((((false || decide (d.kind≠3)) || decide (h.kind≠3)) || decide (f.kind≠3)) || decide (v1.kind≠5)) || decide (v5.kind≠4) || b_ v5.list) || decide (v0.kind≠4) || b_ v0.list) || decide (v2.kind≠2)) || decide (v9.kind≠2)) || decide (v3.kind≠3)) || decide (c.kind≠5) || b_ (c.list.take c.keys.length)) || decide (v4.kind≠3))&&true):=by kernel_rfl
theorem okF(v0 v1 v2 v3 v5 d f c v9 h:J):fO (.mk 5 0 aH vO [v0,v1,v2,v3,v5,d,f,c,v9,h])=(!((((((((((false || decide (d.kind≠3)) || decide (h.kind≠3)) || decide (f.kind≠3)) || decide (v1.kind≠5)) || decide (v5.kind≠4) || b_ v5.list) || decide (v0.kind≠4) || b_ v0.list) || decide (v2.kind≠2)) || decide (v9.kind≠2)) || decide (v3.kind≠3)) || decide (c.kind≠5) || b_ (c.list.take c.keys.length))&&true):=by kernel_rfl
theorem TN{d:Nat}{j:J}(h:goodJ (d+1) j=true):(mg j).map (·.1)=j.keys:=by
 unfold mg;rw[List.map_fst_zip (il h).1]
theorem zac{j:J}(hg:goodJ 12 j=true)(Z:inOrd j=true)(f:fO j=true):j.keys=if BC j=true then vN else vO:=by
 have u:=TN hg;have m:rises j.keys=true:=by
  obtain⟨k,i,t,ks,l⟩:=j;unfold inOrd at Z;rw[Bool.and_eq_true]at Z;exact Z.1
 unfold fO at f
 by_cases hs:BC j=true
 ·rw[if_pos hs]at f ⊢;rw[Bool.and_eq_true]at f;obtain⟨h1,h2⟩:=f;simp only[EO,t_,TG,TF,TE,TD,TC,TB,TA,Tz,QF,rB0,Bool.not_eq_true',Bool.or_eq_false_iff,decide_eq_false_iff_not,ne_eq,Decidable.not_not,decide_eq_true_eq]at h1 h2;obtain⟨⟨⟨⟨⟨⟨⟨⟨⟨⟨⟨⟨⟨⟨_,A⟩,I⟩,E⟩,A3⟩,N⟩,_⟩,A5⟩,_⟩,T⟩,z⟩,H⟩,K⟩,_⟩,A10⟩:=h1;have h:OB j= []:=List.eq_nil_of_length_eq_zero h2;refine zw m (by kernel_rfl) fun x=>⟨fun c=> ?_,fun c=> ?_⟩
  ·rw[<-u]at c;have eT:x=eu\/ x=fE\/ x=bN\/ x=aS\/ x=dL\/ x=dG\/ x=dw\/ x=qQ\/ x=ed\/ x=dV\/ x=kK:=by
    rcases eO (s:=eu) c with e| c
    ·exact .inl e
    rcases eO (s:=fE) c with e| c
    ·simp[e]
    rcases eO (s:=bN) c with e| c
    ·simp[e]
    rcases eO (s:=aS) c with e| c
    ·simp[e]
    rcases eO (s:=dL) c with e| c
    ·simp[e]
    rcases eO (s:=dG) c with e| c
    ·simp[e]
    rcases eO (s:=dw) c with e| c
    ·simp[e]
    rcases eO (s:=qQ) c with e| c
    ·simp[e]
    rcases eO (s:=ed) c with e| c
    ·simp[e]
    rcases eO (s:=dV) c with e| c
    ·simp[e]
    rcases eO (s:=kK) c with e| c
    ·simp[e]
    have d:x∈(OB j).map (·.1):=c;rw[h]at d
    cases d
   unfold vN
   rcases eT with rfl| rfl| rfl| rfl| rfl| rfl| rfl| rfl| rfl| rfl| rfl<;>simp
  ·rw[<-u];have U:(gq j eu).kind≠0:=by show(qa j).kind≠0;rw[A];decide
   have k1:(gq j fE).kind≠0:=by rw[<-gq1,I];decide
   have V:(gq j bN).kind≠0:=by rw[<-gq2,E];decide
   have X:(gq j aS).kind≠0:=by rw[<-gq3,A3];decide
   have k4:(gq j dL).kind≠0:=by rw[<-gq4,N];decide
   have S:(gq j dG).kind≠0:=by rw[<-gq5,A5];decide
   have Y:(gq j dw).kind≠0:=by rw[<-gq6,T];decide
   have F:(gq j qQ).kind≠0:=by rw[<-gq7,z];decide
   have G:(gq j ed).kind≠0:=by rw[<-gq8,H];decide
   have k9:(gq j dV).kind≠0:=by rw[<-gq9,K];decide
   have Mh:(gq j kK).kind≠0:=by rw[<-zd8,A10];decide
   unfold vN at c;simp only[List.mem_cons,List.not_mem_nil,or_false]at c
   rcases c with rfl| rfl| rfl| rfl| rfl| rfl| rfl| rfl| rfl| rfl| rfl
   ·exact gv S
   ·exact gv X
   ·exact gv Y
   ·exact gv G
   ·exact gv Mh
   ·exact gv k4
   ·exact gv U
   ·exact gv V
   ·exact gv k9
   ·exact gv F
   ·exact gv k1
 ·rw[if_neg hs]at f ⊢;rw[Bool.and_eq_true]at f;obtain⟨h1,h2⟩:=f;simp only[t_,TG,TF,TE,TD,TC,TB,TA,Tz,QF,rB0,Bool.not_eq_true',Bool.or_eq_false_iff,decide_eq_false_iff_not,ne_eq,Decidable.not_not,decide_eq_true_eq]at h1 h2;obtain⟨⟨⟨⟨⟨⟨⟨⟨⟨⟨⟨⟨⟨_,A⟩,I⟩,E⟩,A3⟩,N⟩,_⟩,A5⟩,_⟩,T⟩,z⟩,H⟩,K⟩,_⟩:=h1;have h:ym j= []:=List.eq_nil_of_length_eq_zero h2;refine zw m (by kernel_rfl) fun x=>⟨fun c=> ?_,fun c=> ?_⟩
  ·rw[<-u]at c;have eT:x=eu\/ x=fE\/ x=bN\/ x=aS\/ x=dL\/ x=dG\/ x=dw\/ x=qQ\/ x=ed\/ x=dV:=by
    rcases eO (s:=eu) c with e| c
    ·exact .inl e
    rcases eO (s:=fE) c with e| c
    ·simp[e]
    rcases eO (s:=bN) c with e| c
    ·simp[e]
    rcases eO (s:=aS) c with e| c
    ·simp[e]
    rcases eO (s:=dL) c with e| c
    ·simp[e]
    rcases eO (s:=dG) c with e| c
    ·simp[e]
    rcases eO (s:=dw) c with e| c
    ·simp[e]
    rcases eO (s:=qQ) c with e| c
    ·simp[e]
    rcases eO (s:=ed) c with e| c
    ·simp[e]
    rcases eO (s:=dV) c with e| c
    ·simp[e]
    have d:x∈(ym j).map (·.1):=c;rw[h]at d
    cases d
   unfold vO
   rcases eT with rfl| rfl| rfl| rfl| rfl| rfl| rfl| rfl| rfl| rfl<;>simp
  ·rw[<-u];have U:(gq j eu).kind≠0:=by show(qa j).kind≠0;rw[A];decide
   have k1:(gq j fE).kind≠0:=by rw[<-gq1,I];decide
   have V:(gq j bN).kind≠0:=by rw[<-gq2,E];decide
   have X:(gq j aS).kind≠0:=by rw[<-gq3,A3];decide
   have k4:(gq j dL).kind≠0:=by rw[<-gq4,N];decide
   have S:(gq j dG).kind≠0:=by rw[<-gq5,A5];decide
   have Y:(gq j dw).kind≠0:=by rw[<-gq6,T];decide
   have F:(gq j qQ).kind≠0:=by rw[<-gq7,z];decide
   have G:(gq j ed).kind≠0:=by rw[<-gq8,H];decide
   have k9:(gq j dV).kind≠0:=by rw[<-gq9,K];decide
   unfold vO at c;simp only[List.mem_cons,List.not_mem_nil,or_false]at c
   rcases c with rfl| rfl| rfl| rfl| rfl| rfl| rfl| rfl| rfl| rfl
   ·exact gv S
   ·exact gv X
   ·exact gv Y
   ·exact gv G
   ·exact gv k4
   ·exact gv U
   ·exact gv V
   ·exact gv k9
   ·exact gv F
   ·exact gv k1
theorem za4{d:Nat}{k i:Int}{t:ByteArray}{ks:List ByteArray}{l:List J}(h:goodJ (d+1) (.mk k i t ks l)=true)(f:ks≠ []):k=5/\i=0/\t=aH/\ks.length=l.length:=by
 unfold goodJ bare at h;simp only[Bool.and_eq_true,Bool.or_eq_true,decide_eq_true_eq]at h;obtain⟨⟨⟨⟨h1,h2⟩,h3⟩,h4⟩,h5⟩:=h;have c:k=5:=h3.resolve_left fun e=>f (List.eq_nil_of_length_eq_zero e);subst c;simp at h5;exact⟨rfl,by omega,FU (by omega),h5.1.1⟩
theorem zb3(v0 v1 v2 v3 v4 v5 c f d v9 h:J):dW ⟨c.text,h.text,f.text,true,v4.text,v1,v5.list.map J.text,v0.list.map J.text,v2.int,v9.int,v3.text,aT d⟩=.mk 5 0 aH vN [dH (v0.list.map J.text),v1,kg v2.int,aR v3.text,aR v4.text,dH (v5.list.map J.text),aR c.text,aR f.text,fH (aT d),kg v9.int,aR h.text]:=rfl
theorem zb4(v0 v1 v2 v3 v5 c f d v9 h:J):dW ⟨c.text,h.text,f.text,false,aH,v1,v5.list.map J.text,v0.list.map J.text,v2.int,v9.int,v3.text,aT d⟩=.mk 5 0 aH vO [dH (v0.list.map J.text),v1,kg v2.int,aR v3.text,dH (v5.list.map J.text),aR c.text,aR f.text,fH (aT d),kg v9.int,aR h.text]:=rfl
theorem F8{j:J}(u:goodJ 12 j=true)(z:inOrd j=true)(d:fO j=true):dW (bM j)=j/\ord (bM j).content=(bM j).content:=by
 have m:=zac u z d;have f:=(il u).2.2.1;obtain⟨k,i,t,ks,l⟩:=j;simp only[J.keys,J.list]at m f;have c:inOrdL l=true:=by
  unfold inOrd at z;rw[Bool.and_eq_true]at z;exact z.2
 by_cases Y:BC (.mk k i t ks l)=true
 ·rw[if_pos Y]at m;subst m;obtain⟨rfl,rfl,rfl,U⟩:=za4 u (by decide)
  match l,U,f,c,d with
  | [v0,v1,v2,v3,v4,v5,v6,v7,v8,v9,qh],_,f,c,d=>
   rw[okT]at d;simp only[Bool.and_true,Bool.not_eq_true',Bool.or_eq_false_iff,decide_eq_false_iff_not,ne_eq,Decidable.not_not]at d;obtain⟨⟨⟨⟨⟨⟨⟨⟨⟨⟨⟨⟨⟨⟨_,K⟩,h⟩,A⟩,Z⟩,T⟩,S⟩,E⟩,N⟩,F⟩,H⟩,X⟩,G⟩,V⟩,A4⟩:=d;have g:∀x∈ [v0,v1,v2,v3,v4,v5,v6,v7,v8,v9,qh],goodJ 11 x=true:=f;have h1:=g v1 (by simp);have I:inOrd v1=true:=by
    simp only[inOrdL,Bool.and_eq_true]at c;exact c.2.1
   rw[zd9];refine⟨?_,lT 11 v1 h1 I⟩;rw[zb3,<-vM (g v0 (by simp)) E N,<-yt (g v2 (by simp)) F,<-jD (g v3 (by simp)) X,<-jD (g v4 (by simp)) A4,<-vM (g v5 (by simp)) T S,<-jD (g v6 (by simp)) K,<-jD (g v7 (by simp)) A,<-F7 (g v8 (by simp)) G V,<-yt (g v9 (by simp)) H,<-jD (g qh (by simp)) h]
 ·rw[if_neg Y]at m;subst m;obtain⟨rfl,rfl,rfl,U⟩:=za4 u (by decide)
  match l,U,f,c,d with
  | [v0,v1,v2,v3,v5,v6,v7,v8,v9,qh],_,f,c,d=>
   rw[okF]at d;simp only[Bool.and_true,Bool.not_eq_true',Bool.or_eq_false_iff,decide_eq_false_iff_not,ne_eq,Decidable.not_not]at d;obtain⟨⟨⟨⟨⟨⟨⟨⟨⟨⟨⟨⟨⟨_,K⟩,h⟩,A⟩,Z⟩,T⟩,S⟩,E⟩,N⟩,F⟩,H⟩,X⟩,G⟩,V⟩:=d;have g:∀x∈ [v0,v1,v2,v3,v5,v6,v7,v8,v9,qh],goodJ 11 x=true:=f;have h1:=g v1 (by simp);have I:inOrd v1=true:=by
    simp only[inOrdL,Bool.and_eq_true]at c;exact c.2.1
   rw[zea];refine⟨?_,lT 11 v1 h1 I⟩;rw[zb4,<-vM (g v0 (by simp)) E N,<-yt (g v2 (by simp)) F,<-jD (g v3 (by simp)) X,<-vM (g v5 (by simp)) T S,<-jD (g v6 (by simp)) K,<-jD (g v7 (by simp)) A,<-F7 (g v8 (by simp)) G V,<-yt (g v9 (by simp)) H,<-jD (g qh (by simp)) h]
def uS(j:J):Bool:=decide (j.kind=4)&& !b_ j.list
def Bc(j:J):Bool:=uS (gq j dG)&&uS (gq j dL)&&aO (bM j)
open Classical in
theorem Xj{j:J}(x:goodJ 12 j=true)(E:inOrd j=true):dz j=if Bc j=true/\dW (gJ (bM j))=j then(if dR (bM j)=0 then(bM j,0)else(Ev.zero,dR (bM j)))else(Ev.zero,50):=by
 cases hr:fO j with
 | true=>
  obtain⟨h1,h2⟩:=F8 x E hr;have u:gJ (bM j)=bM j:=by
   unfold gJ;rw[h2]
  have k:uS (gq j dG)=true/\uS (gq j dL)=true:=by
   have c:=hr;unfold fO at c;have key:t_ j=false:=by
    split at c
    ·rw[Bool.and_eq_true]at c;have:=c.1;simp only[EO,Bool.not_eq_true',Bool.or_eq_false_iff]at this;exact this.1
    ·rw[Bool.and_eq_true]at c;simpa using c.1
   simp only[t_,TG,TF,TE,TD,TC,TB,TA,Tz,QF,rB0,Bool.or_eq_false_iff,decide_eq_false_iff_not,ne_eq,Decidable.not_not]at key;obtain⟨⟨⟨⟨⟨⟨⟨⟨⟨⟨⟨⟨⟨_,I⟩,S⟩,K⟩,V⟩,A⟩,z⟩,G⟩,F⟩,U⟩,H⟩,N⟩,T⟩,_⟩:=key;unfold uS;rw[<-gq4,<-gq5,A,G,z,F];exact⟨rfl,rfl⟩
  unfold dz;rw[hr,if_pos rfl,u,h1]
  cases d:aO (bM j)with
  | true=>
   rw[if_pos (show Bc j=true/\j=j from⟨by unfold Bc;rw[k.1,k.2,d];rfl,rfl⟩)]
  | false=>
   have f:dR (bM j)=50:=by unfold dR;rw[if_neg (by rw[d];decide)]
   rw[if_neg (show¬(Bc j=true/\j=j)from fun h=>by have:=h.1;unfold Bc at this;rw[d,Bool.and_false]at this;cases this),f,if_neg (by decide)]
 | false=>
  unfold dz;rw[hr,if_neg (by decide),if_neg];rintro⟨h1,h2⟩;have d:aO (bM j)=true:=by unfold Bc at h1;rw[Bool.and_eq_true]at h1;exact h1.2
  have m:=(jU (iG (nD d)).2.2.1).2;have:=QK m;rw[h2,hr]at this
  cases this
theorem Xk{j:J}(f:goodJ 12 j=true)(h:inOrd j=true)(h1:Bc j=true)(h2:dW (gJ (bM j))=j):gJ (bM j)=bM j:=by
 have k:aO (bM j)=true:=by unfold Bc at h1;rw[Bool.and_eq_true]at h1;exact h1.2
 have d:=(jU (iG (nD k)).2.2.1).2;have c:=QK d;rw[h2]at c;have:=(F8 f h c).2;unfold gJ;rw[this]
open Go.RowKit
theorem yu{w:World}{b:Nat}{t:TypeId}{u0 u1 u2 u3 u4 u5 u6 u7 u8 u9 u10 u11 u12 u13 u14 u15:Value}(h:w.heap[b]?=some (.cells #[u0,u1,u2,u3,u4,u5,u6,u7,u8,u9,u10,u11,u12,u13,u14,u15] t (0,0))):(Instr.loadAt 29 (.pointer (some ⟨b,0,none⟩))).run Tryz.prog w=.ok (.agg #[u0,u1,u2,u3,u4,u5,u6,u7,u8,u9,u10,u11,u12,u13,u14,u15]) w:=by
 have x:=az h 0 _ rfl;have H:=az h 1 _ rfl;have A:=az h 2 _ rfl;have z:=az h 3 _ rfl;have K:=az h 4 _ rfl;have m:=az h 5 _ rfl;have E:=az h 6 _ rfl;have c:=az h 7 _ rfl;have d:=az h 8 _ rfl;have F:=az h 9 _ rfl;have G:=az h 10 _ rfl;have j:=az h 11 _ rfl;have u:=az h 12 _ rfl;have I:=az h 13 _ rfl;have k:=az h 14 _ rfl;have f:=az h 15 _ rfl;simp[Instr.loadAt,go_sem,x,H,A,z,K,m,E,c,d,F,G,j,u,I,k,f]
section
variable {w : World} {dQ : Array Oper} {rest : List Oper} {o : Oper} {a : Act} {Q : Exit -> Act -> World -> Prop} {b : Nat} {t : TypeId} {u0 u1 u2 u3 u4 u5 u6 u7 u8 u9 u10 u11 u12 u13 u14 u15 : Value}
theorem dB(j:o.guard=none)(m:Operand)(c:o.op=Op.load 29 m)(u:a.eval m=.pointer (some ⟨b,0,none⟩))(h:w.heap[b]?=some (.cells #[u0,u1,u2,u3,u4,u5,u6,u7,u8,u9,u10,u11,u12,u13,u14,u15] t (0,0)))
    (k:wpList Tryz.prog dQ Q rest (a.put o.dst (.agg #[u0,u1,u2,u3,u4,u5,u6,u7,u8,u9,u10,u11,u12,u13,u14,u15])) w):wpList Tryz.prog dQ Q (o::rest) a w:=by
 refine wpList_plain j fun x f=> ?_;have d:=yu h;unfold Oper.wp;simp[execOp,c,u,d,Result.andThen];exact f _ _ k
end
open Go.RowKit Go.Maps
theorem wQ(b t:Nat):∀(d pre cur post:List Value) (w:World),w.heap[b]?=some (.cells (pre++(cur++post)).toArray t (0,0))->cur.length=d.length->(w.setCells b pre.length d).heap[b]?=some (.cells (pre++(d++post)).toArray t (0,0))
 | [],pre,cur,post,w,h,hl=>by
  obtain rfl:cur= []:=List.eq_nil_of_length_eq_zero hl;exact h
 | v::r,pre,c::cur,post,w,h,hl=>by
  have h0:(w.setCell ⟨b,pre.length,none⟩ v).heap[b]?=some (.cells ((pre++ [v])++(cur++post)).toArray t (0,0)):=by
   rw[heap_setCell_same w b pre.length _ _ _ h];simp
  have:=wQ b t r (pre++ [v]) cur post _ h0 (by simpa using hl);rw[List.length_append]at this;simpa [World.setCells]using this
theorem oN(b:Nat):∀(c:List Value) (w:World) (i:Nat),ag (One b) w (w.setCells b i c)
 | [],w,_=>ag.refl _ w
 | v::r,w,i=>(ag.setCell (p:=⟨b,i,none⟩) (ag.refl (One b) w) (fun _=>(rfl:b=b)) v).then (oN b r _ (i+1))
theorem Av{w:World}{b t o:Nat}{cs c:List Value}(h:w.heap[b]?=some (.cells cs.toArray t (0,0)))(d:o+c.length<=cs.length):(w.setCells b o c).heap[b]?=some (.cells (cs.take o++(c++cs.drop (o+c.length))).toArray t (0,0)):=by
 have e:cs.take o++((cs.drop o).take c.length++cs.drop (o+c.length))=cs:=by
  rw[<-List.drop_drop,List.take_append_drop,List.take_append_drop]
 have:=wQ b t c (cs.take o) ((cs.drop o).take c.length) (cs.drop (o+c.length)) w (by rw[e];exact h) (by rw[List.length_take,List.length_drop];omega)
 rwa [List.length_take,Nat.min_eq_left (by omega)]at this
theorem KI{w:World}{b t o:Nat}{cs:List Value}(h:w.heap[b]?=some (.cells cs.toArray t (0,0)))(n:Nat)(d:o+n<=cs.length):w.there b o n:=fun j c=>⟨by rw[aQ h (o+j) _ (List.getElem?_eq_getElem (by omega))];rfl,frozen_of_row w b (o+j) _ _ h⟩
theorem Dt(w:World)(b o:Nat)(d:TypeId)(v:Value)(c:List Value)(x:v.cells=c.toArray)(h:w.there b o c.length)(k:(Tryz.prog.info? d).map (·.size)=some c.length)(h1:∀u∈c,u.oneCell'=true):
    (storeVar d ⟨b,o,none⟩ v).run Tryz.prog w=.ok () (w.setCells b o c):=by
 have:=run_storeCells_cells (P:=Tryz.prog) b o c 0 w (fun j f=>by simpa using(h j f).1) (fun j f=>by simpa using(h j f).2) h1
 cases hq:Tryz.prog.info? d with
 | none=>simp[hq]at k
 | some i=>
  have m:i.size=c.length:=by simpa [hq]using k
  simp only[Nat.add_zero]at this;simp[storeVar,sizeOf,typeInfo,hq,x,m,this]
theorem bB{dQ:Array Oper}{rest:List Oper}{op:Oper}{a:Act}{w:World}{Q:Exit->Act->World->Prop}(G:op.guard=none)(f:TypeId)(x y:Operand)(A:op.op=.store f x y)(b o:Nat)(v:Value)(c:List Value)(H:a.eval x=.pointer (some ⟨b,o,none⟩))(z:a.eval y=v)(E:v.cells=c.toArray)(cs:List Value)(t:Nat)(k:w.heap[b]?=some (.cells cs.toArray t (0,0)))(j:o+c.length<=cs.length)(F:(Tryz.prog.info? f).map (·.size)=some c.length)(h1:c.all (·.oneCell')=true)(d:List Value)(m:cs.take o++(c++cs.drop (o+c.length))=d)
    (h:∀W',W'.heap[b]?=some (.cells d.toArray t (0,0))->ag (One b) w W'->wpList Tryz.prog dQ Q rest (a.put op.dst undef) W'):wpList Tryz.prog dQ Q (op::rest) a w:=by
 refine wpList_plain G fun I u=> ?_;unfold Oper.wp execOp;simp only[A,H,z,Instr.storeAt,Instr.sureAddr,Sem.run_bind,Sem.run_pure,Result.andThen_ok,Dt w b o f v c E (KI k _ j) F (List.all_eq_true.1 h1)];refine u _ _ (h _ ?_ (oN b c w o));rw[<-m];exact Av k j
theorem QL{op:Oper}{a:Act}{w:World}{K:Act->World->Prop}{Q:Exit->Act->World->Prop}(j:TypeId)(x y:Operand)(E:op.op=.store j x y){d:Option Tmp}(z:op.dst=d)(b o:Nat)(v:Value)(c:List Value)(H:a.eval x=.pointer (some ⟨b,o,none⟩))(A:a.eval y=v)(F:v.cells=c.toArray)(cs:List Value)(t:Nat)(m:w.heap[b]?=some (.cells cs.toArray t (0,0)))(k:o+c.length<=cs.length)(G:(Tryz.prog.info? j).map (·.size)=some c.length)(h1:c.all (·.oneCell')=true)(f:List Value)(u:cs.take o++(c++cs.drop (o+c.length))=f)
    (h:∀W',W'.heap[b]?=some (.cells f.toArray t (0,0))->ag (One b) w W'->K (a.put d undef) W'):op.wp Tryz.prog a w K Q:=by
 subst z;unfold Oper.wp execOp;simp only[E,H,A,Instr.storeAt,Instr.sureAddr,Sem.run_bind,Sem.run_pure,Result.andThen_ok,Dt w b o j v c F (KI m _ k) G (List.all_eq_true.1 h1)];refine h _ ?_ (oN b c w o);rw[<-u];exact Av m k
theorem F9{w:World}{B e s n:Nat}{v:Value}{xs:List Value}(h:w.ownsRow B e s v n xs):v.cells= [v].toArray:=by
 rcases h.2 with⟨rfl,_⟩| ⟨g,cap,cur,rfl,_⟩<;>rfl
theorem QM{w:World}{B e s n:Nat}{v:Value}{xs:List Value}(h:w.ownsRow B e s v n xs): [v].all (·.oneCell')=true:=by
 rcases h.2 with⟨rfl,_⟩| ⟨g,cap,cur,rfl,_⟩<;>rfl
open Go.RowKit
theorem zeb{w:World}(o:Obj):(w.alloc o).heap[w.heap.size]?=some o:=heap_alloc_new w o
theorem rq{w:World}{b t:Nat}{cur:Array Value}{c:Nat×Nat}(h:w.heap[b]?=some (.cells cur t c))(j:Nat)(v:Value)(d:cur[j]?=some v):w.cell? ⟨b,j,none⟩=some v:=by
 simp[World.cell?,h,d]
theorem fzP{w:World}{b t:Nat}{cur:Array Value}(h:w.heap[b]?=some (.cells cur t (0,0)))(j:Nat):w.frozen? ⟨b,j,none⟩=false:=frozen_of_row w b j _ _ h
def zad(b:Nat):Nat->Prop:=fun k=>k=b
def setL(w:World)(b:Nat):Nat->List Value->World
 | _, []=>w
 | i,v::r=>setL (w.setCell ⟨b,i,none⟩ v) b (i+1) r
theorem ru(b:Nat):∀(c:List Value) (w:World) (i:Nat),ag (zad b) w (setL w b i c)
 | [],w,_=>ag.refl _ w
 | v::r,w,i=>by
  unfold setL;exact(ag.setCell (p:=⟨b,i,none⟩) (ag.refl (zad b) w) (fun _=>(rfl:b=b)) v).then (ru b r _ (i+1))
theorem F_(b t:Nat):∀(d pre cur:List Value) (w:World),w.heap[b]?=some (.cells (pre++cur).toArray t (0,0))->cur.length=d.length->(setL w b pre.length d).heap[b]?=some (.cells (pre++d).toArray t (0,0))
 | [],pre,cur,w,h,hl=>by
  obtain rfl:cur= []:=List.eq_nil_of_length_eq_zero hl;exact h
 | v::r,pre,c::cur,w,h,hl=>by
  unfold setL;have h0:(w.setCell ⟨b,pre.length,none⟩ v).heap[b]?=some (.cells ((pre++ [v])++cur).toArray t (0,0)):=by
   rw[heap_setCell_same w b pre.length _ _ _ h];simp
  have:=F_ b t r (pre++ [v]) cur _ h0 (by simpa using hl);rw[List.length_append]at this;simpa using this
theorem yw{w:World}{b t:Nat}{cur:List Value}(c:List Value)(h:w.heap[b]?=some (.cells cur.toArray t (0,0)))(d:cur.length=c.length):(setL w b 0 c).heap[b]?=some (.cells c.toArray t (0,0)):=F_ b t c [] cur w h d
def J.ks:J->List ByteArray
 | .mk _ _ _ ks _=>ks
def J.ls:J->List J
 | .mk _ _ _ _ l=>l
def J.kd:J->Int
 | .mk k _ _ _ _=>k
def lookV:List ByteArray->List J->ByteArray->Option J
 | k::ks,v::l,s=>if k.toList==s.toList then some v else lookV ks l s
 | _,_,_=>none
theorem jI{fn:Func}{a u:Tmp}{t:TypeId}(h:fn.results=#[.cell a t,.tmp u])(tmps:Array Value)(P:Program)(w:World){c:Addr}{v:Value}(d:tmps.getD a undef=.pointer (some c))(f:(loadVar t c).run P w=.ok v w):
    (results fn tmps).run P w=.ok (.tuple #[v,tmps.getD u undef]) w:=by
 rw[Array.getD_eq_getD_getElem?]at d;simp[results,h,d,f,asAddr]
theorem Ie{w:World}{b t:Nat}{a0 a1 a2 a3 a4:Value}(h:w.heap[b]?=some (.cells #[a0,a1,a2,a3,a4] t (0,0))):(loadVar 25 ⟨b,0,none⟩).run Tryz.prog w=.ok (.agg #[a0,a1,a2,a3,a4]) w:=by
 have c:=rq h 0 _ rfl;have d:=rq h 1 _ rfl;have j:=rq h 2 _ rfl;have f:=rq h 3 _ rfl;have k:=rq h 4 _ rfl;simp[loadVar,go_sem,c,d,j,f,k]
theorem O0{O:Nat->Prop}{w:World}{d f:Int}{c:ByteArray}{ks:List ByteArray}{l:List J}{k i:Int}{t:ByteArray}{pk pl:Option Addr}{nk ck nl cl:Nat}(h:isJ O w (.mk d f c ks l) [.int .i64 k,.int .i64 i,.string t,.slice pk nk ck,.slice pl nl cl]):
    k=d/\i=f/\t=c/\nk=ks.length/\nl=l.length/\j5 O w pk ck ks/\l.length<=cl/\isJs O w pl 0 l:=by
 unfold isJ at h;obtain⟨x,m,j,u,e,h1,h2,h3⟩:=h;simp only[List.cons.injEq,Value.int.injEq,Value.string.injEq,Value.slice.injEq,true_and,and_true]at e;obtain⟨rfl,rfl,rfl,⟨rfl,rfl,rfl⟩,rfl,rfl,rfl⟩:=e;exact⟨rfl,rfl,rfl,rfl,rfl,h1,h2,h3⟩
abbrev zJP:Value:=.agg #[.int .i64 0,.int .i64 0,.string ⟨#[]⟩,.slice none 0 0,.slice none 0 0]
def zb5(O:Nat->Prop)(w':World):Option J->Ending->Prop
 | none,e=>e=.returned (.tuple #[zJP,.bool false])
 | some v,e=>∃k i t p n c q m d,e=.returned (.tuple #[.agg #[.int .i64 k,.int .i64 i,.string t,.slice p n c,.slice q m d],.bool true])/\isJ O w' v [.int .i64 k,.int .i64 i,.string t,.slice p n c,.slice q m d]
def Xl(j:J)(s:ByteArray):Option J:=if j.kd=5 then lookV j.ks j.ls s else none
theorem Du:∀{ks:List ByteArray} {l:List J} {s:ByteArray} {n:Nat},n<ks.length->n<l.length->(∀m,m<n->((ks.getD m aH).toList==s.toList)=false)->((ks.getD n aH).toList==s.toList)=true->lookV ks l s=some (l.getD n J.zero)
 | [],_,_,_,h,_,_,_=>absurd h (by simp)
 | _::_, [],_,_,_,h,_,_=>absurd h (by simp)
 | k::ks,v::l,s,0,_,_,_,c=>by
  have c:(k.toList==s.toList)=true:=by simpa using c
  unfold lookV;rw[if_pos c];simp
 | k::ks,v::l,s,n+1,h1,h2,hm,c=>by
  have h0:(k.toList==s.toList)=false:=by have:=hm 0 (by omega);simpa using this
  unfold lookV;rw[h0,if_neg (by decide),Du (n:=n) (by simpa using h1) (by simpa using h2) (fun m h=>by have:=hm (m+1) (by omega);simpa using this) (by simpa using c)];simp
theorem xq:∀{ks:List ByteArray} {l:List J} {s:ByteArray},(∀m,m<ks.length->m<l.length->((ks.getD m aH).toList==s.toList)=false)->lookV ks l s=none
 | [],_,_,_=>by unfold lookV;rfl
 | _::_, [],_,_=>by unfold lookV;rfl
 | k::ks,v::l,s,h=>by
  have h0:(k.toList==s.toList)=false:=by have:=h 0 (by simp) (by simp);simpa using this
  unfold lookV;rw[h0,if_neg (by decide)];exact xq fun m h1 h2=>by have:=h (m+1) (by simpa using h1) (by simpa using h2);simpa using this
theorem zae{O:Nat->Prop}{w:World}{j:J}{k i:Int}{t:ByteArray}{pk pl:Option Addr}{nk ck nl cl:Nat}(hj:isJ O w j [.int .i64 k,.int .i64 i,.string t,.slice pk nk ck,.slice pl nl cl])(hO:∀b,O b->b<w.heap.size)(hz:j.ks.length<=100000)(s:ByteArray):
    Calls Tryz.prog 19 #[.agg #[.int .i64 k,.int .i64 i,.string t,.slice pk nk ck,.slice pl nl cl],.string s] w fun e w'=>zb5 O w' (Xl j s) e/\Below w.heap.size w w':=by
 obtain⟨kx,ix,tx,ks,l⟩:=j;obtain⟨rfl,rfl,rfl,rfl,rfl,hk,Ed,mf⟩:=O0 hj;clear hj;obtain⟨o,ho⟩:∃o,Xl (.mk k i t ks l) s=o:=⟨_,rfl⟩;rw[ho];have UJ:Hid (k=5->o=lookV ks l s):=fun h=>by rw[<-ho];unfold Xl;exact if_pos h
 have A:Hid (¬k=5->o=none):=fun h=>by rw[<-ho];unfold Xl;exact if_neg h
 clear ho;simp only[J.ks]at hz;obtain⟨W0,f⟩:∃W0,W0=(w.alloc (.cells #[.int .i64 k,.int .i64 i,.string t,.slice pk ks.length ck,.slice pl l.length cl] 25)).alloc (.cells #[.int .i64 0,.int .i64 0,.string ⟨#[]⟩,.slice none 0 0,.slice none 0 0] 25):=⟨_,rfl⟩;have o7:Below w.heap.size w W0:=by rw[f];exact((Below.refl _ _).alloc (Nat.le_refl _) _).alloc (by simp) _
 have E:W0.heap[w.heap.size]?=some (.cells #[.int .i64 k,.int .i64 i,.string t,.slice pk ks.length ck,.slice pl l.length cl] 25 (0,0)):=by rw[f,Below.heap_alloc _ _ _ (by simp)];exact zeb _
 have c:W0.heap[w.heap.size+1]?=some (.cells #[.int .i64 0,.int .i64 0,.string ⟨#[]⟩,.slice none 0 0,.slice none 0 0] 25 (0,0)):=by
  rw[f];have:=zeb (w:=w.alloc (.cells #[.int .i64 k,.int .i64 i,.string t,.slice pk ks.length ck,.slice pl l.length cl] 25)) (.cells #[.int .i64 0,.int .i64 0,.string ⟨#[]⟩,.slice none 0 0,.slice none 0 0] 25);rw[World.size_alloc]at this;exact this
 obtain⟨nk,nP⟩:∃n,ks.length=n:=⟨_,rfl⟩;obtain⟨nl,mo⟩:∃n,l.length=n:=⟨_,rfl⟩;have jd:Hid (ks.length=nk):=nP;have nH:Hid (l.length=nl):=mo;have Bj:=hk.1;rw[nP]at hz Bj E f ⊢;rw[mo]at Ed E f ⊢;clear nP mo;have c0:=rq E 0 _ rfl;have c3:=rq E 3 _ rfl;have c4:=rq E 4 _ rfl;have i0:=rq c 0 _ rfl;have i1:=rq c 1 _ rfl;have i2:=rq c 2 _ rfl;have i3:=rq c 3 _ rfl;have i4:=rq c 4 _ rfl;have z0:=fzP c 0;have z1:=fzP c 1;have z2:=fzP c 2;have z3:=fzP c 3;have z4:=fzP c 4;have N:Hid (W0.heap[w.heap.size+1]?=some (.cells #[.int .i64 0,.int .i64 0,.string ⟨#[]⟩,.slice none 0 0,.slice none 0 0] 25 (0,0))):=c;have HN:Hid (∀X,ag (zad (w.heap.size+1)) W0 X->Below w.heap.size w X):=fun X hX=>o7.trans (hX.below o7.size fun q hq e=>by unfold zad at e;omega);clear c E
 by_cases k5:k=5
 ·subst k5;have K:=(show Hid _ from UJ.out rfl);clear UJ A;go_enter Tryz.func19,Tryz.ntmps19
  go_upto_region 1 with fail
  rw[<-f];clear f;go_wp2
  go_loopw [6] (fun v wr=>∃m:Nat,v=.int .i64 m/\m<=nk/\m<=nl/\Hid (∀y,y<m->((ks.getD y aH).toList==s.toList)=false)/\wr=W0) (fun v _=>nk - (intOf v).toNat)
  case atStart=>exact⟨0,rfl,Nat.zero_le _,Nat.zero_le _,fun m hm=>absurd hm (by omega),rfl⟩
  case round=>
   obtain⟨m,rfl,hm,lG,S,rfl⟩:=hrel
   by_cases bQ:m<nk
   ·by_cases ML:m<nl
    ·have oH:(m:Int)<(nk:Int):=by omega
     have Tx:(m:Int)<(nl:Int):=by omega
     obtain⟨a,rfl,xf,I⟩:=hk.2 m (by rw[jd.out];exact bQ);have DW:wr.cell? (a.add m)=some (.string (ks.getD m aH)):=(World.cell?_of_block (by rw[bu];exact o7.block _ (hO _ xf))).trans I;obtain⟨F,lo,cs,rO,za,bL,iV⟩:=isJs.at l 0 m mf (by rw[nH.out];exact ML);subst rO;obtain⟨H,iv,T,pv,nv,Z,V,Y,dv,rfl⟩:=dD iV;have G:∀n v, [Value.int .i64 H,.int .i64 iv,.string T,.slice pv nv Z,.slice V Y dv][n]?=some v->wr.cell? ⟨F,lo+m*5+n,none⟩=some v:=fun n v h=>by
      have:=bL n v h;rw[Nat.zero_add]at this;exact(World.cell?_of_block (a:=⟨F,lo+m*5+n,none⟩) (o7.block F (hO F za))).trans this
     have y0:wr.cell? ⟨F,lo+m*5,none⟩=some (.int .i64 H):=G 0 _ rfl;have y1:=G 1 _ rfl;have y2:=G 2 _ rfl;have y3:=G 3 _ rfl;have y4:=G 4 _ rfl;have HYJ:Hid (isJ O w (l.getD m J.zero) [Value.int .i64 H,.int .i64 iv,.string T,.slice pv nv Z,.slice V Y dv]):=iV;have YV:=hO F za;have z:Hid (((ks.getD m aH).toList==s.toList)=true->lookV ks l s=some (l.getD m J.zero)):=fun h=>Du (by rw[jd.out];exact bQ) (by rw[nH.out];exact ML) S.out h;have U:Hid (((ks.getD m aH).toList==s.toList)=false->∀y,y<m+1->((ks.getD y aH).toList==s.toList)=false):=fun h y hy=>(Nat.lt_succ_iff_lt_or_eq.1 hy).elim (S.out y) fun e=>by rw[e];exact h
     clear G bL iV I;generalize ks.getD m aH=u at DW z U
     cases he:(u.toList==s.toList)with
     | true=>
      have HL:=(show Hid _ from z.out he);clear z U;go_wp2;have h5:=yw (b:=w.heap.size+1) [.int .i64 H,.int .i64 iv,.string T,.slice pv nv Z,.slice V Y dv] N.out rfl;have d:=ru (w.heap.size+1) [.int .i64 H,.int .i64 iv,.string T,.slice pv nv Z,.slice V Y dv] wr 0;simp only[setL,Nat.zero_add,Nat.reduceAdd]at h5 d;refine bodyPost_ret (jI rfl _ _ _ rfl (Ie h5)) rfl ?_;rw[K.out,HL.out];have zb:=HN.out _ d;exact⟨⟨_,_,_,_,_,_,_,_,_,rfl,HYJ.out.carry fun x hx=>⟨hx,zb.block x (hO x hx)⟩⟩,zb⟩
     | false=>
      have HS:=(show Hid _ from U.out he);clear z U;go_wp2;go_roundw
      case rel=>exact⟨m+1,by go_num,bQ,ML,HS,trivial⟩
      case measure=>simp[intOf];omega
    ·obtain rfl:m=nl:=by omega
     have z:Hid (lookV ks l s=none):=xq fun y h1 h2=>S.out y (by rw[<-nH.out];exact h2);have oH:(m:Int)<(nk:Int):=by omega
     go_wp2;have h5:=yw (b:=w.heap.size+1) [.int .i64 0,.int .i64 0,.string ⟨#[]⟩,.slice none 0 0,.slice none 0 0] N.out rfl;have d:=ru (w.heap.size+1) [.int .i64 0,.int .i64 0,.string ⟨#[]⟩,.slice none 0 0,.slice none 0 0] wr 0;simp only[setL,Nat.zero_add,Nat.reduceAdd]at h5 d;refine bodyPost_ret (jI rfl _ _ _ rfl (Ie h5)) rfl ?_;rw[K.out,z.out];exact⟨rfl,HN.out _ d⟩
   ·obtain rfl:m=nk:=by omega
    have z:Hid (lookV ks l s=none):=xq fun y h1 h2=>S.out y (by rw[<-jd.out];exact h1);go_wp2;have h5:=yw (b:=w.heap.size+1) [.int .i64 0,.int .i64 0,.string ⟨#[]⟩,.slice none 0 0,.slice none 0 0] N.out rfl;have d:=ru (w.heap.size+1) [.int .i64 0,.int .i64 0,.string ⟨#[]⟩,.slice none 0 0,.slice none 0 0] wr 0;simp only[setL,Nat.zero_add,Nat.reduceAdd]at h5 d;refine bodyPost_ret (jI rfl _ _ _ rfl (Ie h5)) rfl ?_;rw[K.out,z.out];exact⟨rfl,HN.out _ d⟩
 ·have K:=(show Hid _ from A.out k5);clear UJ A;go_enter Tryz.func19,Tryz.ntmps19
  go_upto_region 1 with fail
  rw[<-f];clear f;go_wp2;have h5:=yw (b:=w.heap.size+1) [.int .i64 0,.int .i64 0,.string ⟨#[]⟩,.slice none 0 0,.slice none 0 0] N.out rfl;have d:=ru (w.heap.size+1) [.int .i64 0,.int .i64 0,.string ⟨#[]⟩,.slice none 0 0,.slice none 0 0] W0 0;simp only[setL,Nat.zero_add,Nat.reduceAdd]at h5 d;refine bodyPost_ret (jI rfl _ _ _ rfl (Ie h5)) rfl ?_;rw[K.out];exact⟨rfl,HN.out _ d⟩
open Go.RowKit Go.Maps
theorem QN:∀(ks:List ByteArray) (l:List J) (s:ByteArray),lookV ks l s=lookJ (ks.zip l) s
 | [],_,_=>by unfold lookV;rfl
 | _::_, [],_=>by unfold lookV;rfl
 | k::ks,v::l,s=>by
  rw[List.zip_cons_cons];unfold lookV lookJ
  by_cases h:k.data=s.data
  ·have e:k=s:=zx h;rw[if_pos h,e,if_pos (by simp)]
  ·have e:(k.toList==s.toList)=false:=by
     rw[beq_eq_false_iff_ne];exact fun e=>h (by rw[toList_inj e])
   rw[if_neg h,e,if_neg (by decide),QN ks l s]
theorem Xm{O:Nat->Prop}{w:World}{j:J}{k i:Int}{t:ByteArray}{pk pl:Option Addr}{nk ck nl cl:Nat}(E:j.kind=5)(z:isJ O w j [.int .i64 k,.int .i64 i,.string t,.slice pk nk ck,.slice pl nl cl])(f:∀b,O b->b<w.heap.size)(u:j.keys.length<=100000)(s:ByteArray):
    Calls Tryz.prog 19 #[.agg #[.int .i64 k,.int .i64 i,.string t,.slice pk nk ck,.slice pl nl cl],.string s] w fun x w'=>(∃k i t p n c q m d,x=.returned (.tuple #[.agg #[.int .i64 k,.int .i64 i,.string t,.slice p n c,.slice q m d],.bool (lookJ (mg j) s).isSome])/\isJ O w' (gq j s) [.int .i64 k,.int .i64 i,.string t,.slice p n c,.slice q m d])/\Below w.heap.size w w':=by
 have F:Xl j s=lookJ (mg j) s:=by
  obtain⟨A,H,G,ks,l⟩:=j;obtain rfl:A=5:=E
  show(if(5:Int)=5 then lookV ks l s else none)=lookJ (ks.zip l) s
  rw[if_pos rfl,QN]
 refine(zae z f (by cases j;exact u) s).mono fun x w' h=>⟨?_,h.2⟩;have h1:=h.1;rw[F]at h1;unfold gq gz
 cases e:lookJ (mg j) s with
 | none=>
  rw[e]at h1;exact⟨_,_,_,_,_,_,_,_,_,h1,uz _ _⟩
 | some v=>
  rw[e]at h1;obtain⟨k,i,t,p,n,c,q,m,d,h2,h3⟩:=h1;exact⟨k,i,t,p,n,c,q,m,d,h2,h3⟩
theorem zaf{O:Nat->Prop}{w:World}{j:J}{k i:Int}{t:ByteArray}{pk pl:Option Addr}{nk ck nl cl:Nat}(I:isJ O w j [.int .i64 k,.int .i64 i,.string t,.slice pk nk ck,.slice pl nl cl])(hO:∀b,O b->b<w.heap.size)(hl:nl<=100000):
    Calls Tryz.prog 20 #[.agg #[.int .i64 k,.int .i64 i,.string t,.slice pk nk ck,.slice pl nl cl]] w fun x w'=>(∃q m c,x=.returned (.tuple #[.slice q m c,.bool (uS j)])/\(uS j=true->m=nl/\j5 (gH w w') w' q c (j.list.map J.text)))/\Below w.heap.size w w':=by
 obtain⟨WA,K⟩:∃WA,WA=w.alloc (.cells #[.int .i64 k,.int .i64 i,.string t,.slice pk nk ck,.slice pl nl cl] 25):=⟨_,rfl⟩;have dM:Below w.heap.size w WA:=by rw[K];exact(Below.refl _ _).alloc (Nat.le_refl _) _
 have UU:WA.heap[w.heap.size]?=some (.cells #[.int .i64 k,.int .i64 i,.string t,.slice pk nk ck,.slice pl nl cl] 25 (0,0)):=by rw[K];exact heap_alloc_new _ _
 have FM:WA.heap.size=w.heap.size+1:=by rw[K];simp
 have V:Hid (nl=j.list.length):=(bC I).2.2.2.2.1;have HKD:Hid (j.kind=k):=(bC I).1;have Ed:=(bC I).2.2.2.2.2.2.1;have mf:=(bC I).2.2.2.2.2.2.2;have zgp:nl<=cl:=by have:=V.out;omega
 have HO:Hid (∀b,O b->b<w.heap.size):=hO;have G:Hid (uS j=(decide (k=4)&& !b_ j.list)):=by show _=_;unfold uS;rw[HKD.out]
 clear I Ed hO;go_enter Tryz.func20,Tryz.ntmps20
 go_upto_region 1 with fail
 rw[<-K];clear K;go_wp2
 go_loopw [4,5] (fun vr v wr=>∃m:Nat,v=.int .i64 m/\m<=nl/\Hid (b_ (j.list.take m)=false)/\wr.ownsRow (w.heap.size+1) 9 1 vr m (((j.list.take m).map J.text).map Value.string)/\Below WA.heap.size WA wr) (fun _ v _=>nl - (intOf v).toNat)
 case atStart=>exact⟨0,rfl,Nat.zero_le _,by show _=_;rw[List.take_zero];rfl,World.ownsRow_nil _ _ _ _,Below.refl _ _⟩
 case round=>
  obtain⟨m,rfl,hm,H,d,f⟩:=hrel;have fI:=f.size;obtain⟨qv,cv,X⟩:=fe d;subst X;have vV:=(f.block w.heap.size (by omega)).trans UU;have b0:=rX vV;have b4:=aZ vV
  by_cases lG:m<nl
  ·have oH:(m:Int)<(nl:Int):=by omega
   have U:m<j.list.length:=by rw[<-V.out];exact lG
   obtain⟨u,lo,cs,rO,uq,bL,N⟩:=isJs.at j.list 0 m mf U;subst rO;obtain⟨F,x1,E,p3,n3,c3,p4,n4,c4,rfl⟩:=dD N;have rW:=HO.out u uq;have gT:wr.heap[u]?=w.heap[u]?:=(f.block u (by omega)).trans (dM.block u rW);have cc:∀n v, [Value.int .i64 F,.int .i64 x1,.string E,.slice p3 n3 c3,.slice p4 n4 c4][n]?=some v->wr.cell? ⟨u,lo+m*5+n,none⟩=some v:=fun n v h=>by
    have:=bL n v h;rw[Nat.zero_add]at this;exact(World.cell?_of_block (a:=⟨u,lo+m*5+n,none⟩) gT).trans this
   have y0:wr.cell? ⟨u,lo+m*5,none⟩=some (.int .i64 F):=cc 0 _ rfl;have y2:=cc 2 _ rfl;have e0:=(bC N).1;have e2:=(bC N).2.2.1;have YU:j.list.take (m+1)=j.list.take m++ [j.list.getD m J.zero]:=by
    rw[List.take_add_one,List.getElem?_eq_getElem U,List.getD_eq_getElem?_getD,List.getElem?_eq_getElem U];rfl
   have T:Hid (b_ (j.list.take (m+1))=decide (F≠3)):=by show _=_;rw[YU,uP,e0,H.out,Bool.false_or]
   have z:Hid (b_ (j.list.take (m+1))=true->b_ j.list=true):=fun h=>by
    cases h2:b_ j.list with
    | true=>rfl
    | false=>rw[Au h2]at h;cases h
   have Y:Hid (((j.list.take (m+1)).map J.text).map Value.string=((j.list.take m).map J.text).map Value.string++ [.string E]):=by show _=_;rw[YU,List.map_append,List.map_append,List.map_cons,List.map_nil,List.map_cons,List.map_nil,e2]
   obtain⟨WJ,De⟩:∃r,((j.list.take m).map J.text).map Value.string=r:=⟨_,rfl⟩;rw[De]at d Y;clear cc bL N YU De e0 e2 U;have wW:=aJ d
   by_cases Z:F=3
   ·subst Z;have HN2:Hid (b_ (j.list.take (m+1))=false):=by show _=_;rw[T.out];rfl
    clear T z;have WL:=d.alloc (.cells #[.string E] 9);go_wp2_with(at_builtin;refine nA rfl _ _ 22 rfl (w.heap.size+1) 9 (.string ⟨#[]⟩) 1 16 Tryz.underlying22 Tryz.jM rfl (by decide) (by decide) _ m WJ rfl WL _ [.string E] rfl rfl (Bv (by simp)) (yh E) (by omega) (by simp;omega) ?_;intro vr2 W4 Tw lZ ib);have uF:Below WA.heap.size WA W4:=(f.alloc f.size (.cells #[.string E] 9)).trans ((ag.dt (S:=fun q=>(Value.slice qv m cv).ownBlock=some q) lZ fun _ _ e=>e).below (by simp;omega) fun q hq e=>by have:=(wW q e).1;omega);go_roundw
    case rel=>exact⟨m+1,by go_num,lG,HN2,by rw[Y.out];exact Tw,uF⟩
    case measure=>simp[intOf];omega
   ·have e1:(F==3)=false:=by simpa using Z
    have HF:Hid (uS j=false):=by
     show _=_
     rw[G.out,z.out (by rw[T.out];exact decide_eq_true Z)];simp
    clear T z Y;go_wp2;go_ret2;exact⟨⟨none,0,0,by rw[HF.out];rfl,fun h=>by rw[HF.out]at h;cases h⟩,ae dM f⟩
  ·obtain rfl:m=nl:=by omega
   have xW:j.list.take m=j.list:=List.take_of_length_le (by rw[V.out];omega);rw[xW]at d;have A:=H.out;rw[xW]at A;have HOW:Hid (wr.ownsRow (w.heap.size+1) 9 1 (.slice qv m cv) m ((j.list.map J.text).map Value.string)):=d;have zgq:Hid (uS j=decide (k=4)):=by show _=_;rw[G.out,A];simp
   clear d A;obtain⟨kb,ZC⟩:∃kb,decide (k=4)=kb:=⟨_,rfl⟩;have IK:Hid (decide (k=4)=kb):=ZC;clear ZC
   go_upto_region 8 with fail
   go_quiet (fail);go_wp2_with fail;go_ret2;have cB:(j.list.map J.text).length=m:=by rw[List.length_map,<-V.out]
   obtain⟨q',c',e',ll⟩:=nT (S:=j.list.map J.text) (by rw[cB];exact HOW.out);rw[cB]at e'
   cases e'
   refine⟨⟨_,_,_,by rw[zgq.out];first| rfl| simp,fun _=>⟨rfl,ll.carry fun q hq=>⟨⟨by have:=hq.1;omega,hq.2⟩,rfl⟩⟩⟩,ae dM ?_⟩
   first| exact f| exact⟨f.os,f.tape,f.output,f.size,f.block⟩
open Go.RowKit
theorem vP{c:Nat}{l:List ByteArray}:bZ c l=true↔l.length<=c/\l.Pairwise (· ≠ ·)/\∀x∈l,Id.vH x=true:=by
 unfold bZ;rw[Bool.and_eq_true,Bool.and_eq_true,decide_eq_true_eq,List.all_eq_true];exact⟨fun h=>⟨h.1.1,iD h.1.2,h.2⟩,fun h=>⟨⟨h.1,gU h.2.1⟩,h.2.2⟩⟩
theorem vQ{α:Type}(l:List α)(k:Nat)(d:α)(c:k<l.length):l.take (k+1)=l.take k++ [l.getD k d]:=by
 rw[List.take_succ_eq_append_getElem c,List.getD_eq_getElem?_getD,List.getElem?_eq_getElem c];rfl
theorem KL{α:Type}{l:List α}{k:Nat}{d:α}(h:k<l.length):l.getD k d∈l:=by
 rw[List.getD_eq_getElem?_getD,List.getElem?_eq_getElem h];exact List.getElem_mem _
theorem zed(s t:ByteArray):(s.toList==t.toList)=decide (s=t):=by
 rw[Bool.eq_iff_iff,beq_iff_eq,decide_eq_true_eq]
 constructor
 ·intro h;rw[ByteArray.toList_eq,ByteArray.toList_eq]at h;exact ByteArray.ext (Array.toList_inj.1 h)
 ·rintro rfl;rfl
theorem Aw{O:Nat->Prop}{l:List ByteArray}{p:Option Addr}{c:Nat}{w:World}(d:Nat)(mF:j5 O w p c l)(hO:∀k,O k->k<w.heap.size)(_hl:l.length<=100000)(hm:d<=1000):
    Calls Tryz.prog 47 #[.slice p l.length c,.int .i64 d] w fun x w'=>x=.returned (.bool (bZ d l))/\Below w.heap.size w w':=by
 by_cases S:l.length<=d
 ·have HLM:Hid (l.length<=d):=S;have hdm:decide (d<l.length)=false:=by simp;omega
  go_enter Tryz.func47,Tryz.ntmps47;go_wp2
  go_loopw [5] (fun i wr=>∃k:Nat,k<=l.length/\i=.int .i64 k/\(∀x∈l.take k,Id.vH x=true)/\(l.take k).Pairwise (· ≠ ·)/\Below w.heap.size w wr) (fun i _=>l.length - (intOf i).toNat)
  case atStart=>exact⟨0,Nat.zero_le _,rfl,by simp,by simp,Below.refl _ _⟩
  case round=>
   obtain⟨k,hk,rfl,eT,N,F⟩:=hrel;have HA:Hid (∀x∈l.take k,Id.vH x=true):=eT;have HP:Hid ((l.take k).Pairwise (· ≠ ·)):=N;clear eT N
   by_cases E:k<l.length
   ·obtain⟨a,rfl,xf,DW⟩:=mF.2 k E;have HC:Hid (∀j,j<l.length->∀f,Below w.heap.size w f->f.cell? (a.add j)=some (.string (l.getD j aH))):=fun j hj f u=>by
     obtain⟨a',e,Y,hc'⟩:=mF.2 j hj
     cases e
     exact(World.cell?_of_block (by rw[bu];exact u.block _ (hO _ Y))).trans hc'
    have je:=HC.out k E wr F;have HT:Hid (l.take (k+1)=l.take k++ [l.getD k aH]):=vQ l k _ E;have HM:Hid (l.getD k aH∈l):=KL E;have X:Hid (∀f,Below w.heap.size w f->f.cell? (a.add k)=some (.string (l.getD k aH))):=HC.out k E;have Z:Hid (∀m,m<k->l.getD m aH=l.getD k aH->bZ d l=false):=by
     intro m uN e
     cases hn:bZ d l with
     | false=>rfl
     | true=>
      have hp:=(vP.1 hn).2.1;have:=List.pairwise_iff_getElem.1 hp m k (by omega) E uN;rw[List.getD_eq_getElem?_getD,List.getD_eq_getElem?_getD,List.getElem?_eq_getElem E,List.getElem?_eq_getElem (show m<l.length by omega)]at e;exact absurd e this
    clear DW;generalize l.getD k aH=x at*;have I:=Id.sH x wr
    cases u:Id.vH x with
    | false=>
     rw[u]at I;have A:Hid (bZ d l=false):=by
      show _=_
      cases hn:bZ d l with
      | false=>rfl
      | true=>have:=(vP.1 hn).2.2 x HM.out;rw[u]at this;cases this
     clear u;go_wp2_with(first
      | (go_at_call 49;refine I.mono ?_;rintro e w1 ⟨rfl,U⟩))
     go_ret;exact⟨ak A.out.symm,F.trans (U.mono F.size)⟩
    | true=>
     rw[u]at I;have HX:Hid (Id.vH x=true):=u;clear u;go_wp2_with(first
      | (go_at_call 49;refine I.mono ?_;rintro e w1 ⟨rfl,U⟩
         have dK:=F.trans (U.mono F.size)))
     clear I je U
     go_loopw [6] (fun i f=>∃m:Nat,m<=k/\i=.int .i64 m/\x∉l.take m/\Below w.heap.size w f) (fun i _=>k - (intOf i).toNat)
     case atStart=>exact⟨0,Nat.zero_le _,rfl,by simp,dK⟩
     case round=>
      clear dK;obtain⟨m,hm',rfl,Js,K⟩:=hrel;have H:Hid (x∉l.take m):=Js;clear Js
      by_cases ML:m<k
      ·have lG:m<l.length:=by omega
       have c1:=HC.out m lG wr K;have c2:=X.out wr K;have HT2:Hid (l.take (m+1)=l.take m++ [l.getD m aH]):=vQ l m _ lG;have T:=Z.out m ML;have zgr:Hid (l.getD m aH=x->bZ d l=false):=T;clear T;generalize l.getD m aH=y at*
       by_cases V:y=x
       ·have ui:(x.toList==y.toList)=true:=by rw[zed];simpa using V.symm
        have A:Hid (bZ d l=false):=zgr.out V;go_wp2;go_quiet (fail);go_wp2;go_ret;exact⟨ak A.out.symm,below_drewN K _⟩
       ·have ui:(x.toList==y.toList)=false:=by rw[zed];simpa using fun e=>V e.symm
        have HN2:Hid (x∉l.take (m+1)):=by
         show x∉l.take (m+1)
         rw[HT2.out,List.mem_append,List.mem_singleton];rintro(h| h)
         ·exact H.out h
         ·exact V h.symm
        go_wp2;go_quiet (fail);go_wp2;go_roundw
        case rel=>exact⟨m+1,by omega,by go_num,HN2.out,below_drewN K _⟩
        case measure=>simp[intOf];omega
      ·obtain rfl:k=m:=by omega
       go_wp2;go_roundw
       case rel=>
        refine⟨k+1,by omega,by go_num,fun y G=> ?_, ?_,K⟩
        ·rw[HT.out,List.mem_append,List.mem_singleton]at G
         rcases G with G| rfl
         ·exact HA.out y G
         ·exact HX.out
        ·rw[HT.out,List.pairwise_append];refine⟨HP.out,by simp,fun y G z hz e=> ?_⟩;rw[List.mem_singleton.1 hz]at e;exact H.out (e ▸ G)
       case measure=>simp[intOf];omega
   ·obtain rfl:k=l.length:=by omega
    have A:Hid (bZ d l=true):=by
     have h1:=HA.out;have h2:=HP.out;rw[List.take_length]at h1 h2;exact vP.2 ⟨HLM.out,h2,h1⟩
    go_wp2;go_ret;exact⟨ak A.out.symm,F⟩
 ·have A:Hid (bZ d l=false):=by
    show _=_
    cases hn:bZ d l with
    | false=>rfl
    | true=>exact absurd (vP.1 hn).1 S
  go_enter Tryz.func47,Tryz.ntmps47;go_wp2;go_ret;exact⟨ak A.out.symm,Below.refl _ _⟩
end Go.Proofs.YtldkblgclochjaaGreatDoor

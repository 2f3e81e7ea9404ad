/- A part. -/
import Derived.Test.YtldegjjaknelgaaGreatDoorAR23
set_option maxRecDepth 100000
set_option maxHeartbeats 64000000
namespace Go.Proofs.YtldegjjaknelgaaGreatDoor
open Go.RowKit
abbrev jN:List ByteArray:= [BJ,gG,ku,kg,sS,ko,nR,gF,nS]
def dF(t:ByteArray):List ByteArray:=if eX t bC then [gu]else if eX t aU then [dt]else if eX t bK then jN else if eX t fK then [o6]else []
def gI(ks:List ByteArray)(c:J):J:=.mk 5 0 aN (ks.filter fun k=>(dL c k).isSome) (ks.filterMap (dL c))
def cB(e:Ev):Ev:=if aG e then{e with content:=Co (gI (dF e.aK) e.content)}else Ev.zero
theorem Bj(c:J)(s:ByteArray):∀(ks:List ByteArray),s∈ks->lookV (ks.filter fun k=>(dL c k).isSome) (ks.filterMap (dL c)) s=dL c s
 | [],h=>by cases h
 | k::ks,h=>by
  have ih:=Bj c s ks;rw[List.filter_cons,List.filterMap_cons]
  cases hg:dL c k with
  | none=>
   simp only[Option.isSome_none,Bool.false_eq_true,if_false]
   rcases List.mem_cons.1 h with rfl| h
   ·by_cases hm:s∈ks
    ·rw[ih hm,hg]
    ·have:∀l:List ByteArray,s∉l->∀m:List J,lookV l m s=none:=by
       intro l
       induction l with
       | nil=>intro _ m;unfold lookV;rfl
       | cons a l ihl=>
        intro hn m
        cases m with
        | nil=>unfold lookV;rfl
        | cons v m=>
         unfold lookV;rw[if_neg (fun he=>hn (by rw[toList_inj (eq_of_beq he)];exact List.mem_cons_self ..))];exact ihl (fun h=>hn (List.mem_cons_of_mem _ h)) m
     rw[this _ (fun h=>hm (List.mem_filter.1 h).1),hg]
   ·exact ih h
  | some v=>
   simp only[Option.isSome_some,if_true];unfold lookV
   by_cases he:(k.toList==s.toList)=true
   ·rw[if_pos he,<-toList_inj (eq_of_beq he),hg]
   ·rw[if_neg he]
    rcases List.mem_cons.1 h with rfl| h
    ·exact absurd (beq_self_eq_true _) he
    ·exact ih h
theorem get_mem{c v:J}{s:ByteArray}(h:dL c s=some v):v∈c.ls:=by
 unfold dL at h
 split at h
 ·exact jv h
 ·cases h
theorem tY(p:ByteArray->Bool):∀ks:List ByteArray,noKeyTwice ks=true->noKeyTwice (ks.filter p)=true
 | [],_=>rfl
 | k::ks,h=>by
  unfold noKeyTwice at h;rw[Bool.and_eq_true]at h;have ih:=tY p ks h.2;rw[List.filter_cons]
  split
  ·unfold noKeyTwice;rw[ih,Bool.and_true,Bool.not_eq_true',List.any_eq_false];intro x hx;have h1:ks.any (fun y=>decide (y.data=k.data))=false:=by have h3:=h.1;rw[Bool.not_eq_true']at h3;exact h3
   exact List.any_eq_false.1 h1 x (List.mem_filter.1 hx).1
  ·exact ih
theorem y_(c:J):∀ks:List ByteArray,(ks.filter fun k=>(dL c k).isSome).length=(ks.filterMap (dL c)).length
 | []=>rfl
 | k::ks=>by
  rw[List.filter_cons,List.filterMap_cons]
  cases dL c k with
  | none=>simpa using y_ c ks
  | some v=>simpa using y_ c ks
theorem ND{d:Nat}{c:J}{ks:List ByteArray}(hg:goodJ (d+1) c=true)(hl:ks.all letters=true)(h2:noKeyTwice ks=true):goodJ (d+1) (gI ks c)=true:=by
 unfold gI goodJ;have e1:((ks.filterMap (dL c)).all (goodJ d))=true:=List.all_eq_true.2 fun v hv=>by
  obtain⟨k,_,hk⟩:=List.mem_filterMap.1 hv;exact xc hg (get_mem hk)
 have e2:((ks.filter fun k=>(dL c k).isSome).all letters)=true:=List.all_eq_true.2 fun k hk=>List.all_eq_true.1 hl k (List.mem_filter.1 hk).1;rw[show bare (.mk 5 0 aN (ks.filter fun k=>(dL c k).isSome) (ks.filterMap (dL c)))=true by unfold bare;simp;rfl];simp only[show¬(5:Int)=0 by decide,show¬(5:Int)=1 by decide,show¬(5:Int)=2 by decide,show¬(5:Int)=3 by decide,show¬(5:Int)=4 by decide,if_false,if_true,Bool.true_and];rw[y_,tY _ _ h2,e2,e1];simp
theorem CF(t:ByteArray):(dF t).all letters=true:=by
 unfold dF
 split
 ·kernel_rfl
 ·split
  ·kernel_rfl
  ·split
   ·kernel_rfl
   ·split
    ·kernel_rfl
    ·rfl
theorem JP(t:ByteArray):noKeyTwice (dF t)=true:=by
 unfold dF
 split
 ·rfl
 ·split
  ·rfl
  ·split
   ·kernel_rfl
   ·split
    ·rfl
    ·rfl
theorem wF{e:Ev}(h:aG e=true):e.content.kind=5/\goodJ 11 e.content=true:=by
 unfold aG at h;simp only[Bool.and_eq_true]at h;obtain⟨⟨⟨⟨⟨⟨⟨⟨_,_⟩,hf⟩,_⟩,_⟩,_⟩,_⟩,_⟩,_⟩:=h;unfold dz at hf;simp only[Bool.and_eq_true,decide_eq_true_eq]at hf;refine⟨hf.1, ?_⟩;have h2:=hf.2;unfold goodJ at h2;simp only[Bool.and_eq_true]at h2;simpa using h2.2
theorem dK{e:Ev}(h:aG e=true):cB e={e with content:=ord (gI (dF e.aK) e.content)}/\goodJ 11 (gI (dF e.aK) e.content)=true:=by
 have hg:=ND (d:=10) (wF h).2 (CF e.aK) (JP e.aK);refine⟨?_,hg⟩;unfold cB Co;rw[if_pos h,if_pos (jD 11 _ hg)]
theorem CG(ks:List ByteArray)(c:J):(ord (gI ks c)).kd=5:=by rw[oZ];rfl
theorem KR(j:J):j.kd=j.kind:=by obtain⟨k,i,t,ks,l⟩:=j;rfl
theorem JQ{e:Ev}(h:aG e=true):aG (cB e)=true:=by
 obtain⟨he,hg⟩:=dK h;rw[he];have hf:dz (ord (gI (dF e.aK) e.content))=true:=by
  unfold dz;rw[<-KR,CG];unfold goodJ;simp[bare,kN 11 _ hg]
  rfl
 unfold aG at h ⊢;simp only[Bool.and_eq_true]at h ⊢;obtain⟨⟨⟨⟨⟨⟨⟨⟨h1,h2⟩,_⟩,h4⟩,h5⟩,h6⟩,h7⟩,h8⟩,h9⟩:=h;exact⟨⟨⟨⟨⟨⟨⟨⟨h1,h2⟩,hf⟩,h4⟩,h5⟩,h6⟩,h7⟩,h8⟩,h9⟩
theorem KS{e:Ev}(h:aG e=true){s:ByteArray}(hs:s∈dF e.aK):dL (cB e).content s=(dL e.content s).map ord:=by
 obtain⟨he,hg⟩:=dK h;rw[he]
 show dL (ord (gI (dF e.aK) e.content)) s=_
 conv=>lhs;unfold dL
 rw[if_pos (CG _ _),yl hg]
 show(lookV ((dF e.aK).filter fun k=>(dL e.content k).isSome) ((dF e.aK).filterMap (dL e.content)) s).map ord=_
 rw[Bj _ _ _ hs]
theorem Ua(o:Option J):txtT (o.map ord)=txtT o:=by
 cases o with
 | none=>rfl
 | some v=>
  show txtT (some (ord v))=txtT (some v)
  unfold txtT;dsimp only;rw[oZ]
  split
  ·rename_i h3;obtain⟨k,i,t,ks,l⟩:=v;obtain rfl:k=3:=h3;rw[ord,if_neg (by decide)]
   rfl
  ·rfl
theorem za{e:Ev}(h:aG e=true){s:ByteArray}(hs:s∈dF e.aK):eB (cB e).content s=eB e.content s:=by
 unfold eB;rw[KS h hs,Ua]
theorem Ub{d:Nat}(z:Int){o:Option J}(hg:∀v,o=some v->goodJ (d+1) v=true):numT z (o.map ord)=numT z o:=by
 cases o with
 | none=>rfl
 | some v=>
  show numT z (some (ord v))=numT z (some v)
  unfold numT;dsimp only;rw[oZ,PQ (hg v rfl)]
theorem Uc(fit:ByteArray->Bool){o:Option J}(hg:∀v,o=some v->goodJ 10 v=true):namT fit (o.map ord)=namT fit o:=by
 cases o with
 | none=>rfl
 | some v=>
  have TQ:=hg v rfl;have iY:goodJ 12 v=true:=jD 11 _ (jD 10 _ TQ);have e:eU (ord v)=eU v:=by
   unfold eU;rw[if_pos iY,if_pos (kN 12 v iY),D8 12 _ (kN 12 v iY) (uE 12 v iY)]
  show namT fit (some (ord v))=namT fit (some v)
  unfold namT;dsimp only;rw[oZ,e]
theorem Bl{e:Ev}(h:aG e=true)(ht:eX e.aK bK=true):bQ (eU (cB e).content)=bQ (eU e.content):=by
 rw[ym,ym];have hk:dF e.aK=jN:=by
  unfold dF;have n1:eX e.aK bC=false:=by unfold eX at ht ⊢;rw[eq_of_beq ht,kU,iG];rfl
  have n2:eX e.aK aU=false:=by unfold eX at ht ⊢;rw[eq_of_beq ht,kU,iF];rfl
  rw[n1,n2,ht]
  rfl
 obtain⟨he,hg⟩:=dK h;have hf:=wF h;have g1:goodJ 12 (cB e).content=true:=by rw[he];exact jD 11 _ (kN 11 _ hg)
 have k1:(cB e).content.kd=5:=by rw[he];exact CG _ _
 have g2:goodJ 12 e.content=true:=jD 11 _ hf.2;have k2:e.content.kd=5:=by rw[KR];exact hf.1
 have oq:∀s v,dL e.content s=some v->goodJ 10 v=true:=fun s v hv=>xc hf.2 (get_mem hv);have oP:∀s,s∈jN->dL (cB e).content s=(dL e.content s).map ord:=fun s hs=>KS h (by rw[hk];exact hs);have hn:∀(z:Int) s,s∈jN->numT z (dL (cB e).content s)=numT z (dL e.content s):=fun z s hs=>by rw[oP s hs];exact Ub (d:=9) z (oq s)
 have hm:∀(fit:ByteArray->Bool) s,s∈jN->namT fit (dL (cB e).content s)=namT fit (dL e.content s):=fun fit s hs=>by rw[oP s hs];exact Uc fit (oq s)
 have i0:BJ∈jN:=.head _;have i1:gG∈jN:=.tail _ (.head _);have i2:ku∈jN:=.tail _ (.tail _ (.head _));have i3:kg∈jN:=.tail _ (.tail _ (.tail _ (.head _)));have i4:sS∈jN:=.tail _ (.tail _ (.tail _ (.tail _ (.head _))));have i5:ko∈jN:=.tail _ (.tail _ (.tail _ (.tail _ (.tail _ (.head _)))));have i6:nR∈jN:=.tail _ (.tail _ (.tail _ (.tail _ (.tail _ (.tail _ (.head _))))));have i7:gF∈jN:=.tail _ (.tail _ (.tail _ (.tail _ (.tail _ (.tail _ (.tail _ (.head _)))))));have i8:nS∈jN:=.tail _ (.tail _ (.tail _ (.tail _ (.tail _ (.tail _ (.tail _ (.tail _ (.head _))))))));unfold BR;rw[g1,k1,g2,k2];unfold AU PR;rw[hn _ _ i0,hn _ _ i4,hn _ _ i3,hn _ _ i5,hn _ _ i6,hn _ _ i2,hn _ _ i8,hm _ _ i7,hm _ _ i1]
theorem JR:fK.toList= [109,46,114,111,111,109,46,106,111,105,110,95,114,117,108,101,115]:=by rw[Lib.toList_data]
theorem xk{w:World}{l:List ByteArray}{cs:Array Value}(hc:cs=(l.map Value.string).toArray):ig (fun b=>w.heap.size<=b/\b<(w.alloc (.cells cs 9)).heap.size) (w.alloc (.cells cs 9)) (some ⟨w.heap.size,0,none⟩) l.length l:=by
 refine⟨Nat.le_refl _,fun j hj=>⟨_,rfl,⟨Nat.le_refl _,by simp⟩, ?_⟩⟩;have ea:(⟨w.heap.size,0,none⟩:Addr).add j=⟨w.heap.size,j,none⟩:=by unfold Addr.add;split<;>simp_all
 rw[ea];refine ay (bR _) j _ ?_;rw[hc,List.getElem?_toArray,List.getElem?_map,List.getD_eq_getElem?_getD,List.getElem?_eq_getElem hj]
 rfl
theorem JS(t:ByteArray)(w:World):Calls Tryz.prog 42 #[.string t] w fun x w'=>(∃q c,x=.returned (.slice q (dF t).length c)/\ig (fun b=>w.heap.size<=b/\b<w'.heap.size) w' q c (dF t))/\Below w.heap.size w w':=by
 have HT:Hid (dF t=if(t.toList==bC.toList)then [gu]else if(t.toList==aU.toList)then [dt]else if(t.toList==bK.toList)then jN else if(t.toList==fK.toList)then [o6]else []):=rfl;rw[iG,iF,kU,JR]at HT
 cases h1:(t.toList== [109,46,114,111,111,109,46,99,114,101,97,116,101])with
 | true=>
  have HK:Hid (dF t= [gu]):=by show _=_;rw[HT.out,h1];rfl
  go_enter Tryz.func42,Tryz.ntmps42;go_wp2;go_ret;rw[HK.out];exact⟨⟨_,_,rfl,xk rfl⟩,(Below.refl _ _).alloc (Nat.le_refl _) _⟩
 | false=>
  cases h2:(t.toList== [109,46,114,111,111,109,46,109,101,109,98,101,114])with
  | true=>
   have HK:Hid (dF t= [dt]):=by show _=_;rw[HT.out,h1,h2];rfl
   go_enter Tryz.func42,Tryz.ntmps42;go_wp2;go_ret;rw[HK.out];exact⟨⟨_,_,rfl,xk rfl⟩,(Below.refl _ _).alloc (Nat.le_refl _) _⟩
  | false=>
   cases h3:(t.toList== [109,46,114,111,111,109,46,112,111,119,101,114,95,108,101,118,101,108,115])with
   | true=>
    have HK:Hid (dF t=jN):=by show _=_;rw[HT.out,h1,h2,h3];rfl
    go_enter Tryz.func42,Tryz.ntmps42;go_wp2;go_ret;rw[HK.out];exact⟨⟨_,_,rfl,xk rfl⟩,(Below.refl _ _).alloc (Nat.le_refl _) _⟩
   | false=>
    cases h4:(t.toList== [109,46,114,111,111,109,46,106,111,105,110,95,114,117,108,101,115])with
    | true=>
     have HK:Hid (dF t= [o6]):=by show _=_;rw[HT.out,h1,h2,h3,h4];rfl
     go_enter Tryz.func42,Tryz.ntmps42;go_wp2;go_ret;rw[HK.out];exact⟨⟨_,_,rfl,xk rfl⟩,(Below.refl _ _).alloc (Nat.le_refl _) _⟩
    | false=>
     have HK:Hid (dF t= []):=by show _=_;rw[HT.out,h1,h2,h3,h4];rfl
     go_enter Tryz.func42,Tryz.ntmps42;go_wp2;go_ret;rw[HK.out];exact⟨⟨none,0,rfl,ig.nil _ _⟩,Below.refl _ _⟩
theorem zaD{e:Ev}{l:List Kn}{H:Hr}(h:openT e l=some H):bO l bC ⟨#[]⟩=some (H.cn,H.ce):=by
 unfold openT at h
 split at h
 ·cases h
 ·rename_i c hc
  split at h
  ·split at h
   ·cases h
   ·cases h
    exact hc
  ·cases h
def jA(k:Kn):Kn:=(k.1,cB k.2)
theorem QT{k:Kn}(h:aG k.2=true)(kind key:ByteArray):yn kind key (jA k)=yn kind key k:=by
 unfold yn jA;rw[(dK h).1]
theorem pq(kind key:ByteArray):∀l:List Kn,(∀k∈l,aG k.2=true)->bO (l.map jA) kind key=(bO l kind key).map jA
 | [],_=>rfl
 | k::l,h=>by
  have ih:=pq kind key l fun x hx=>h x (List.mem_cons_of_mem _ hx);unfold bO at ih ⊢;rw[List.map_cons,List.find?_cons,List.find?_cons,QT (h k (List.mem_cons_self ..)),ih]
  cases yn kind key k<;>rfl
theorem tZ{l:List Kn}{kind key:ByteArray}{k:Kn}(h:bO l kind key=some k):k∈l/\k.2.aK=kind:=by
 unfold bO at h;have h1:=List.find?_some h;unfold yn at h1;simp only[Bool.and_eq_true]at h1;exact⟨List.mem_of_find?_eq_some h,toList_inj (eq_of_beq h1.2.1)⟩
theorem rP{l:List Kn}(h:∀k∈l,aG k.2=true){kind:ByteArray}(key:ByteArray){under:ByteArray}(hu:under∈dF kind):iT (l.map jA) kind key under=iT l kind key under:=by
 unfold iT;rw[pq kind key l h]
 cases hf:bO l kind key with
 | none=>rfl
 | some k=>
  obtain⟨hm,ht⟩:=tZ hf;exact za (h k hm) (by rw[ht];exact hu)
theorem CJ:dt∈dF aU:=by
 unfold dF;rw[if_neg (by unfold eX;rw[iF,iG];decide),if_pos (beq_self_eq_true _)];exact .head _
theorem Ud:o6∈dF fK:=by
 unfold dF;have lr:fK.toList= [109,46,114,111,111,109,46,106,111,105,110,95,114,117,108,101,115]:=by rw[Lib.toList_data]
 rw[if_neg (by unfold eX;rw[lr,iG];decide),if_neg (by unfold eX;rw[lr,iF];decide),if_neg (by unfold eX;rw[lr,kU];decide),if_pos (beq_self_eq_true _)];exact .head _
theorem Ue{l:List Kn}(h:∀k∈l,aG k.2=true)(c:ByteArray):levT (l.map jA) c=levT l c:=by
 unfold levT;rw[pq _ _ l h]
 cases hf:bO l bK ⟨#[]⟩with
 | none=>rfl
 | some k=>
  obtain⟨hm,ht⟩:=tZ hf
  show(if(bQ (eU (cB k.2).content)).2=0 then some (bQ (eU (cB k.2).content)).1 else none)=_
  rw[Bl (h k hm) (by unfold eX;rw[ht];exact beq_self_eq_true _)]
theorem QU{e:Ev}{l:List Kn}(he:aG e=true)(h:∀k∈l,aG k.2=true):openT (cB e) (l.map jA)=(openT e l).map fun x=>{x with e:=cB e,st:=l.map jA,ce:=cB x.ce}:=by
 unfold openT;rw[pq _ _ l h,pq _ _ l h]
 cases hf:bO l bC ⟨#[]⟩with
 | none=>rfl
 | some c=>
  obtain⟨hm,_⟩:=tZ hf;dsimp only[Option.map_some];rw[show(jA c).2.room=c.2.room by unfold jA;rw[(dK (h c hm)).1],show(jA c).2.ag=c.2.ag by unfold jA;rw[(dK (h c hm)).1],show(cB e).room=e.room by rw[(dK he).1],Ue h]
  split
  ·split
   ·rfl
   ·rw[Option.isSome_map]
    rfl
  ·rfl
theorem NF{e:Ev}{l:List Kn}(he:aG e=true)(h:∀k∈l,aG k.2=true):gQ (cB e) (l.map jA)=gQ e l:=by
 obtain⟨hc,_⟩:=dK he;have et:(cB e).aK=e.aK:=by rw[hc]
 have es:(cB e).st=e.st:=by rw[hc]
 have ek:(cB e).key=e.key:=by rw[hc]
 have eu:(cB e).ag=e.ag:=by rw[hc]
 have er:(cB e).room=e.room:=by rw[hc]
 have ep:(cB e).prev=e.prev:=by rw[hc]
 have ea:(cB e).aA=e.aA:=by rw[hc]
 have zhM:askT (cB e) (l.map jA)=askT e l:=by
  unfold askT;rw[et,QU he h]
  cases hcr:eX e.aK bC with
  | true=>
   rw[if_pos rfl,if_pos rfl];unfold lH;rw[es,ek,ep,ea,er,eu,za he (by rw[show e.aK=bC from toList_inj (eq_of_beq hcr)];unfold dF;rw[if_pos (beq_self_eq_true _)];exact .head _)]
  | false=>
   rw[if_neg (by decide),if_neg (by decide)]
   cases ho:openT e l with
   | none=>rfl
   | some x=>
    obtain⟨hxe,hxl⟩:=QN ho;have hce:aG x.ce=true:=by
     have:=zaD ho;exact h (x.cn,x.ce) (tZ this).1
    show Hr.ask {x with e:=cB e,st:=l.map jA,ce:=cB x.ce}=x.ask
    obtain⟨e',st,cn,ce,v,told⟩:=x;obtain rfl:e'=e:=hxe;obtain rfl:st=l:=hxl;have hj:Hr.gD ⟨cB e',st.map jA,cn,cB ce,v,told⟩=Hr.gD ⟨e',st,cn,ce,v,told⟩:=by
     unfold Hr.gD tq;dsimp only;rw[rP h _ CJ,eu]
    have ht:Hr.target ⟨cB e',st.map jA,cn,cB ce,v,told⟩=Hr.target ⟨e',st,cn,ce,v,told⟩:=by
     unfold Hr.target tq;dsimp only;rw[rP h _ CJ,ek]
    have hs:Hr.s ⟨cB e',st.map jA,cn,cB ce,v,told⟩=Hr.s ⟨e',st,cn,ce,v,told⟩:=by unfold Hr.s;dsimp only;rw[eu]
    have htt:Hr.t ⟨cB e',st.map jA,cn,cB ce,v,told⟩=Hr.t ⟨e',st,cn,ce,v,told⟩:=by unfold Hr.t;dsimp only;rw[ek]
    have how:Hr.own ⟨cB e',st.map jA,cn,cB ce,v,told⟩=Hr.own ⟨e',st,cn,ce,v,told⟩:=by unfold Hr.own;dsimp only;rw[ek,eu]
    have LG:Hr.alone ⟨cB e',st.map jA,cn,cB ce,v,told⟩=Hr.alone ⟨e',st,cn,ce,v,told⟩:=by unfold Hr.alone;dsimp only;rw[ep]
    unfold Hr.ask;dsimp only;rw[et]
    cases hm:eX e'.aK aU with
    | true=>
     rw[if_pos rfl,if_pos rfl];have htx:eB (cB e').content dt=eB e'.content dt:=za he (by rw[show e'.aK=aU from toList_inj (eq_of_beq hm)];exact CJ);unfold Hr.iU;dsimp only;rw[es,ek,htx];unfold Hr.jK Hr.leaves Hr.Kz Hr.zbW;rw[hj,ht,hs,htt,how,LG];dsimp only;rw[rP h _ Ud,eu,show(cB ce).ag=ce.ag by rw[(dK hce).1]]
    | false=>
     rw[if_neg (by decide),if_neg (by decide)];unfold Hr.PU Hr.changes;rw[hj,hs,how];dsimp only;rw[et,es,ek,eu]
     cases hp:eX e'.aK bK with
     | true=>rw[Bl he hp]
     | false=>simp only[Bool.and_false,Bool.false_and,Bool.false_eq_true,if_false]
 unfold gQ;rw[zhM,he,JQ he]
theorem CK{d:Nat}{ks:List ByteArray}{c:J}(hz:szJ (d+1) c=true)(hl:ks.length<=100000)(hk:∀k∈ks,k.size<=1000000000):szJ (d+1) (gI ks c)=true:=by
 obtain⟨k0,i0,t0,ks0,l0⟩:=c;unfold szJ at hz;simp only[Bool.and_eq_true,decide_eq_true_eq]at hz;unfold gI szJ;simp only[Bool.and_eq_true,decide_eq_true_eq];refine⟨Nat.zero_le _,Nat.le_trans (List.length_filter_le ..) hl,List.all_eq_true.2 fun k hkm=>decide_eq_true (hk k (List.mem_filter.1 hkm).1),Nat.le_trans (List.length_filterMap_le ..) hl,List.all_eq_true.2 fun v hv=> ?_⟩;obtain⟨k,_,hkv⟩:=List.mem_filterMap.1 hv;exact List.all_eq_true.1 hz.2.2.2.2 v (get_mem hkv)
theorem zb(t:ByteArray):(dF t).length<=9/\∀k∈dF t,k.size<=100:=by
 unfold dF
 split
 ·exact⟨by decide,fun k hk=>by rw[List.mem_singleton.1 hk];decide⟩
 ·split
  ·exact⟨by decide,fun k hk=>by rw[List.mem_singleton.1 hk];decide⟩
  ·split
   ·exact⟨by decide,fun k hk=>by
      simp only[jN,List.mem_cons,List.not_mem_nil,or_false]at hk
      rcases hk with rfl| rfl| rfl| rfl| rfl| rfl| rfl| rfl| rfl<;>decide⟩
   ·split
    ·exact⟨by decide,fun k hk=>by rw[List.mem_singleton.1 hk];decide⟩
    ·exact⟨by decide,fun k hk=>by cases hk⟩
set_option linter.unusedSimpArgs false in
theorem JU(room aK ag:ByteArray)(st:Bool)(key:ByteArray)(k i:Int)(t:ByteArray)(nk nl np na:Nat)(depth ts:Int)(hash:ByteArray)(ns:Nat)(pk:Option Addr)(ck:Nat)(pl:Option Addr)(cl:Nat)(pp:Option Addr)(cp:Nat)(pa:Option Addr)(ca:Nat)(ps:Option Addr)(cs:Nat)(w B:World)
    (ra rb:ByteArray) (r ty us:Bool) (b:Int) (gd gdd pv au sg ev:Bool) (HHZ:Hid (hash.size<=1000000000))
    (hB:B=w.alloc (.cells #[.string room,.string aK,.string ag,.bool st,.string key,.int .i64 k,.int .i64 i,.string t,.slice pk nk ck,.slice pl nl cl,.slice pp np cp,.slice pa na ca,.int .i64 depth,.int .i64 ts,.string hash,.slice ps ns cs] 28))
    (HC:Hid (∀W,Below B.heap.size B W->∀j v, [.string room,.string aK,.string ag,.bool st,.string key,.int .i64 k,.int .i64 i,.string t,.slice pk nk ck,.slice pl nl cl,.slice pp np cp,.slice pa na ca,.int .i64 depth,.int .i64 ts,.string hash,.slice ps ns cs][j]?=some v->W.cell? ⟨w.heap.size,j,none⟩=some v))
    (fQ:Hid (Below w.heap.size w B))
    (H0:Hid (∀W,Below B.heap.size B W->Calls Tryz.prog 33 #[.string room] W fun x w'=>x=.returned (.tuple #[.string ra,.string rb,.bool r])/\Below W.heap.size W w'))
    (H1:Hid (∀W,Below B.heap.size B W->Calls Tryz.prog 34 #[.string aK] W fun x w'=>x=.returned (.bool ty)/\Below W.heap.size W w'))
    (H2:Hid (∀W,Below B.heap.size B W->Calls Tryz.prog 35 #[.string ag] W fun x w'=>x=.returned (.bool us)/\Below W.heap.size W w'))
    (H3:Hid (∀W,Below B.heap.size B W->Calls Tryz.prog 36 #[.string key] W fun x w'=>x=.returned (.int .i64 b)/\Below W.heap.size W w'))
    (H4:Hid (∀W,Below B.heap.size B W->Calls Tryz.prog 37 #[.agg #[.int .i64 k,.int .i64 i,.string t,.slice pk nk ck,.slice pl nl cl]] W fun x w'=>x=.returned (.bool gd)/\Below W.heap.size W w'))
    (H5:Hid (∀W,Below B.heap.size B W->Calls Tryz.prog 38 #[.agg #[.int .i64 k,.int .i64 i,.string t,.slice pk nk ck,.slice pl nl cl]] W fun x w'=>(∃p1 p2,x=.returned (.agg #[.int .i64 5,.int .i64 0,.string ⟨#[]⟩,.slice p1 1 1,.slice p2 1 1])/\Calls Tryz.prog 37 #[.agg #[.int .i64 5,.int .i64 0,.string ⟨#[]⟩,.slice p1 1 1,.slice p2 1 1]] w' fun y w2=>y=.returned (.bool gdd)/\Below w'.heap.size w' w2)/\Below W.heap.size W w'))
    (H6:Hid (∀W,Below B.heap.size B W->Calls Tryz.prog 39 #[.slice pp np cp,.int .i64 20] W fun x w'=>x=.returned (.bool pv)/\Below W.heap.size W w'))
    (H7:Hid (∀W,Below B.heap.size B W->Calls Tryz.prog 39 #[.slice pa na ca,.int .i64 10] W fun x w'=>x=.returned (.bool au)/\Below W.heap.size W w'))
    (H8:Hid (∀W,Below B.heap.size B W->Calls Tryz.prog 40 #[.slice ps ns cs] W fun x w'=>x=.returned (.bool sg)/\Below W.heap.size W w'))
    (H9:Hid (∀W,Below B.heap.size B W->Calls Tryz.prog 41 #[.string (⟨#[36]⟩++hash)] W fun x w'=>x=.returned (.bool ev)/\Below W.heap.size W w')):
    Calls Tryz.prog 16 #[.agg #[.string room,.string aK,.string ag,.bool st,.string key,.int .i64 k,.int .i64 i,.string t,.slice pk nk ck,.slice pl nl cl,.slice pp np cp,.slice pa na ca,.int .i64 depth,.int .i64 ts,.string hash,.slice ps ns cs]] w fun x w'=>x=.returned (.bool ((r&&ty&&us)&&(decide (key.size<=128)&&decide (b<0)&&(st || decide (key.size=0)))&&(decide (k=5)&&gd&&gdd)&&(pv&&au&&sg)&&(decide (0<=depth)&&decide (depth<=1099511627776)&&decide (0<=ts)&&decide (ts<=9007199254740991)&&(decide (hash.size=0) || ev))))/\Below w.heap.size w w':=by
 obtain⟨S,hS⟩:∃S:Bool,((r&&ty&&us)&&(decide (key.size<=128)&&decide (b<0)&&(st || decide (key.size=0)))&&(decide (k=5)&&gd&&gdd)&&(pv&&au&&sg)&&(decide (0<=depth)&&decide (depth<=1099511627776)&&decide (0<=ts)&&decide (ts<=9007199254740991)&&(decide (hash.size=0) || ev)))=S:=⟨_,rfl⟩;rw[hS];have HS:Hid (((r&&ty&&us)&&(decide (key.size<=128)&&decide (b<0)&&(st || decide (key.size=0)))&&(decide (k=5)&&gd&&gdd)&&(pv&&au&&sg)&&(decide (0<=depth)&&decide (depth<=1099511627776)&&decide (0<=ts)&&decide (ts<=9007199254740991)&&(decide (hash.size=0) || ev)))=S):=hS;clear hS;go_enter Tryz.func16,Tryz.ntmps16
 go_upto_region 1 with fail
 rw[<-hB];clear hB;have c0:=HC.out B (Below.refl _ _) 0 _ rfl;have h0:=H0.out B (Below.refl _ _)
 go_upto_region 2 with(go_at_call 33;refine h0.mono ?_;rintro x w1 ⟨rfl,b1⟩)
 clear c0 h0;have c1:=HC.out w1 b1 1 _ rfl;have h1:=H1.out w1 b1
 cases r with
 | false=>
  go_wp2;go_ret;exact⟨ai (by rw[<-HS.out];rfl),aj fQ.out b1⟩
 | true=>
 cases ty with
 | false=>
  go_wp2_with(go_at_call 34;refine h1.mono ?_;rintro x w2 ⟨rfl,b2⟩);go_ret;exact⟨ai (by rw[<-HS.out];rfl),aj fQ.out (aj b1 b2)⟩
 | true=>
 cases us with
 | false=>
  go_wp2_with(first
   | (go_at_call 34;refine h1.mono ?_;rintro x w2 ⟨rfl,b2⟩;have c2:=HC.out w2 (aj b1 b2) 2 _ rfl;have h2:=H2.out w2 (aj b1 b2))
   | (go_at_call 35;refine h2.mono ?_;rintro x w3 ⟨rfl,b3⟩))
  go_ret;exact⟨ai (by rw[<-HS.out];rfl),aj fQ.out (aj b1 (aj b2 b3))⟩
 | true=>
 go_upto_region 4 with(first
     | (go_at_call 34;refine h1.mono ?_;rintro x w2 ⟨rfl,b2⟩;have c2:=HC.out w2 (aj b1 b2) 2 _ rfl;have h2:=H2.out w2 (aj b1 b2))
     | (go_at_call 35;refine h2.mono ?_;rintro x w3 ⟨rfl,b3⟩))
 have g3:=aj b1 (aj b2 b3);clear c1 h1 c2 h2 b1 b2 b3 w1 w2;have c3:=HC.out w3 g3 3 _ rfl;have c4:=HC.out w3 g3 4 _ rfl;have h3:=H3.out w3 g3
 by_cases d1:key.size<=128
 case neg=>
  have d1i:(128:Int)<key.size:=by omega
  have HD1:Hid (decide (key.size<=128)=false):=decide_eq_false d1;go_wp2;go_ret;exact⟨ai (by rw[<-HS.out];simp only[HD1.out,Bool.and_true,Bool.true_and,Bool.and_false,Bool.false_and,Bool.or_true,Bool.true_or]),aj fQ.out g3⟩
 have d1i:¬(128:Int)<key.size:=by omega
 have HD1:Hid (decide (key.size<=128)=true):=decide_eq_true d1;clear d1
 by_cases d2:b<0
 case neg=>
  have d2i:0<=b:=by omega
  have HD2:Hid (decide (b<0)=false):=decide_eq_false d2;clear d2;go_wp2_with(go_at_call 36;refine h3.mono ?_;rintro x w4 ⟨rfl,b4⟩;have Oa:=HC.out w4 (aj g3 b4) 4 _ rfl;have c3':=HC.out w4 (aj g3 b4) 3 _ rfl);go_ret;exact⟨ai (by rw[<-HS.out];simp only[HD2.out,Bool.and_true,Bool.true_and,Bool.and_false,Bool.false_and,Bool.or_true,Bool.true_or]),aj fQ.out (aj g3 b4)⟩
 have d2i:¬0<=b:=by omega
 have HD2:Hid (decide (b<0)=true):=decide_eq_true d2;clear d2
 by_cases d3:st=false/\key.size≠0
 ·have d3k:key.toList.isEmpty=false:=by rw[MQ];exact decide_eq_false d3.2
  have HD3:Hid (decide (key.size=0)=false):=decide_eq_false d3.2;obtain⟨rfl, -⟩:=d3;go_wp2_with(go_at_call 36;refine h3.mono ?_;rintro x w4 ⟨rfl,b4⟩;have Oa:=HC.out w4 (aj g3 b4) 4 _ rfl;have c3':=HC.out w4 (aj g3 b4) 3 _ rfl);go_ret;exact⟨ai (by rw[<-HS.out];simp only[HD3.out,Bool.or_false,Bool.and_true,Bool.true_and,Bool.and_false,Bool.false_and,Bool.or_true,Bool.true_or]),aj fQ.out (aj g3 b4)⟩
 have HD3:Hid ((st || decide (key.size=0))=true):=by
  show _=_
  cases st with
  | true=>rfl
  | false=>simpa using d3
 have ny:st=true\/ (st=false/\key.toList.isEmpty=true):=by
  cases st with
  | true=>exact .inl rfl
  | false=>exact .inr ⟨rfl,by rw[MQ];simpa using d3⟩
 clear d3
 rcases ny with rfl| ⟨rfl,hke⟩
 all_goals
  go_upto_region 6 with(go_at_call 36;refine h3.mono ?_;rintro x w4 ⟨rfl,b4⟩;have Oa:=HC.out w4 (aj g3 b4) 4 _ rfl;have c3':=HC.out w4 (aj g3 b4) 3 _ rfl)
  have g4:=aj g3 b4;clear c3 c4 c3' Oa h3 b4 g3 w3 d1i d2i;have c5:=HC.out w4 g4 5 _ rfl;have c6:=HC.out w4 g4 6 _ rfl;have c7:=HC.out w4 g4 7 _ rfl;have c8:=HC.out w4 g4 8 _ rfl;have c9:=HC.out w4 g4 9 _ rfl;have h4:=H4.out w4 g4
  by_cases d4:k=5
  case neg=>
   have HD4:Hid (decide (k=5)=false):=decide_eq_false d4;go_wp2;go_ret;exact⟨ai (by rw[<-HS.out];simp only[HD4.out,Bool.and_true,Bool.true_and,Bool.and_false,Bool.false_and,Bool.or_true,Bool.true_or]),aj fQ.out g4⟩
  subst d4
  cases gd with
  | false=>
   go_wp2_with(go_at_call 37;refine h4.mono ?_;rintro x w5 ⟨rfl,b5⟩);go_ret;exact⟨ai (by rw[<-HS.out];simp only[Bool.and_true,Bool.true_and,Bool.and_false,Bool.false_and,Bool.or_true,Bool.true_or]),aj fQ.out (aj g4 b5)⟩
  | true=>
  cases gdd with
  | false=>
   go_wp2_with(first
    | (go_at_call 37;refine h4.mono ?_;rintro x w5 ⟨rfl,b5⟩;have g5:=aj g4 b5;have e5:=HC.out w5 g5 5 _ rfl;have e6:=HC.out w5 g5 6 _ rfl;have e7:=HC.out w5 g5 7 _ rfl;have e8:=HC.out w5 g5 8 _ rfl;have e9:=HC.out w5 g5 9 _ rfl;have h5:=H5.out w5 g5;clear h4 c5 c6 c7 c8 c9)
    | (go_at_call 38;refine h5.mono ?_;rintro x w6 ⟨⟨p1,p2,rfl,h6⟩,b6⟩;clear e5 e6 e7 e8 e9)
    | (go_at_call 37;refine h6.mono ?_;rintro x w7 ⟨rfl,b7⟩))
   go_ret;exact⟨ai (by rw[<-HS.out];simp only[Bool.and_true,Bool.true_and,Bool.and_false,Bool.false_and,Bool.or_true,Bool.true_or]),aj fQ.out (aj g5 (aj b6 b7))⟩
  | true=>
  go_upto_region 8 with(first
      | (go_at_call 37;refine h4.mono ?_;rintro x w5 ⟨rfl,b5⟩;have g5:=aj g4 b5;have e5:=HC.out w5 g5 5 _ rfl;have e6:=HC.out w5 g5 6 _ rfl;have e7:=HC.out w5 g5 7 _ rfl;have e8:=HC.out w5 g5 8 _ rfl;have e9:=HC.out w5 g5 9 _ rfl;have h5:=H5.out w5 g5;clear h4 c5 c6 c7 c8 c9)
      | (go_at_call 38;refine h5.mono ?_;rintro x w6 ⟨⟨p1,p2,rfl,h6⟩,b6⟩;clear e5 e6 e7 e8 e9)
      | (go_at_call 37;refine h6.mono ?_;rintro x w7 ⟨rfl,b7⟩))
  have g7:=aj g5 (aj b6 b7);clear h5 h6 b5 b6 b7 g5 g4;have kY:=HC.out w7 g7 10 _ rfl;have h7:=H6.out w7 g7
  cases pv with
  | false=>
   go_wp2_with(go_at_call 39;refine h7.mono ?_;rintro x w8 ⟨rfl,b8⟩);go_ret;exact⟨ai (by rw[<-HS.out];simp only[Bool.and_true,Bool.true_and,Bool.and_false,Bool.false_and,Bool.or_true,Bool.true_or]),aj fQ.out (aj g7 b8)⟩
  | true=>
  cases au with
  | false=>
   go_wp2_with(first
    | (go_at_call 39;refine h7.mono ?_;rintro x w8 ⟨rfl,b8⟩;have g8:=aj g7 b8;have MM:=HC.out w8 g8 11 _ rfl;have h8:=H7.out w8 g8;clear h7)
    | (go_at_call 39;refine h8.mono ?_;rintro x w9 ⟨rfl,b9⟩))
   go_ret;exact⟨ai (by rw[<-HS.out];simp only[Bool.and_true,Bool.true_and,Bool.and_false,Bool.false_and,Bool.or_true,Bool.true_or]),aj fQ.out (aj g8 b9)⟩
  | true=>
  cases sg with
  | false=>
   go_wp2_with(first
    | (go_at_call 39;refine h7.mono ?_;rintro x w8 ⟨rfl,b8⟩;have g8:=aj g7 b8;have MM:=HC.out w8 g8 11 _ rfl;have h8:=H7.out w8 g8;clear h7)
    | (go_at_call 39;refine h8.mono ?_;rintro x w9 ⟨rfl,b9⟩;have g9:=aj g8 b9;have e15:=HC.out w9 g9 15 _ rfl;have h9:=H8.out w9 g9;clear h8)
    | (go_at_call 40;refine h9.mono ?_;rintro x w10 ⟨rfl,b10⟩))
   go_ret;exact⟨ai (by rw[<-HS.out];simp only[Bool.and_true,Bool.true_and,Bool.and_false,Bool.false_and,Bool.or_true,Bool.true_or]),aj fQ.out (aj g9 b10)⟩
  | true=>
  go_upto_region 10 with(first
      | (go_at_call 39;refine h7.mono ?_;rintro x w8 ⟨rfl,b8⟩;have g8:=aj g7 b8;have MM:=HC.out w8 g8 11 _ rfl;have h8:=H7.out w8 g8;clear h7)
      | (go_at_call 39;refine h8.mono ?_;rintro x w9 ⟨rfl,b9⟩;have g9:=aj g8 b9;have e15:=HC.out w9 g9 15 _ rfl;have h9:=H8.out w9 g9;clear h8)
      | (go_at_call 40;refine h9.mono ?_;rintro x w10 ⟨rfl,b10⟩))
  have NJ:=aj g9 b10;clear h9 b8 b9 b10 g7 g8 g9 MM e15 kY;have Ga:=HC.out w10 NJ 12 _ rfl;have jX:=HC.out w10 NJ 13 _ rfl;have Gb:=HC.out w10 NJ 14 _ rfl;have TQ:=H9.out w10 NJ
  by_cases d5:0<=depth
  case neg=>
   have HD5:Hid (decide (0<=depth)=false):=decide_eq_false d5;go_wp2;go_ret;exact⟨ai (by rw[<-HS.out];simp only[HD5.out,Bool.and_true,Bool.true_and,Bool.and_false,Bool.false_and,Bool.or_true,Bool.true_or]),aj fQ.out NJ⟩
  have HD5:Hid (decide (0<=depth)=true):=decide_eq_true d5
  by_cases d6:depth<=1099511627776
  case neg=>
   have C8:Hid (decide (depth<=1099511627776)=false):=decide_eq_false d6;go_wp2;go_ret;exact⟨ai (by rw[<-HS.out];simp only[C8.out,Bool.and_true,Bool.true_and,Bool.and_false,Bool.false_and,Bool.or_true,Bool.true_or]),aj fQ.out NJ⟩
  have C8:Hid (decide (depth<=1099511627776)=true):=decide_eq_true d6
  by_cases d7:0<=ts
  case neg=>
   have HD7:Hid (decide (0<=ts)=false):=decide_eq_false d7;go_wp2;go_ret;exact⟨ai (by rw[<-HS.out];simp only[HD7.out,Bool.and_true,Bool.true_and,Bool.and_false,Bool.false_and,Bool.or_true,Bool.true_or]),aj fQ.out NJ⟩
  have HD7:Hid (decide (0<=ts)=true):=decide_eq_true d7
  by_cases d8:ts<=9007199254740991
  case neg=>
   have VC:Hid (decide (ts<=9007199254740991)=false):=decide_eq_false d8;go_wp2;go_ret;exact⟨ai (by rw[<-HS.out];simp only[VC.out,Bool.and_true,Bool.true_and,Bool.and_false,Bool.false_and,Bool.or_true,Bool.true_or]),aj fQ.out NJ⟩
  have VC:Hid (decide (ts<=9007199254740991)=true):=decide_eq_true d8
  by_cases d9:hash.size=0
  ·have d9k:hash.toList.isEmpty=true:=by rw[MQ];exact decide_eq_true d9
   have HD9:Hid (decide (hash.size=0)=true):=decide_eq_true d9;clear d9;go_wp2;go_ret;exact⟨ai (by rw[<-HS.out];simp only[HD1.out,HD2.out,HD3.out,HD5.out,C8.out,HD7.out,VC.out,HD9.out,decide_true,Bool.and_true,Bool.true_and,Bool.and_false,Bool.false_and,Bool.or_true,Bool.true_or]),aj fQ.out NJ⟩
  ·have d9k:hash.toList.isEmpty=false:=by rw[MQ];exact decide_eq_false d9
   have HD9:Hid (decide (hash.size=0)=false):=decide_eq_false d9;have hhz:=HHZ.out;clear d9;go_wp2_with(go_at_call 41;refine TQ.mono ?_;rintro x w11 ⟨rfl,b11⟩);go_ret;exact⟨ai (by rw[<-HS.out];simp only[HD1.out,HD2.out,HD3.out,HD5.out,C8.out,HD7.out,VC.out,HD9.out,decide_true,Bool.false_or,Bool.and_true,Bool.true_and,Bool.and_false,Bool.false_and,Bool.or_true,Bool.true_or]),aj fQ.out (aj NJ b11)⟩
open Go.RowKit Go.Maps
theorem NG{w:World}{O:Nat->Prop}{j:J}{k i:Int}{t:ByteArray}{pk pl:Option Addr}{nk ck nl cl:Nat}(hO:∀x,O x->x<w.heap.size)
    (hj:isJ O w j [.int .i64 k,.int .i64 i,.string t,.slice pk nk ck,.slice pl nl cl]):
    Calls Tryz.prog 38 #[.agg #[.int .i64 k,.int .i64 i,.string t,.slice pk nk ck,.slice pl nl cl]] w fun x w'=>(∃p1 p2,x=.returned (.agg #[.int .i64 5,.int .i64 0,.string ⟨#[]⟩,.slice p1 1 1,.slice p2 1 1])/\isJ (fun b=>O b\/ qx w w' b) w' (.mk 5 0 aN [ed] [j]) [.int .i64 5,.int .i64 0,.string ⟨#[]⟩,.slice p1 1 1,.slice p2 1 1])/\Below w.heap.size w w':=by
 obtain⟨WB,lW⟩:∃WB,WB=(w.alloc (.cells #[.int .i64 k,.int .i64 i,.string t,.slice pk nk ck,.slice pl nl cl] 25)).alloc (.cells #[.int .i64 0,.int .i64 0,.string ⟨#[]⟩,.slice none 0 0,.slice none 0 0] 25):=⟨_,rfl⟩;have bX:Below w.heap.size w WB:=by rw[lW];exact((Below.refl _ _).alloc (Nat.le_refl _) _).alloc (by simp) _
 have zw:WB.heap[w.heap.size]?=some (.cells #[.int .i64 k,.int .i64 i,.string t,.slice pk nk ck,.slice pl nl cl] 25 (0,0)):=by rw[lW];exact uM _ _
 have Ky:WB.heap[w.heap.size+1]?=some (.cells #[.int .i64 0,.int .i64 0,.string ⟨#[]⟩,.slice none 0 0,.slice none 0 0] 25 (0,0)):=by rw[lW];exact rh _ _
 have hsB:WB.heap.size=w.heap.size+2:=by rw[lW];simp
 go_enter Tryz.func38,Tryz.ntmps38
 go_upto_region 1 with fail
 rw[<-lW];clear lW;obtain⟨q0,q1,q2,q3,q4⟩:=aM zw;obtain⟨i0,i1,i2,i3,i4⟩:=aM Ky;obtain⟨z0,z1,z2,z3,z4⟩:=fD Ky;go_wp2;have h5:=dG Ky (.int .i64 5) (.int .i64 0) (.string ⟨#[]⟩) (.slice (some ⟨w.heap.size+2,0,none⟩) 1 1) (.slice (some ⟨w.heap.size+2+1,0,none⟩) 1 1);have dR:av (One (w.heap.size+1)) WB _:=dH WB (w.heap.size+1) (.int .i64 5) (.int .i64 0) (.string ⟨#[]⟩) (.slice (some ⟨w.heap.size+2,0,none⟩) 1 1) (.slice (some ⟨w.heap.size+2+1,0,none⟩) 1 1);obtain⟨W5,uL⟩:∃W5,W5=kK WB (w.heap.size+1) (.int .i64 5) (.int .i64 0) (.string ⟨#[]⟩) (.slice (some ⟨w.heap.size+2,0,none⟩) 1 1) (.slice (some ⟨w.heap.size+2+1,0,none⟩) 1 1):=⟨_,rfl⟩;have s5:W5.heap.size=w.heap.size+2:=by rw[uL];unfold kK;simp[hsB]
 rw[<-uL]at h5 dR;unfold kK at uL;rw[<-uL];obtain⟨WE,AP⟩:∃WE,WE=(W5.alloc (.cells #[.string ⟨#[99,111,110,116,101,110,116]⟩] 9)).alloc (.cells #[.int .i64 k,.int .i64 i,.string t,.slice pk nk ck,.slice pl nl cl] 25):=⟨_,rfl⟩;have lD:Below W5.heap.size W5 WE:=by rw[AP];exact((Below.refl _ _).alloc (Nat.le_refl _) _).alloc (by simp) _
 have NL:WE.heap[w.heap.size+2]?=some (.cells #[.string ed] 9 (0,0)):=by rw[AP,<-s5];exact uM _ _
 have wL:WE.heap[w.heap.size+2+1]?=some (.cells #[.int .i64 k,.int .i64 i,.string t,.slice pk nk ck,.slice pl nl cl] 25 (0,0)):=by rw[AP,<-s5];exact rh _ _
 have sE:WE.heap.size=w.heap.size+4:=by rw[AP];simp;omega
 rw[<-AP];have hrE:=(lD.block (w.heap.size+1) (by omega)).trans h5;refine bodyPost_ret (n_ rfl _ _ _ rfl (Js hrE)) rfl ?_;have bE:Below w.heap.size w WE:=(bX.trans (dR.below (by omega) fun q hq=>by unfold One;omega)).trans (lD.mono (by omega));refine⟨⟨_,_,rfl, ?_⟩,bE⟩;unfold isJ;refine⟨some ⟨w.heap.size+2,0,none⟩,1,some ⟨w.heap.size+2+1,0,none⟩,1,rfl,⟨Nat.le_refl _,fun m hm=> ?_⟩,Nat.le_refl _, ?_⟩
 ·obtain rfl:m=0:=by simpa using hm
  exact⟨_,rfl,.inr ⟨by simp,by simp;omega⟩,a_ (cur:= [_]) NL 0 _ rfl⟩
 ·unfold isJs;refine⟨⟨_,0,_,rfl,.inr ⟨by show _<=w.heap.size+2+1;omega,by rw[sE];exact Nat.lt_succ_self _⟩,fun m v hm=> ?_,hj.carry fun x hx=>⟨.inl hx,bE.block x (hO x hx)⟩⟩,by unfold isJs;trivial⟩;rw[Nat.zero_mul,Nat.add_zero,Nat.zero_add];exact a_ (cur:= [_,_,_,_,_]) wL m v hm
open Go.RowKit
theorem Uf{d:Nat}{c:J}(h:szJ (d+1) c=true):szJ (d+1) (.mk 5 0 aN [ed] [c])=true:=by
 have:=lG d (d+1) c (by omega) h;unfold szJ;rw[show List.all [c] (szJ d)=true by rw[List.all_cons,this];rfl]
 rfl
theorem NH(c:J):(decide (c.kind=5)&&goodJ 12 c&&goodJ 12 (.mk 5 0 aN [ed] [c]))=dz c:=by
 have h1:goodJ 12 (.mk 4 0 aN [] [c])=goodJ 11 c:=by
  rw[rC,show aS 4 0 aN [] [c].length=true from by rw[show [c].length=1 from rfl];decide+kernel];simp
 have h2:goodJ 12 (.mk 5 0 aN [ed] [c])=goodJ 11 c:=by
  rw[rC,show aS 5 0 aN [ed] [c].length=true from by rw[show [c].length=1 from rfl];decide+kernel];simp
 unfold dz;rw[h1,h2]
 cases h:goodJ 11 c with
 | false=>simp
 | true=>rw[Bc h];simp
theorem QV(e:Ev):(decide (e.key.size<=128)&&decide (Av (gY (ints e.key))<0)&&(e.st || decide (e.key.size=0)))=fH e:=by
 have hb:decide (Av (gY (ints e.key))<0)=letters e.key:=by
  cases h:letters e.key with
  | true=>rw[gB.1 h];rfl
  | false=>
   obtain⟨p,hp⟩:=gB.2 h;rw[hp];simp
 unfold fH;rw[hb,qL]
 cases e.st with
 | true=>simp
 | false=>
  by_cases h0:e.key.size=0
  ·have hn:e.key=⟨#[]⟩:=by
     revert h0
     generalize e.key=y;intro h0;obtain⟨d⟩:=y;exact congrArg ByteArray.mk (Array.eq_empty_of_size_eq_zero h0)
   rw[hn]
   decide+kernel
  ·rw[decide_eq_false h0];simp
theorem vD{O:Nat->Prop}(e:Ev)(p:Pt)(w:World)(hE:iL O w e p)(hO:∀k,O k->k<w.heap.size)(hz:xe e)(hr:e.room.size<=1000000)(hu:e.ag.size<=1000000):
    Calls Tryz.prog 16 #[dZ e p] w fun x w'=>x=.returned (.bool (aG e))/\Below w.heap.size w w':=by
 have hS:aG e=(((Id.parts 33 e.room).2.2&&Id.aK e.aK&&(Id.parts 64 e.ag).2.2)&&(decide (e.key.size<=128)&&decide (Av (gY (ints e.key))<0)&&(e.st || decide (e.key.size=0)))&&(decide (e.content.kind=5)&&goodJ 12 e.content&&goodJ 12 (.mk 5 0 aN [ed] [e.content]))&&(bu 20 e.prev&&bu 10 e.aA&&bJ e.sigs)&&(decide (0<=e.depth)&&decide (e.depth<=1099511627776)&&decide (0<=e.ts)&&decide (e.ts<=9007199254740991)&&(decide (e.hash.size=0) || fU e.hash))):=by
  rw[NH,QV];unfold aG dU di dC
  ac_rfl
 rw[hS];have bS:Below w.heap.size w (w.alloc (.cells (aB e p).toArray 28)):=(Below.refl _ _).alloc (Nat.le_refl _) _;obtain⟨B,hB⟩:∃B,B=w.alloc (.cells (aB e p).toArray 28):=⟨_,rfl⟩;rw[<-hB]at bS;have Ro:∀W,Below B.heap.size B W->iL O W e p:=fun W hW=>hE.below hO (aj bS hW);have P9:∀W,Below B.heap.size B W->∀k,O k->k<W.heap.size:=fun W hW k hk=>Nat.lt_of_lt_of_le (hO k hk) (aj bS hW).size;refine JU e.room e.aK e.ag e.st e.key e.content.kind e.content.int e.content.text e.content.keys.length e.content.list.length e.prev.length e.aA.length e.depth e.ts e.hash e.sigs.length p.pk p.ck p.pl p.cl p.pp p.cp p.pa p.ca p.ps p.cs w B
  (Id.parts 33 e.room).1 (Id.parts 33 e.room).2.1 _ _ _ _ _ _ _ _ _ _ hz.hash hB
  (fun W hW j v hj=>a_ ((hW.block _ (by rw[hB];simp)).trans (by rw[hB];exact heap_alloc_new _ _)) j v hj) bS (fun W _=>Id.Dk e.room W (by omega))
  (fun W _=>(Id.Di e.aK W (by have:=hz.aK;omega)).mono fun x w2 h=>⟨h.1,h.2 ▸ Below.refl _ _⟩) (fun W _=>E_ e.ag W hu)
  (fun W _=>(BI Qk e.key W hz.key).mono fun x w2 h=>⟨h.1,h.2 ▸ Below.refl _ _⟩)
  (fun W hW=>uZ (P9 W hW) hz.cont (Ro W hW).cont) (fun W hW=>(NG (P9 W hW) (Ro W hW).cont).mono fun x w2 h=> ?_)
  (fun W hW=>wC 20 (Ro W hW).prev (P9 W hW) hz.prev (by decide)) (fun W hW=>wC 10 (Ro W hW).aA (P9 W hW) hz.aA (by decide))
  (fun W hW=>Cq (Ro W hW).sigs (P9 W hW) hz.sigs hz.AX) (fun W _=>Id.nJ _ W)
 obtain⟨⟨p1,p2,rfl,hj⟩,hb⟩:=h;exact⟨⟨p1,p2,rfl,uZ (fun b FX=>FX.elim (fun h=>Nat.lt_of_lt_of_le (P9 W hW b h) hb.size) fun h=>h.2) (Uf hz.cont) hj⟩,hb⟩
end Go.Proofs.YtldegjjaknelgaaGreatDoor

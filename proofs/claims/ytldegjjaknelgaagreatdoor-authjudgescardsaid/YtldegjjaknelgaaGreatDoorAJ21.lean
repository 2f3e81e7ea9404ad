/- A part. -/
import Derived.Test.YtldegjjaknelgaaGreatDoorAJ20
import Derived.Laws.AppendOwn
import Derived.Laws.Append
import Derived.OwnWalk
set_option maxRecDepth 100000
set_option maxHeartbeats 64000000
namespace Go.Proofs.YtldegjjaknelgaaGreatDoor
open Go.RowKit
abbrev Ut:=ByteArray×ByteArray
def lh(l:List Ut):List Value:=l.flatMap fun x=> [.string x.1,.string x.2,.string ⟨#[]⟩]
theorem DN(l m:List Ut):lh (l++m)=lh l++lh m:=by simp[lh]
theorem Cy:∀(l:List Ut) (j:Nat),j<l.length->(lh l)[j*3]?=some (.string (l.getD j (aT,aT)).1)/\(lh l)[j*3+1]?=some (.string (l.getD j (aT,aT)).2)/\(lh l)[j*3+2]?=some (.string ⟨#[]⟩)
 | [],j,h=>absurd h (by simp)
 | a::r,0,_=>⟨rfl,rfl,rfl⟩
 | a::r,j+1,h=>by
  have:=Cy r j (by simpa using h);rw[show(j+1)*3=j*3+1+1+1 by omega];exact this
def VR(O:Nat->Prop)(w:World)(p:Option Addr)(c:Nat)(l:List Ut):Prop:=
 l.length<=c/\∀j,j<l.length->∃b o,p=some ⟨b,o,none⟩/\O b/\w.cell? ⟨b,o+j*3,none⟩=some (.string (l.getD j (aT,aT)).1)/\w.cell? ⟨b,o+j*3+1,none⟩=some (.string (l.getD j (aT,aT)).2)/\w.cell? ⟨b,o+j*3+2,none⟩=some (.string ⟨#[]⟩)
theorem VR.nil(O:Nat->Prop)(w:World)(c:Nat)(p:Option Addr):VR O w p c []:=⟨Nat.zero_le _,fun j hj=>absurd hj (by simp)⟩
theorem VR.carry{O O':Nat->Prop}{w w':World}{p:Option Addr}{c:Nat}{l:List Ut}(h:VR O w p c l)(hO:∀k,O k->O' k/\w'.heap[k]?=w.heap[k]?):VR O' w' p c l:=
 ⟨h.1,fun j hj=>by
  obtain⟨b,o,hp,hB,h1,h2,h3⟩:=h.2 j hj;exact⟨b,o,hp,(hO _ hB).1,(World.cell?_of_block (a:=⟨b,o+j*3,none⟩) (hO _ hB).2).trans h1,(World.cell?_of_block (a:=⟨b,o+j*3+1,none⟩) (hO _ hB).2).trans h2,(World.cell?_of_block (a:=⟨b,o+j*3+2,none⟩) (hO _ hB).2).trans h3⟩⟩
def se(e:Ev):List Ut:=if fT e.aR aV then []else
 [(aV,⟨#[]⟩),(bF,⟨#[]⟩),(bg,e.ah)]++
  (if e.st&&fT e.aR bg then(if fT e.key e.ah then []else [(bg,e.key)])++(if fT (dW e.content dG) jT || fT (dW e.content dG) lD then [(dJ,⟨#[]⟩)]else [])else [])
theorem KA{w:World}{fB:Nat}{v:Value}{l:List Ut}(h:w.ownsRow fB 39 3 v l.length (lh l)):∃q c,v=.slice q l.length c/\VR (fun b=>fB<=b/\b<w.heap.size) w q c l:=by
 obtain⟨_,⟨rfl,h0⟩| ⟨g,cap,cur,rfl,hb,hg,hn,_,hc,ht⟩⟩:=h
 ·obtain rfl:l= []:=List.eq_nil_of_length_eq_zero h0;exact⟨none,0,rfl,VR.nil _ _ _ _⟩
 ·refine⟨_,_,rfl,hn,fun j hj=> ?_⟩;obtain⟨g1,g2,g3⟩:=Cy l j hj;rw[<-ht,List.getElem?_take,if_pos (by omega)]at g1 g2 g3;refine⟨g,0,rfl,⟨hb,aP hg⟩, ?_, ?_, ?_⟩
  ·rw[Nat.zero_add];exact ai hg (j*3) _ (by simpa using g1)
  ·rw[Nat.zero_add];exact ai hg (j*3+1) _ (by simpa using g2)
  ·rw[Nat.zero_add];exact ai hg (j*3+2) _ (by simpa using g3)
theorem VS:(Tryz.prog.info? 39).map (fun i=>(i.size,i.bytes,i.zero))=some (3,48,some (.agg #[.string ⟨#[]⟩,.string ⟨#[]⟩,.string ⟨#[]⟩])):=by kernel_rfl
theorem fJ{w:World}{bZ:Array Oper}{rest:List Oper}{o:Oper}{a:Act}{Q:Exit->Act->World->Prop}(tL:o.guard=none)(s x:Operand)
    (ho:o.op=.call {callee:=.builtin .append,args:=#[s,x],argTypes:=#[36,36]})
    (fB:Nat) (v:Value) (L:List Ut) (hs:a.eval s=v) (aN:w.ownsRow fB 39 3 v L.length (lh L)) (g c:Nat) (y:Ut) (hx:a.eval x=.slice (some ⟨g,0,none⟩) 1 c) (hg:w.heap[g]?=some (.cells #[.string y.1,.string y.2,.string ⟨#[]⟩] 39 (0,0)))
    (fw:L.length<=100000) (mF:fB<=w.heap.size)
    (h:∀v' w',w'.ownsRow fB 39 3 v' (L++ [y]).length (lh (L++ [y]))->w.grownBy w' v.ownBlock->wpList Tryz.prog bZ Q rest (a.put o.dst v') w'):wpList Tryz.prog bZ Q (o::rest) a w:=by
 obtain⟨i,hi,hi2⟩:=Option.map_eq_some_iff.1 VS;simp only[Prod.mk.injEq]at hi2;obtain⟨rC,pR,nC⟩:=hi2;refine wpList_append_own w tL s x 36 ho fB 39 i _ 3 48 Tryz.underlying36 hi nC rC pR rfl (by decide) v L.length (lh L) hs aN ⟨g,0,none⟩ 1 c [.string y.1,.string y.2,.string ⟨#[]⟩] hx rfl (fun j u hu=> ?_) (fun u hu=> ?_) (by unfold maxLen;omega) (by omega) mF ?_
 ·have ea:(⟨g,0,none⟩:Addr).add j=⟨g,j,none⟩:=by unfold Addr.add;split<;>simp_all
  rw[ea];exact ai hg j u (by simpa using hu)
 ·simp only[List.mem_cons,List.not_mem_nil,or_false]at hu
  rcases hu with rfl| rfl| rfl<;>rfl
 ·intro v' w' uh mE _;exact h v' w' (by rw[List.length_append,DN];exact uh) mE
theorem kM{w w':World}{row:Option Nat}{B:Nat}(h:w.grownBy w' row)(hB:B<=w.heap.size)(hr:∀k,row=some k->B<=k):Below B w w':=
 ⟨h.os,h.tape,h.output,h.size,fun k hk=>h.block k (Nat.lt_of_lt_of_le hk hB) fun e=>by have:=hr k e.symm;omega⟩
theorem KC{O:Nat->Prop}{w:World}{e:Ev}{p:Pt}(h:ji O w e p)(hO:∀b,O b->b<w.heap.size)(hz:yC e):
    Calls Tryz.prog 14 #[eF e p] w fun x w'=>(∃q c,x=.returned (.slice q (se e).length c)/\VR (fun b=>w.heap.size<=b/\b<w'.heap.size) w' q c (se e))/\Below w.heap.size w w':=by
 obtain⟨W0,cO⟩:∃W0,W0=w.alloc (.cells (aA e p).toArray 28):=⟨_,rfl⟩;have cK:Below w.heap.size w W0:=by rw[cO];exact(Below.refl _ _).alloc (Nat.le_refl _) _
 have kU:W0.heap[w.heap.size]?=some (.cells (aA e p).toArray 28 (0,0)):=by rw[cO];exact bz _
 have XG:Hid (W0.heap.size=w.heap.size+1):=by show _=_;rw[cO];simp
 have hV:=iI h hO cK kU;have HV:Hid (∀X,Below W0.heap.size W0 X->lW X w.heap.size e p):=fun X hX=>hV.below hX;have Gu:Hid (∀X,Below W0.heap.size W0 X->Calls Tryz.prog 31 #[.agg #[.int .i64 e.content.kind,.int .i64 e.content.int,.string e.content.text,.slice p.pk e.content.keys.length p.ck,.slice p.pl e.content.list.length p.cl],.string dG] X fun x w'=>x=.returned (.string (dW e.content dG))/\Below X.heap.size X w'):=fun X hX=>qX (O:=(· <X.heap.size)) (j:=e.content) (HV.out X hX).ev.cont (fun _ h=>h) (fH hz.cont) dG;have HW:Hid (se e=if fT e.aR aV then []else [(aV,⟨#[]⟩),(bF,⟨#[]⟩),(bg,e.ah)]++(if e.st&&fT e.aR bg then(if fT e.key e.ah then []else [(bg,e.key)])++(if fT (dW e.content dG) jT || fT (dW e.content dG) lD then [(dJ,⟨#[]⟩)]else [])else [])):=rfl;have fu:Hid (∀(l:List Ut) v W,se e=l->W.ownsRow W0.heap.size 39 3 v l.length (lh l)->Below W0.heap.size W0 W->(∃q c,Ending.returned v=.returned (.slice q (se e).length c)/\VR (fun b=>w.heap.size<=b/\b<W.heap.size) W q c (se e))/\Below w.heap.size w W):=fun l v W hl ho hb=>by
  obtain⟨q,c,rfl,hr⟩:=KA ho;rw[hl];exact⟨⟨q,c,rfl,hr.carry fun k hk=>⟨⟨Nat.le_trans cK.size hk.1,hk.2⟩,rfl⟩⟩,ag cK hb⟩
 have et:=hV.aR;clear h hV kU hz;unfold eF;unfold fT at HW;rw[kJ,qm,j6,kI]at HW
 cases hc:(e.aR.toList== [109,46,114,111,111,109,46,99,114,101,97,116,101])with
 | true=>
  have HT:Hid (se e= []):=by show _=_;rw[HW.out,if_pos hc]
  go_enter Tryz.func14,Tryz.ntmps14
  go_upto_region 1 with fail
  rw[<-cO];clear cO;go_wp2;go_ret;exact fu.out [] _ _ HT.out (World.ownsRow_nil _ _ _ _) (Below.refl _ _)
 | false=>
  have HT:Hid (se e= [(aV,⟨#[]⟩),(bF,⟨#[]⟩),(bg,e.ah)]++(if e.st&&(e.aR.toList== [109,46,114,111,111,109,46,109,101,109,98,101,114])then(if e.key.toList==e.ah.toList then []else [(bg,e.key)])++(if(dW e.content dG).toList== [106,111,105,110] || (dW e.content dG).toList== [105,110,118,105,116,101]then [(dJ,⟨#[]⟩)]else [])else [])):=by show _=_;rw[HW.out,if_neg (by rw[hc];decide)]
  clear HW;have es:=(HV.out W0 (Below.refl _ _)).ah;go_enter Tryz.func14,Tryz.ntmps14
  go_upto_region 1 with fail
  rw[<-cO];clear cO
  go_upto_region 4 with fail
  obtain⟨W1,pW⟩:∃W1,W1=W0.alloc (.cells #[.string aV,.string ⟨#[]⟩,.string ⟨#[]⟩,.string bF,.string ⟨#[]⟩,.string ⟨#[]⟩,.string bg,.string e.ah,.string ⟨#[]⟩] 39):=⟨_,rfl⟩;have aL:Below W0.heap.size W0 W1:=by rw[pW];exact(Below.refl _ _).alloc (Nat.le_refl _) _
  have hX1:W1.heap[W0.heap.size]?=some (.cells #[.string aV,.string ⟨#[]⟩,.string ⟨#[]⟩,.string bF,.string ⟨#[]⟩,.string ⟨#[]⟩,.string bg,.string e.ah,.string ⟨#[]⟩] 39 (0,0)):=by rw[pW];exact bz _
  have HO1:Hid (W1.ownsRow W0.heap.size 39 3 (.slice (some ⟨W0.heap.size,0,none⟩) 3 3) 3 (lh [(aV,⟨#[]⟩),(bF,⟨#[]⟩),(bg,e.ah)])):=⟨rfl,.inr ⟨W0.heap.size,3,_,rfl,Nat.le_refl _,hX1,Nat.le_refl _,by decide,rfl,rfl⟩⟩;change Code.wp _ _ _ _ (W0.alloc (.cells #[.string aV,.string ⟨#[]⟩,.string ⟨#[]⟩,.string bF,.string ⟨#[]⟩,.string ⟨#[]⟩,.string bg,.string e.ah,.string ⟨#[]⟩] 39));rw[<-pW];clear pW hX1 et es;have hV1:=HV.out W1 aL;have et:=hV1.aR;have est:=hV1.l9;have ek:=hV1.key;have es:=hV1.ah;have BK:=(show Hid _ from hV1.qo);clear hV1;generalize lG:e.st=st at est HT
  cases st with
  | false=>
   go_wp2;go_ret;exact fu.out _ _ _ HT.out HO1.out aL
  | true=>
   cases hm:(e.aR.toList== [109,46,114,111,111,109,46,109,101,109,98,101,114])with
   | false=>
    go_wp2;go_ret;refine fu.out _ _ _ ?_ HO1.out aL;rw[HT.out,hm]
    rfl
   | true=>
    have fD:Hid (se e= [(aV,⟨#[]⟩),(bF,⟨#[]⟩),(bg,e.ah)]++((if e.key.toList==e.ah.toList then []else [(bg,e.key)])++(if(dW e.content dG).toList== [106,111,105,110] || (dW e.content dG).toList== [105,110,118,105,116,101]then [(dJ,⟨#[]⟩)]else []))):=by show _=_;rw[HT.out,hm];rfl
    clear HT;generalize dW e.content dG=m at Gu fD
    cases hk:(e.key.toList==e.ah.toList)with
    | true=>
     have JL:=Gu.out W1 aL;rw[hk]at fD
     go_upto_region 9 with(first
      | (refine wpList_load_mid rfl 25 _ rfl w.heap.size 5 rfl _ _ BK.out Tryz.underlying25 rfl (by kernel_rfl) ?_)
      | (go_at_call 31;refine JL.mono ?_;rintro x W2 ⟨rfl,aY⟩))
     have ko:Below W0.heap.size W0 W2:=ag aL aY;have HO2:Hid (W2.ownsRow W0.heap.size 39 3 (.slice (some ⟨W0.heap.size,0,none⟩) 3 3) [(aV,⟨#[]⟩),(bF,⟨#[]⟩),(bg,e.ah)].length (lh [(aV,⟨#[]⟩),(bF,⟨#[]⟩),(bg,e.ah)])):=by
      obtain⟨h1,⟨h2,_⟩| ⟨g,cap,cur,h2,h3,h4,h5⟩⟩:=HO1.out
      ·cases h2
      ·exact⟨h1,.inr ⟨g,cap,cur,h2,h3,(aY.block g (aP h4)).trans h4,h5⟩⟩
     cases hj:(m.toList== [106,111,105,110])with
     | true=>
      go_wp2_with(refine fJ rfl _ _ rfl W0.heap.size (.slice (some ⟨W0.heap.size,0,none⟩) 3 3) [(aV,⟨#[]⟩),(bF,⟨#[]⟩),(bg,e.ah)] rfl ((HO2.out).alloc _) W2.heap.size 1 (dJ,⟨#[]⟩) rfl (bz _) (by simp) (by simp;exact Nat.le_trans ko.size (Nat.le_succ _)) fun v9 W9 ho9 hg9=> ?_);go_ret;exact fu.out _ _ _ (by rw[fD.out,hj];rfl) ho9 (ko.trans (((Below.refl W0.heap.size W2).alloc ko.size _).trans (kM hg9 (by simp;exact Nat.le_trans ko.size (Nat.le_succ _)) fun k hk=>(HO2.out.lt k hk).1)))
     | false=>
      cases hi:(m.toList== [105,110,118,105,116,101])with
      | true=>
       go_wp2_with(refine fJ rfl _ _ rfl W0.heap.size (.slice (some ⟨W0.heap.size,0,none⟩) 3 3) [(aV,⟨#[]⟩),(bF,⟨#[]⟩),(bg,e.ah)] rfl ((HO2.out).alloc _) W2.heap.size 1 (dJ,⟨#[]⟩) rfl (bz _) (by simp) (by simp;exact Nat.le_trans ko.size (Nat.le_succ _)) fun v9 W9 ho9 hg9=> ?_);go_ret;exact fu.out _ _ _ (by rw[fD.out,hj,hi];rfl) ho9 (ko.trans (((Below.refl W0.heap.size W2).alloc ko.size _).trans (kM hg9 (by simp;exact Nat.le_trans ko.size (Nat.le_succ _)) fun k hk=>(HO2.out.lt k hk).1)))
      | false=>
       go_wp2;go_ret;exact fu.out _ _ _ (by rw[fD.out,hj,hi];rfl) HO2.out ko
    | false=>
     rw[hk]at fD
     go_upto_region 8 with(refine fJ rfl _ _ rfl W0.heap.size (.slice (some ⟨W0.heap.size,0,none⟩) 3 3) [(aV,⟨#[]⟩),(bF,⟨#[]⟩),(bg,e.ah)] rfl ((HO1.out).alloc _) W1.heap.size 1 (bg,e.key) rfl (bz _) (by simp) (by simp;exact Nat.le_trans aL.size (Nat.le_succ _)) fun v1 W2 Jj pU=> ?_)
     have ko:Below W0.heap.size W0 W2:=aL.trans (((Below.refl W0.heap.size W1).alloc aL.size _).trans (kM pU (by simp;exact Nat.le_trans aL.size (Nat.le_succ _)) fun k hk=>(HO1.out.lt k hk).1));have HO2:Hid (W2.ownsRow W0.heap.size 39 3 v1 ([(aV,⟨#[]⟩),(bF,⟨#[]⟩),(bg,e.ah)]++ [(bg,e.key)]).length (lh ([(aV,⟨#[]⟩),(bF,⟨#[]⟩),(bg,e.ah)]++ [(bg,e.key)]))):=Jj;have JL:=Gu.out W2 ko;have VT:=(show Hid _ from(HV.out W2 ko).qo);clear Jj pU BK HO1 aL et est ek es
     go_upto_region 9 with(first
      | (refine wpList_load_mid rfl 25 _ rfl w.heap.size 5 rfl _ _ VT.out Tryz.underlying25 rfl (by kernel_rfl) ?_)
      | (go_at_call 31;refine JL.mono ?_;rintro x W3 ⟨rfl,df⟩))
     have Az:Below W0.heap.size W0 W3:=ag ko df;have HO3:Hid (W3.ownsRow W0.heap.size 39 3 v1 ([(aV,⟨#[]⟩),(bF,⟨#[]⟩),(bg,e.ah)]++ [(bg,e.key)]).length (lh ([(aV,⟨#[]⟩),(bF,⟨#[]⟩),(bg,e.ah)]++ [(bg,e.key)]))):=by
      obtain⟨h1,⟨h2,h3⟩| ⟨g,cap,cur,h2,h3,h4,h5⟩⟩:=HO2.out
      ·exact⟨h1,.inl ⟨h2,h3⟩⟩
      ·exact⟨h1,.inr ⟨g,cap,cur,h2,h3,(df.block g (aP h4)).trans h4,h5⟩⟩
     cases hj:(m.toList== [106,111,105,110])with
     | true=>
      go_wp2_with(refine fJ rfl _ _ rfl W0.heap.size v1 ([(aV,⟨#[]⟩),(bF,⟨#[]⟩),(bg,e.ah)]++ [(bg,e.key)]) rfl ((HO3.out).alloc _) W3.heap.size 1 (dJ,⟨#[]⟩) rfl (bz _) (by simp) (by simp;exact Nat.le_trans Az.size (Nat.le_succ _)) fun v9 W9 ho9 hg9=> ?_);go_ret;exact fu.out _ _ _ (by rw[fD.out,hj];rfl) ho9 (Az.trans (((Below.refl W0.heap.size W3).alloc Az.size _).trans (kM hg9 (by simp;exact Nat.le_trans Az.size (Nat.le_succ _)) fun k hk=>(HO3.out.lt k hk).1)))
     | false=>
      cases hi:(m.toList== [105,110,118,105,116,101])with
      | true=>
       go_wp2_with(refine fJ rfl _ _ rfl W0.heap.size v1 ([(aV,⟨#[]⟩),(bF,⟨#[]⟩),(bg,e.ah)]++ [(bg,e.key)]) rfl ((HO3.out).alloc _) W3.heap.size 1 (dJ,⟨#[]⟩) rfl (bz _) (by simp) (by simp;exact Nat.le_trans Az.size (Nat.le_succ _)) fun v9 W9 ho9 hg9=> ?_);go_ret;exact fu.out _ _ _ (by rw[fD.out,hj,hi];rfl) ho9 (Az.trans (((Below.refl W0.heap.size W3).alloc Az.size _).trans (kM hg9 (by simp;exact Nat.le_trans Az.size (Nat.le_succ _)) fun k hk=>(HO3.out.lt k hk).1)))
      | false=>
       go_wp2;go_ret;exact fu.out _ _ _ (by rw[fD.out,hj,hi];rfl) HO3.out Az
abbrev uA:ByteArray:=⟨#[64,97,58,115,49]⟩
abbrev uB:ByteArray:=⟨#[64,98,58,115,50]⟩
abbrev vJ:ByteArray:=⟨#[36,65,65,65,65,65,65,65,65,65,65,69]⟩
abbrev VU:ByteArray:=⟨#[36,65,65,65,65,65,65,65,65,65,65,73]⟩
abbrev vK:Ev:=stE aV ⟨#[]⟩ uA (tC fI uA)
abbrev SA:Ev:=stE bg uA uA (tC dG jT)
abbrev Br:Ev:=⟨⟨#[33,114,58,115,49]⟩,bg,uA,true,uA,tC dG jT, [vJ], [],0,0,aT, []⟩
abbrev PD:Ev:=⟨⟨#[33,114,58,115,49]⟩,⟨#[109,46,114,111,111,109,46,109,101,115,115,97,103,101]⟩,uB,false,⟨#[]⟩,.mk 5 0 ⟨#[]⟩ [] [], [], [],0,0,⟨#[]⟩, []⟩
abbrev Uu:Ev:=stE bg uA uA (tC dG yg)
theorem SB:aS vK=true:=by kernel_rfl
theorem SC:aS Br=true:=by kernel_rfl
theorem SE:aS PD=true:=by kernel_rfl
theorem SF:aS Uu=true:=by kernel_rfl
theorem ze6:askT vK []=true:=by kernel_rfl
theorem ze7:askT Br [(vJ,vK)]=true:=by kernel_rfl
theorem ze8:askT PD [(vJ,vK),(VU,Br)]=false:=by kernel_rfl
theorem ze9:askT Uu [(vJ,vK),(VU,Br)]=false:=by kernel_rfl
theorem zaD:(se Br).length=4:=by kernel_rfl
theorem VV:je vK []=0:=by unfold je;rw[SB,ze6];rfl
theorem VW:je Br [(vJ,vK)]=0:=by unfold je;rw[SC,ze7];rfl
theorem VX:je PD [(vJ,vK),(VU,Br)]=110:=by unfold je;rw[SE,ze8];rfl
theorem VY:je Uu [(vJ,vK),(VU,Br)]=110:=by unfold je;rw[SF,ze9];rfl
theorem KD(w:World)(s:ByteArray)(e:Ev)(p:Pt):(Instr.build 41 #[(0,.string s),(1,eF e p)]).run Tryz.prog w=.ok (l8 (s,e) p) w:=by kernel_rfl
theorem SG(w:World)(k:Kn)(q:Pt):(Instr.buildSlice 29 1 #[(0,l8 k q)]).run Tryz.prog w=.ok (.slice (some ⟨w.heap.size,0,none⟩) 1 1) (w.alloc (.cells (az k q).toArray 41)):=by kernel_rfl
section
variable {bZ : Array Oper} {rest : List Oper} {op : Oper} {a : Act} {w : World} {Q : Exit -> Act -> World -> Prop}
theorem Bt(tL:op.guard=none)(x y:Operand)(ho:op.op=.build 41 #[(0,x),(1,y)])(s:ByteArray)(e:Ev)(p:Pt)(hx:a.eval x=.string s)(hy:a.eval y=eF e p)
    (h:wpList Tryz.prog bZ Q rest (a.put op.dst (l8 (s,e) p)) w):wpList Tryz.prog bZ Q (op::rest) a w:=by
 refine wpList_plain tL fun K hK=> ?_;unfold Oper.wp;simp[execOp,ho,hx,hy,KD];exact hK _ _ h
theorem Gv(tL:op.guard=none)(x:Operand)(ho:op.op=.buildSlice 29 1 #[(0,x)])(k:Kn)(q:Pt)(hx:a.eval x=l8 k q)
    (h:wpList Tryz.prog bZ Q rest (a.put op.dst (.slice (some ⟨w.heap.size,0,none⟩) 1 1)) (w.alloc (.cells (az k q).toArray 41))):wpList Tryz.prog bZ Q (op::rest) a w:=by
 refine wpList_plain tL fun K hK=> ?_;unfold Oper.wp;simp[execOp,ho,hx,SG];exact hK _ _ h
end
theorem qC{bZ:Array Oper}{rest:List Oper}{op:Oper}{a:Act}{w:World}{Q:Exit->Act->World->Prop}(tL:op.guard=none)(x y:Operand)(ho:op.op=.build 41 #[(0,x),(1,y)])(s:ByteArray)(e:Ev)(p:Pt)(L:List Value)(hL:L=aA e p)(hx:a.eval x=.string s)(hy:a.eval y=.agg L.toArray)
    (h:∀M:List Value,Hid (M=az (s,e) p)->wpList Tryz.prog bZ Q rest (a.put op.dst (.agg M.toArray)) w):wpList Tryz.prog bZ Q (op::rest) a w:=by
 subst hL;exact Bt tL x y ho s e p hx hy (h _ rfl)
theorem uZ{bZ:Array Oper}{rest:List Oper}{op:Oper}{a:Act}{w:World}{Q:Exit->Act->World->Prop}(tL:op.guard=none)(x:Operand)(ho:op.op=.buildSlice 29 1 #[(0,x)])(k:Kn)(q:Pt)(M:List Value)(hM:M=az k q)(hx:a.eval x=.agg M.toArray)
    (h:wpList Tryz.prog bZ Q rest (a.put op.dst (.slice (some ⟨w.heap.size,0,none⟩) 1 1)) (w.alloc (.cells M.toArray 41))):wpList Tryz.prog bZ Q (op::rest) a w:=by
 subst hM;exact Gv tL x ho k q hx h
theorem zaE:(Tryz.prog.info? 41).map (fun i=>(i.zero,i.size,i.bytes))=some (some (l8 zK Pt.zero),17,272):=by kernel_rfl
theorem Gw{bZ:Array Oper}{rest:List Oper}{o:Oper}{a:Act}{w:World}{Q:Exit->Act->World->Prop}(tL:o.guard=none)(s x:Operand)
    (ho:o.op=.call {callee:=.builtin .append,args:=#[s,x],argTypes:=#[29,29]})
    (b1 b2:Nat) (k1 k2:Kn) (q1 q2:Pt) (hs:a.eval s=.slice (some ⟨b1,0,none⟩) 1 1) (hx:a.eval x=.slice (some ⟨b2,0,none⟩) 1 1)
    (h1:w.heap[b1]?=some (.cells (az k1 q1).toArray 41 (0,0))) (h2:w.heap[b2]?=some (.cells (az k2 q2).toArray 41 (0,0)))
    (h:∀c w',2<=c->Below w.heap.size w w'->(∀n v,(az k1 q1)[n]?=some v->w'.cell? ⟨w.heap.size,n,none⟩=some v)->(∀n v,(az k2 q2)[n]?=some v->w'.cell? ⟨w.heap.size,17+n,none⟩=some v)->wpList Tryz.prog bZ Q rest (a.put o.dst (.slice (some ⟨w.heap.size,0,none⟩) 2 c)) w'):wpList Tryz.prog bZ Q (o::rest) a w:=by
 obtain⟨i,hi,hz,fK,Ef⟩:=info_parts zaE;have wO:∀b m,(⟨b,0,none⟩:Addr).add m=⟨b,m,none⟩:=fun b m=>by unfold Addr.add;split<;>simp_all
 have qi:=run_append_grow (P:=Tryz.prog) (w:=w) 29 o.type 41 i _ Tryz.underlying29 hi hz ⟨b1,0,none⟩ 1 1 (az k1 q1) (by rw[fK];rfl) (fun j v hv=>by rw[wO];exact ai h1 j v (by simpa using hv)) ⟨b2,0,none⟩ 1 1 (az k2 q2) (by rw[fK];rfl) (fun j v hv=>by rw[wO];exact ai h2 j v (by simpa using hv)) (by decide) (by decide) (by rw[Ef];decide);obtain⟨c,hc⟩:∃c,c=grownCap w (1+1) 1 41:=⟨_,rfl⟩;have nI:2<=c:=by rw[hc];exact grownCap_ge w 2 1 41
 rw[<-hc]at qi;obtain⟨cur,Ip⟩:∃cur,cur=(az k1 q1).toArray++(az k2 q2).toArray++Builtin.zeroCells (l8 zK Pt.zero).cells (c - (1+1)):=⟨_,rfl⟩;rw[<-Ip]at qi;have hr:(Builtin.append_ #[29,29] o.type #[.slice (some ⟨b1,0,none⟩) 1 1,.slice (some ⟨b2,0,none⟩) 1 1]).run Tryz.prog w=.ok (.slice (some ⟨w.heap.size,0,none⟩) 2 c) (w.drew.alloc (.cells cur 41)):=qi;have hN:(w.drew.alloc (.cells cur 41)).heap[w.heap.size]?=some (.cells cur 41 (0,0)):=bz (w:=w.drew) (.cells cur 41);have h17:(az k1 q1).length=17:=rfl;have hgo:=h c (w.drew.alloc (.cells cur 41)) nI ((Below.refl _ _).drew.alloc (Nat.le_refl _) _) (fun n v hv=>by
  refine ai hN n v ?_;have hn:n<(az k1 q1).length:=(List.getElem?_eq_some_iff.1 hv).1;rw[Ip,Array.getElem?_append_left (by simp;omega),Array.getElem?_append_left (by simpa using hn)];simpa using hv) (fun n v hv=>by
  refine ai hN (17+n) v ?_;have hn:n<(az k2 q2).length:=(List.getElem?_eq_some_iff.1 hv).1;rw[Ip,Array.getElem?_append_left (by simp;omega),Array.getElem?_append_right (by simp;omega)];simpa [h17]using hv)
 clear qi Ip hN h;refine wpList_plain tL fun K hK=> ?_;unfold Oper.wp;simp[execOp,ho,resolve,invoke,builtin,hs,hx,hr,Result.andThen];exact hK _ _ hgo
def zfa(w':World):Option Hr->Ending->Prop
 | none,x=>x=gF false
 | some H,x=>∃hb P,x=.returned (.pointer (some ⟨hb,0,none⟩))/\jw w' hb H P
theorem KE{s:ByteArray}(h:s.size<=1000000000):zy (jJ s):=⟨⟨by simp,fun p hp=>by simp at hp;subst hp;exact h⟩,⟨by simp,fun p hp=>by simp at hp⟩⟩
theorem M8{e:Ev}{l:List Kn}{H:Hr}(hz:yC e)(hk:FE l)(h:openT e l=some H):Qa H:=by
 unfold openT at h
 split at h
 ·cases h
 ·rename_i c hc
  split at h
  ·split at h
   ·cases h
   ·rename_i v hv
    cases h
    refine⟨hz,hk, ?_⟩;unfold levT at hv
    split at hv
    ·rename_i k hf
     split at hv
     ·cases hv
      exact zP (ky 12 13 _ (by decide) (hk.cont k (List.mem_of_find?_eq_some hf)))
     ·cases hv
    ·cases hv
     exact KE (hk.snd c (List.mem_of_find?_eq_some hc))
  ·cases h
theorem u_(b t:Nat):∀(vs pre cur post:List Value) (w:World),w.heap[b]?=some (.cells (pre++(cur++post)).toArray t (0,0))->cur.length=vs.length->(w.setCells b pre.length vs).heap[b]?=some (.cells (pre++(vs++post)).toArray t (0,0))
 | [],pre,cur,post,w,h,hl=>by
  obtain rfl:cur= []:=List.eq_nil_of_length_eq_zero hl;exact h
 | v::r,pre,c::cur,post,w,h,hl=>by
  have h0:(w.setCell ⟨b,pre.length,none⟩ v).heap[b]?=some (.cells ((pre++ [v])++(cur++post)).toArray t (0,0)):=by
   rw[heap_setCell_same w b pre.length _ _ _ h];simp
  have:=u_ b t r (pre++ [v]) cur post _ h0 (by simpa using hl);rw[List.length_append]at this;simpa [World.setCells]using this
theorem si(b:Nat):∀(vs:List Value) (w:World) (i:Nat),ay (aJ b) w (w.setCells b i vs)
 | [],w,_=>ay.refl _ w
 | v::r,w,i=>(ay.setCell (p:=⟨b,i,none⟩) (ay.refl (aJ b) w) (fun _=>(rfl:b=b)) v).then (si b r _ (i+1))
theorem ym{bZ:Array Oper}{rest:List Oper}{op:Oper}{a:Act}{w:World}{Q:Exit->Act->World->Prop}(tL:op.guard=none)(ty:TypeId)(x y:Operand)(ho:op.op=.store ty x y)
    (b o:Nat) (cells:Array Value) (hx:a.eval x=.pointer (some ⟨b,o,none⟩)) (hy:a.eval y=.agg cells)
    (ht:w.there b o cells.size) (hi:(Tryz.prog.info? ty).map (·.size)=some cells.size) (h1:cells.all (·.oneCell')=true) (W':World) (Uj:W'=w.setCells b o cells.toList)
    (h:wpList Tryz.prog bZ Q rest (a.put op.dst undef) W'):wpList Tryz.prog bZ Q (op::rest) a w:=by
 subst Uj;exact wpList_store_mid tL ty x y ho b o cells hx hy ht hi h1 h
section
variable {w : World} {hb : Nat} {h : Hr} {p : Ph}
def zfb(h:Hr)(p:Ph):List Value:=aA h.e p.e++(.slice p.ps h.st.length p.cs::az (h.cn,h.ce) p.ce)
theorem VZ{vs:Lv}{q:Pl}(hX:w.heap[hb]?=some (.cells (oP h p).toArray 92 (0,0))):w.there hb 34 (aG vs q).toArray.size:=fun j hj=>by
 have hj9:j<9:=hj;refine⟨?_,gB hX _⟩;have bQ:34+j<(oP h p).toArray.size:=by show 34+j<44;omega
 rw[ai hX (34+j) _ (Array.getElem?_eq_getElem bQ)]
 rfl
theorem zfc{l:Lv}{q:Pl}(hX:w.heap[hb]?=some (.cells (oP h p).toArray 92 (0,0))):(w.setCells hb 34 (aG l q)).heap[hb]?=some (.cells (zfb h p++(aG l q++ [Value.bool h.told])).toArray 92 (0,0)):=
 u_ hb 92 (aG l q) (zfb h p) (aG h.l p.l) [Value.bool h.told] w hX rfl
end
theorem open_any{O:Nat->Prop}{w:World}{e:Ev}{p:Pt}{ps:Option Addr}{cs:Nat}{l:List Kn}(h:ji O w e p)(lG:pM O w ps cs l)(hO:∀b,O b->b<w.heap.size)(hk:FE l):
    Calls Tryz.prog 52 #[eF e p,.slice ps l.length cs] w fun x w'=>zfa w' (openT e l) x/\Below w.heap.size w w':=by
 obtain⟨W0,cO⟩:∃W0,W0=w.alloc (.cells (aA e p).toArray 28):=⟨_,rfl⟩;have cK:Below w.heap.size w W0:=by rw[cO];exact(Below.refl _ _).alloc (Nat.le_refl _) _
 have kU:W0.heap[w.heap.size]?=some (.cells (aA e p).toArray 28 (0,0)):=by rw[cO];exact bz _
 have hV:=iI h hO cK kU;have HV:Hid (∀X,Below W0.heap.size W0 X->lW X w.heap.size e p):=fun X hX=>hV.below hX;have qa:Hid (∀X,Below W0.heap.size W0 X->pM (· <X.heap.size) X ps cs l):=fun X hX=>lG.carry fun k hk=>⟨Nat.lt_of_lt_of_le (hO k hk) (ag cK hX).size,(ag cK hX).block k (hO k hk)⟩;have HF:Hid (∀(kind:ByteArray) X,Below W0.heap.size W0 X->Calls Tryz.prog 81 #[.slice ps l.length cs,.string kind,.string ⟨#[]⟩] X fun e w'=>(∃q,e=.returned (.tuple #[l8 ((aW l kind ⟨#[]⟩).getD zK) q,.bool (aW l kind ⟨#[]⟩).isSome])/\ji (· <X.heap.size) w' ((aW l kind ⟨#[]⟩).getD zK).2 q)/\Below X.heap.size X w'):=fun kind X hX=>FI (qa.out X hX) (fun _ h=>h) hk.len kind ⟨#[]⟩;have Uv:=HF.out aV W0 (Below.refl _ _);have HF2:=(show Hid _ from HF.out bF);have HE0:Hid (∀X,Below w.heap.size w X->ji (· <w.heap.size) X e p/\pM (· <w.heap.size) X ps cs l):=fun X hX=>⟨h.carry fun k hk=>⟨hO k hk,hX.block k (hO k hk)⟩,lG.carry fun k hk=>⟨hO k hk,hX.block k (hO k hk)⟩⟩;have HSC:Hid (∀k,aW l bF ⟨#[]⟩=some k->szJ 12 k.2.content=true):=fun k hf=>ky 12 13 _ (by decide) (hk.cont k (List.mem_of_find?_eq_some hf));have HO:Hid (openT e l=match aW l aV ⟨#[]⟩with| none=>none| some c=>if fT c.2.room e.room then(match levT l c.2.ah with| none=>none| some v=>some ⟨e,l,c.1,c.2,v,(aW l bF ⟨#[]⟩).isSome⟩)else none):=rfl;clear h lG hV kU HF hk;unfold eF;generalize aW l aV ⟨#[]⟩=oc at Uv HO
 cases oc with
 | none=>
  have HT:Hid (openT e l=none):=HO.out;clear HO;simp only[Option.getD_none,Option.isSome_none]at Uv;go_enter Tryz.func52,Tryz.ntmps52
  go_upto_region 1 with fail
  rw[<-cO];clear cO;go_wp2_with(first
   | (go_at_call 81;refine Uv.mono ?_;rintro e w1 ⟨⟨q,rfl,_⟩,aL⟩;unfold l8)
   | (refine wpList_store_row rfl 41 _ _ rfl w1.heap.size 41 _ (az zK q).toArray rfl rfl (bz _) gV rfl (iW zK q) ?_)
   | (go_at_call 54;refine(bL _ _).mono ?_;rintro e wn ⟨he,rfl⟩;replace he:e=_:=he;subst he))
  refine⟨rfl,by rw[HT.out];rfl,ag cK (ag aL ?_)⟩;exact((Below.refl _ _).alloc (Nat.le_refl _) _).trans ((aX _ w1.heap.size _).below (by simp) fun q hq e=>by unfold aJ at e;omega)
 | some c=>
  simp only[Option.getD_some,Option.isSome_some]at Uv HO;go_enter Tryz.func52,Tryz.ntmps52
  go_upto_region 1 with fail
  rw[<-cO];clear cO
  go_upto_region 2 with(first
   | (go_at_call 81;refine Uv.mono ?_;rintro e w1 ⟨⟨q,rfl,hIc⟩,aL⟩;unfold l8)
   | (refine wpList_store_row rfl 41 _ _ rfl w1.heap.size 41 _ (az c q).toArray rfl rfl (bz _) gV rfl (iW c q) ?_))
  have bM:Below w1.heap.size w1 ((w1.alloc (.cells (az zK Pt.zero).toArray 41)).setRow w1.heap.size (az c q).toArray):=
   ((Below.refl _ _).alloc (Nat.le_refl _) _).trans ((aX _ w1.heap.size _).below (by simp) fun q hq e=>by unfold aJ at e;omega)
  have hX:((w1.alloc (.cells (az zK Pt.zero).toArray 41)).setRow w1.heap.size (az c q).toArray).heap[w1.heap.size]?=some (.cells (az c q).toArray 41 (0,0)):=setRow_heap _ _ _ _ _ _ (bz _);change Code.wp _ _ _ _ ((w1.alloc (.cells (az zK Pt.zero).toArray 41)).setRow w1.heap.size (az c q).toArray);generalize (w1.alloc (.cells (az zK Pt.zero).toArray 41)).setRow w1.heap.size (az c q).toArray=W at bM hX;have eU:Below W0.heap.size W0 W:=ag aL bM;have HB:Hid (∀X,Below W.heap.size W X->Below w.heap.size w X):=fun X hX=>ag cK (ag eU hX);have HVW:Hid (∀X,Below W.heap.size W X->lW X w.heap.size e p):=fun X hX=>HV.out X (ag eU hX);have HSW:Hid (∀X,Below W.heap.size W X->pM (· <X.heap.size) X ps cs l):=fun X Qd=>qa.out X (ag eU Qd);have HFW:Hid (∀X,Below W.heap.size W X->Calls Tryz.prog 81 #[.slice ps l.length cs,.string bF,.string ⟨#[]⟩] X fun e w'=>(∃q,e=.returned (.tuple #[l8 ((aW l bF ⟨#[]⟩).getD zK) q,.bool (aW l bF ⟨#[]⟩).isSome])/\ji (· <X.heap.size) w' ((aW l bF ⟨#[]⟩).getD zK).2 q)/\Below X.heap.size X w'):=fun X hX=>HF2.out X (ag eU hX);have HKW:Hid (∀X,Below W.heap.size W X->X.heap[w1.heap.size]?=some (.cells (az c q).toArray 41 (0,0))/\ji (· <X.heap.size) X c.2 q):=fun X Qd=>⟨(Qd.block _ (aP hX)).trans hX,hIc.carry fun k hk=>⟨Nat.lt_of_lt_of_le (Nat.lt_of_lt_of_le hk aL.size) (Nat.le_trans bM.size Qd.size),(Qd.block k (Nat.lt_of_lt_of_le (Nat.lt_of_lt_of_le hk aL.size) bM.size)).trans (bM.block k (Nat.lt_of_lt_of_le hk aL.size))⟩⟩;have er:=(HVW.out W (Below.refl _ _)).room;have cr:W.cell? ⟨w1.heap.size,1,none⟩=some (.string c.2.room):=ai hX 1 _ rfl;clear Uv HF2 HV qa hIc bM hX eU aL
  cases hr:(c.2.room.toList==e.room.toList)with
  | false=>
   have HT:Hid (openT e l=none):=by show _=_;rw[HO.out];exact if_neg (by show¬(fT c.2.room e.room)=true;rw[show fT c.2.room e.room=false from hr];decide)
   clear HO;go_wp2_with(go_at_call 54;refine(bL _ _).mono ?_;rintro e wn ⟨he,rfl⟩;replace he:e=_:=he;subst he);exact⟨rfl,by rw[HT.out];rfl,HB.out _ (Below.refl _ _)⟩
  | true=>
   have HT:Hid (openT e l=match levT l c.2.ah with| none=>none| some v=>some ⟨e,l,c.1,c.2,v,(aW l bF ⟨#[]⟩).isSome⟩):=by show _=_;rw[HO.out];exact if_pos hr
   clear HO
   go_upto_region 3 with(go_at_call 54;refine(bL _ _).mono ?_;rintro e wn ⟨he,rfl⟩;replace he:e=_:=he;subst he)
   refine aI (by kernel_rfl) (fun w'=>Below W.heap.size W w') ?_;change wpIn _ _ _ _ _ _ _ _ (World.drew _);have hD:Below W.heap.size W W.drew:=(Below.refl _ _).drew;refine ae (i:=0) (d:=(some 26)) (v:=(eF e p)) (a':= ?aqo0) rfl rfl (by kernel_rfl) (by kernel_rfl) (by kernel_rfl) (fun _ _ _ h=>h) (Or.inl ⟨by rfl, ?yqo0⟩) ?fqo0 ?_
   case yqo0=>exact fun wq hq=>di rfl rfl (run_loadAt_mid wq w.heap.size 0 28 (aA e p) _ (HVW.out wq hq).iD Tryz.underlying28 rfl dX)
   case fqo0=>(go_frame;rfl)
   refine aa (i:=1) (d:=some 27) rfl ?_;refine ae (i:=2) (d:=(some 28)) (v:=(l8 c q)) (a':= ?aqo2) rfl rfl (by kernel_rfl) (by kernel_rfl) (by kernel_rfl) (fun _ _ _ h=>h) (Or.inl ⟨by rfl, ?yqo2⟩) ?fqo2 ?_
   case yqo2=>exact fun wq hq=>di rfl rfl (run_loadAt_mid wq w1.heap.size 0 41 (az c q) _ (dY (HKW.out wq hq).1) Tryz.underlying41 rfl gV)
   case fqo2=>(go_frame;rfl)
   refine aa (i:=3) (d:=some 29) rfl ?_;refine aa (i:=4) (d:=some 30) rfl ?_;refine aC (i:=5) (d:=some 31) rfl (by(intro wq hq;have zf:wq.cell? ⟨w1.heap.size,3,none⟩=some (.string c.2.ah):=ai (HKW.out wq hq).1 3 _ rfl;go_simp;first| done| with_reducible rfl)) ?_;refine ax (i:=6) hD rfl ?_;intro K hK;go_simp;go_wp2_with(go_at_call 82;refine(Rf c.2.ah).mono ?_;rintro x w2 ⟨⟨ql,rfl,hIl⟩,mf⟩);have hD6:Below W.heap.size W w2:=ag hD mf;refine ae (i:=7) (d:=(some 33)) (v:=(.agg (oP ⟨e,l,c.1,c.2,jJ c.2.ah,false⟩ ⟨p,ps,cs,q,ql⟩).toArray)) (a':= ?aqo7) rfl rfl (by kernel_rfl) (by kernel_rfl) (by kernel_rfl) (fun _ _ _ h=>h) (Or.inl ⟨by rfl, ?yqo7⟩) ?fqo7 ?_
   case yqo7=>(intro wq hq;simp only[eF,l8,fA,aA,az,aG];go_simp;first| done| rfl)
   case fqo7=>(go_frame;rfl)
   refine ax (i:=8) hD6 rfl ?_;intro K hK;go_simp;refine hK _ _ ?_;clear hK K;obtain⟨W3,Ci⟩:∃W3,W3=w2.alloc (.cells (oP ⟨e,l,c.1,c.2,jJ c.2.ah,false⟩ ⟨p,ps,cs,q,ql⟩).toArray 92):=⟨_,rfl⟩;have df:Below w2.heap.size w2 W3:=by rw[Ci];exact(Below.refl _ _).alloc (Nat.le_refl _) _
   have ve:W3.heap[w2.heap.size]?=some (.cells (oP ⟨e,l,c.1,c.2,jJ c.2.ah,false⟩ ⟨p,ps,cs,q,ql⟩).toArray 92 (0,0)):=by rw[Ci];exact bz _
   have Ui:Below W.heap.size W W3:=ag hD6 df;rw[<-Ci];refine aa (i:=9) (d:=some 7) rfl ?_;refine aH Ui (by kernel_rfl) ?_ _;have HTN:Hid (aW l bF ⟨#[]⟩=none->openT e l=some ⟨e,l,c.1,c.2,jJ c.2.ah,false⟩):=fun hf=>by rw[HT.out,levT,hf];rfl
   have Hl:Hid (∀k,aW l bF ⟨#[]⟩=some k->(dh (eG k.2.content)).2=0->openT e l=some ⟨e,l,c.1,c.2,(dh (eG k.2.content)).1,true⟩):=fun k hf h0=>by rw[HT.out,levT,hf];simp only[];rw[if_pos h0];rfl
   have HTB:Hid (∀k,aW l bF ⟨#[]⟩=some k->(dh (eG k.2.content)).2=1->openT e l=none):=fun k hf h0=>by rw[HT.out,levT,hf];simp only[];rw[if_neg (by rw[h0];decide)]
   have HI3:Hid (jw W3 w2.heap.size ⟨e,l,c.1,c.2,jJ c.2.ah,false⟩ ⟨p,ps,cs,q,ql⟩):=⟨ve,(HVW.out W3 Ui).ev,HSW.out W3 Ui,hIl.carry fun b hb=>⟨Nat.lt_of_lt_of_le hb.2 df.size,df.block b hb.2⟩⟩;have hF:=HFW.out W3 Ui;have HS4:Hid (w.heap.size<=w2.heap.size/\w2.heap.size<W3.heap.size):=⟨(HB.out w2 hD6).size,aP ve⟩;have XD:Hid (∀X,Below W3.heap.size W3 X->Below w.heap.size w X):=fun X hX=>HB.out X (ag Ui hX);clear HT Ci ve hIl HVW HSW HFW HKW hD6 hD Ui df mf er cr HB;generalize aW l bF ⟨#[]⟩=op at hF HTN Hl HTB HSC
   cases op with
   | none=>
    have HTE:=(show Hid _ from HTN.out rfl);clear HTN Hl HTB HSC;simp only[Option.getD_none,Option.isSome_none]at hF;go_wp2_with(first
     | (go_at_call 81;refine hF.mono ?_;rintro x w4 ⟨⟨qk,rfl,_⟩,dF⟩;unfold l8)
     | (refine wpList_store_row rfl 41 _ _ rfl w4.heap.size 41 _ (az zK qk).toArray rfl rfl (bz _) gV rfl (iW zK qk) ?_))
    go_ret;have bM:Below w4.heap.size w4 ((w4.alloc (.cells (az zK Pt.zero).toArray 41)).setRow w4.heap.size (az zK qk).toArray):=
     ((Below.refl _ _).alloc (Nat.le_refl _) _).trans ((aX _ w4.heap.size _).below (by simp) fun q hq e=>by unfold aJ at e;omega)
    refine⟨?_,XD.out _ (ag dF bM)⟩;rw[HTE.out];exact⟨_,⟨p,ps,cs,q,ql⟩,rfl,HI3.out.below (ag dF bM)⟩
   | some k=>
    have VM:=(show Hid _ from HSC.out k rfl);simp only[Option.getD_some,Option.isSome_some]at hF
    go_upto_region 6 with(first
     | (go_at_call 81;refine hF.mono ?_;rintro x w4 ⟨⟨qk,rfl,hIk⟩,dF⟩;unfold l8)
     | (refine wpList_store_row rfl 41 _ _ rfl w4.heap.size 41 _ (az k qk).toArray rfl rfl (bz _) gV rfl (iW k qk) ?_))
    have bM:Below w4.heap.size w4 ((w4.alloc (.cells (az zK Pt.zero).toArray 41)).setRow w4.heap.size (az k qk).toArray):=
     ((Below.refl _ _).alloc (Nat.le_refl _) _).trans ((aX _ w4.heap.size _).below (by simp) fun q hq e=>by unfold aJ at e;omega)
    have Gx:((w4.alloc (.cells (az zK Pt.zero).toArray 41)).setRow w4.heap.size (az k qk).toArray).heap[w4.heap.size]?=some (.cells (az k qk).toArray 41 (0,0)):=setRow_heap _ _ _ _ _ _ (bz _);change Code.wp _ _ _ _ ((w4.alloc (.cells (az zK Pt.zero).toArray 41)).setRow w4.heap.size (az k qk).toArray);generalize (w4.alloc (.cells (az zK Pt.zero).toArray 41)).setRow w4.heap.size (az k qk).toArray=W4 at bM Gx;have vE:Below W3.heap.size W3 W4:=ag dF bM;have Hw:Hid (W4.rangeAt w4.heap.size 1 (aA k.2 qk)):=fC Gx 1 rfl;have xE:=uS (O:=(· <W3.heap.size)) (w:=W4) (e:=k.2) (p:=qk) (hIk.carry fun b hb=>⟨hb,bM.block b (Nat.lt_of_lt_of_le hb dF.size)⟩) (fun b hb=>Nat.lt_of_lt_of_le hb vE.size) VM.out;have SH:=(show Hid _ from Hl.out k rfl);have SI:=(show Hid _ from HTB.out k rfl);clear HTN Hl HTB HSC hF hIk Gx VM;unfold Zi at xE;unfold eF at xE;have HEE:Hid ((dh (eG k.2.content)).2=0\/ (dh (eG k.2.content)).2=1):=vX _;generalize dh (eG k.2.content)=R at xE SH SI HEE;obtain⟨L,E⟩:=R;simp only at xE SH SI HEE;have HI4:=(show Hid _ from HI3.out.below vE)
    rcases HEE.out with rfl| rfl
    ·have zh5:Calls Tryz.prog 83 #[.agg (aA k.2 qk).toArray] W4 fun x w'=>(∃q2,x=.returned (.agg (aG L q2).toArray)/\qV (fun b=>W4.heap.size<=b/\b<w'.heap.size) w' L q2)/\Below W4.heap.size W4 w':=by
       refine xE.mono fun x w' hh=>⟨?_,hh.2⟩
       rcases hh.1 with⟨_,q2,hx,hi⟩| ⟨hx,_⟩
       ·exact⟨q2,hx,hi⟩
       ·exact absurd hx (by decide)
     have HTE:=(show Hid _ from SH.out rfl);clear xE SH SI HEE;go_wp2_with(first
      | (refine wpList_load_mid rfl 28 _ rfl w4.heap.size 1 rfl (aA k.2 qk) _ Hw.out Tryz.underlying28 rfl dX ?_)
      | (go_at_call 83;refine zh5.mono ?_;rintro x w5 ⟨⟨q2,rfl,hI2⟩,iJ⟩
         have HX5:=(show Hid _ from(HI4.out.below iJ).uw);have HTH:Hid (w5.there w2.heap.size 34 (aG L q2).toArray.size):=VZ HX5.out;obtain⟨W5,wh⟩:∃W5,W5=w5.setCells w2.heap.size 34 (aG L q2):=⟨_,rfl⟩;have HW5:=(show Hid _ from wh);have HM:=(show Hid _ from zfc (l:=L) (q:=q2) HX5.out);rw[<-wh]at HM;clear wh;have g43:W5.cell? ⟨w2.heap.size,43,none⟩=some (.bool false):=ai HM.out 43 _ rfl;have z43:=gB HM.out 43)
      | (refine ym rfl 47 _ _ rfl w2.heap.size 34 (aG L q2).toArray rfl rfl HTH.out iX (pz L q2) W5 HW5.out ?_))
     go_ret;have AJ:ay (aJ w2.heap.size) w5 W5:=by rw[HW5.out];exact si w2.heap.size (aG L q2) w5 34
     have rM:ay (aJ w2.heap.size) w5 (W5.setCell ⟨w2.heap.size,43,none⟩ (.bool true)):=ay.setCell (S:=aJ w2.heap.size) (p:=⟨w2.heap.size,43,none⟩) AJ (fun _=>(rfl:w2.heap.size=w2.heap.size)) _;have hh:(W5.setCell ⟨w2.heap.size,43,none⟩ (.bool true)).heap[w2.heap.size]?=some (.cells (oP ⟨e,l,c.1,c.2,L,true⟩ ⟨p,ps,cs,q,q2⟩).toArray 92 (0,0)):=by rw[heap_setCell_same _ w2.heap.size 43 _ _ _ HM.out];rfl
     have Uh:=XD.out w5 (ag vE iJ);have TZ:=HS4.out;have hs5:=vE.size;have gU:Below w.heap.size w (W5.setCell ⟨w2.heap.size,43,none⟩ (.bool true)):=Uh.trans (rM.below Uh.size fun k hk e=>by unfold aJ at e;omega);have hIE:=HE0.out _ gU;refine⟨?_,gU⟩;rw[HTE.out];exact⟨_,⟨p,ps,cs,q,q2⟩,rfl,⟨hh,hIE.1.carry fun k hk=>⟨Nat.lt_of_lt_of_le hk gU.size,rfl⟩,hIE.2.carry fun k hk=>⟨Nat.lt_of_lt_of_le hk gU.size,rfl⟩,hI2.carry fun b hb=>⟨Nat.lt_of_lt_of_le hb.2 rM.size,rM.block b hb.2 (by unfold aJ;have:=hb.1;omega)⟩⟩⟩
    ·have zh6:Calls Tryz.prog 83 #[.agg (aA k.2 qk).toArray] W4 fun x w'=>x=gF false/\Below W4.heap.size W4 w':=by
       refine xE.mono fun x w' hh=>⟨?_,hh.2⟩
       rcases hh.1 with⟨hx,_⟩| ⟨_,hx⟩
       ·exact absurd hx (by decide)
       ·exact hx
     have HTE:=(show Hid _ from SI.out rfl);clear xE SH SI HEE;go_wp2_with(first
      | (refine wpList_load_mid rfl 28 _ rfl w4.heap.size 1 rfl (aA k.2 qk) _ Hw.out Tryz.underlying28 rfl dX ?_)
      | (go_at_call 83;refine zh6.mono ?_;rintro x w5 ⟨rfl,iJ⟩))
     exact⟨rfl,by rw[HTE.out];rfl,XD.out _ (ag vE iJ)⟩
section
variable {w : World} {hb : Nat} {h : Hr} {p : Ph}
theorem PE(x:jw w hb h p)(hz:Qa h):Calls Tryz.prog 122 #[.pointer (some ⟨hb,0,none⟩)] w fun e w'=>e=.returned (.bool h.alone)/\Below w.heap.size w w':=by
 have HT:Hid (h.alone=(decide (h.e.prev.length=1)&&fT (h.e.prev.getD 0 aT) h.cn)):=rfl;have hp:=x.prev;have hn:=x.zer;have hr:=x.ev.prev;have fw:=hz.e.prev;clear x
 by_cases h1:h.e.prev.length=1
 ·obtain⟨a,ha,_,hc⟩:=hr.2 0 (by omega);have Oo:=hr.1;rw[h1]at hp Oo;rw[ha]at hp;have fD:Hid (h.alone=fT (h.e.prev.getD 0 aT) h.cn):=by show _=_;rw[HT.out,h1];rfl
  generalize h.e.prev.getD 0 aT=u at hc fD;have hc':w.cell? a=some (.string u):=by
   have e0:a.add 0=a:=by obtain⟨b,o,s⟩:=a;unfold Addr.add;split<;>simp_all
   rw[e0]at hc;exact hc
  clear hr HT h1 fw;go_enter Tryz.func122,Tryz.ntmps122;go_wp2;go_quiet (fail);go_wp2;go_ret;exact⟨by rw[fD.out];rfl,qj _ _⟩
 ·have fD:Hid (h.alone=false):=by show _=_;rw[HT.out];simp[h1]
  generalize h.e.prev.length=n at hp h1;have hd:((n:Int)==1)=false:=by simp;omega
  have JJ:decide (n=1)=false:=decide_eq_false h1;have hd3:(n==1)=false:=by simp[h1]
  clear hr HT fw;go_enter Tryz.func122,Tryz.ntmps122;go_wp2;go_quiet (fail);go_wp2;go_ret;exact⟨by rw[fD.out];rfl,qj _ _⟩
theorem PG(x:jw w hb h p)(hz:Qa h):Calls Tryz.prog 85 #[.pointer (some ⟨hb,0,none⟩)] w fun e w'=>e=gF h.kY/\Below w.heap.size w w':=by
 have HJ:Hid (h.kY=(h.own&&((h.alone&&fT h.ce.ah h.e.ah) || (!fT h.target yg&&((fT h.target jT || fT h.target lD) || fT (iH h.st dJ ⟨#[]⟩ jS) Dg))))):=rfl;have HX:Hid (∀X,Below w.heap.size w X->jw X hb h p):=fun X hX=>x.below hX;have Fb:=Dm x;have HAl:Hid (∀X,Below w.heap.size w X->Calls Tryz.prog 122 #[.pointer (some ⟨hb,0,none⟩)] X fun e w'=>e=.returned (.bool h.alone)/\Below X.heap.size X w'):=fun X hX=>PE (HX.out X hX) hz;have HTg:Hid (∀X,Below w.heap.size w X->Calls Tryz.prog 86 #[.pointer (some ⟨hb,0,none⟩)] X fun e w'=>e=.returned (.string h.target)/\Below X.heap.size X w'):=fun X hX=>sU (HX.out X hX) hz;have Gu:Hid (∀X,Below w.heap.size w X->Calls Tryz.prog 123 #[.slice p.ps h.st.length p.cs,.string dJ,.string ⟨#[]⟩,.string jS] X fun e w'=>e=.returned (.string (iH h.st dJ ⟨#[]⟩ jS))/\Below X.heap.size X w'):=fun X hX=>zQ (HX.out X hX).st (fun _ h=>h) hz.st dJ ⟨#[]⟩ jS;clear x;unfold fT at HJ;rw[uP,j6,kI,xK]at HJ;generalize iH h.st dJ ⟨#[]⟩ jS=SK at Gu HJ;generalize h.target=tg at HTg HJ;generalize h.own=bo at Fb HJ;generalize h.alone=ba at HAl HJ
 cases bo with
 | false=>
  have HT:Hid (h.kY=false):=by show _=_;rw[HJ.out];rfl
  clear HJ;go_enter Tryz.func85,Tryz.ntmps85;go_wp2_with(first
   | (go_at_call 59;refine Fb.mono ?_;rintro e w1 ⟨rfl,aL⟩)
   | (go_at_call 54;refine(bL _ _).mono ?_;rintro e wn ⟨he,rfl⟩;replace he:e=_:=he;subst he))
  exact⟨rfl,by rw[HT.out],aL⟩
 | true=>
  go_enter Tryz.func85,Tryz.ntmps85
  go_upto_region 1 with(first
   | (go_at_call 59;refine Fb.mono ?_;rintro e W ⟨rfl,aL⟩)
   | (go_at_call 54;refine(bL _ _).mono ?_;rintro e wn ⟨he,rfl⟩;replace he:e=_:=he;subst he))
  have qz:Hid (∀X,Below W.heap.size W X->jw X hb h p):=fun X hX=>HX.out X (ag aL hX);have zaF:Hid (∀X,Below W.heap.size W X->Calls Tryz.prog 122 #[.pointer (some ⟨hb,0,none⟩)] X fun e w'=>e=.returned (.bool ba)/\Below X.heap.size X w'):=fun X hX=>HAl.out X (ag aL hX);have zfd:Hid (∀X,Below W.heap.size W X->Calls Tryz.prog 86 #[.pointer (some ⟨hb,0,none⟩)] X fun e w'=>e=.returned (.string tg)/\Below X.heap.size X w'):=fun X hX=>HTg.out X (ag aL hX);have zfe:Hid (∀X,Below W.heap.size W X->Calls Tryz.prog 123 #[.slice p.ps h.st.length p.cs,.string dJ,.string ⟨#[]⟩,.string jS] X fun e w'=>e=.returned (.string SK)/\Below X.heap.size X w'):=fun X hX=>Gu.out X (ag aL hX);have bX:Hid (∀X,Below W.heap.size W X->Below w.heap.size w X):=fun X hX=>ag aL hX;clear HX HAl HTg Gu Fb aL;have HX:=qz;clear qz;refine aI (by kernel_rfl) (fun w'=>Below W.heap.size W w') ?_;change wpIn _ _ _ _ _ _ _ _ (World.drew _);have hD:Below W.heap.size W W.drew:=(Below.refl _ _).drew;generalize Io:(h.ce.ah.toList==h.e.ah.toList)=bc at HJ
  cases ba with
  | false=>
   refine aa (i:=0) (d:=some 7) rfl ?_;refine ax (i:=1) hD rfl ?_;intro K hK;go_simp;go_wp2_with(go_at_call 122;refine(zaF.out _ hD).mono ?_;rintro e w2 ⟨rfl,mf⟩);have iG:Below W.heap.size W w2:=ag hD mf;refine aa (i:=2) (d:=some 9) rfl ?_;refine ae (i:=3) (d:=(some 10)) (v:=undef) (a':= ?aqa3) rfl rfl (by kernel_rfl) (by kernel_rfl) (by kernel_rfl) (fun _ _ _ h=>h) (Or.inr ⟨by rfl,rfl⟩) ?fqa3 ?_
   case fqa3=>(go_frame;rfl)
   refine ae (i:=4) (d:=(some 11)) (v:=undef) (a':= ?aqa4) rfl rfl (by kernel_rfl) (by kernel_rfl) (by kernel_rfl) (fun _ _ _ h=>h) (Or.inr ⟨by rfl,rfl⟩) ?fqa4 ?_
   case fqa4=>(go_frame;rfl)
   refine ae (i:=5) (d:=(some 12)) (v:=undef) (a':= ?aqa5) rfl rfl (by kernel_rfl) (by kernel_rfl) (by kernel_rfl) (fun _ _ _ h=>h) (Or.inr ⟨by rfl,rfl⟩) ?fqa5 ?_
   case fqa5=>(go_frame;rfl)
   refine ae (i:=6) (d:=(some 13)) (v:=undef) (a':= ?aqa6) rfl rfl (by kernel_rfl) (by kernel_rfl) (by kernel_rfl) (fun _ _ _ h=>h) (Or.inr ⟨by rfl,rfl⟩) ?fqa6 ?_
   case fqa6=>(go_frame;rfl)
   refine ae (i:=7) (d:=(some 14)) (v:=undef) (a':= ?aqa7) rfl rfl (by kernel_rfl) (by kernel_rfl) (by kernel_rfl) (fun _ _ _ h=>h) (Or.inr ⟨by rfl,rfl⟩) ?fqa7 ?_
   case fqa7=>(go_frame;rfl)
   refine ae (i:=8) (d:=(some 15)) (v:=undef) (a':= ?aqa8) rfl rfl (by kernel_rfl) (by kernel_rfl) (by kernel_rfl) (fun _ _ _ h=>h) (Or.inr ⟨by rfl,rfl⟩) ?fqa8 ?_
   case fqa8=>(go_frame;rfl)
   refine ae (i:=9) (d:=(some 16)) (v:=undef) (a':= ?aqa9) rfl rfl (by kernel_rfl) (by kernel_rfl) (by kernel_rfl) (fun _ _ _ h=>h) (Or.inr ⟨by rfl,rfl⟩) ?fqa9 ?_
   case fqa9=>(go_frame;rfl)
   refine ae (i:=10) (d:=(some 17)) (v:=undef) (a':= ?aqa10) rfl rfl (by kernel_rfl) (by kernel_rfl) (by kernel_rfl) (fun _ _ _ h=>h) (Or.inr ⟨by rfl,rfl⟩) ?fqa10 ?_
   case fqa10=>(go_frame;rfl)
   refine ae (i:=11) (d:=(some 18)) (v:=undef) (a':= ?aqa11) rfl rfl (by kernel_rfl) (by kernel_rfl) (by kernel_rfl) (fun _ _ _ h=>h) (Or.inr ⟨by rfl,rfl⟩) ?fqa11 ?_
   case fqa11=>(go_frame;rfl)
   refine ae (i:=12) (d:=(some 19)) (v:=undef) (a':= ?aqa12) rfl rfl (by kernel_rfl) (by kernel_rfl) (by kernel_rfl) (fun _ _ _ h=>h) (Or.inr ⟨by rfl,rfl⟩) ?fqa12 ?_
   case fqa12=>(go_frame;rfl)
   refine ae (i:=13) (d:=(some 20)) (v:=undef) (a':= ?aqa13) rfl rfl (by kernel_rfl) (by kernel_rfl) (by kernel_rfl) (fun _ _ _ h=>h) (Or.inr ⟨by rfl,rfl⟩) ?fqa13 ?_
   case fqa13=>(go_frame;rfl)
   refine ae (i:=14) (d:=(some 21)) (v:=undef) (a':= ?aqa14) rfl rfl (by kernel_rfl) (by kernel_rfl) (by kernel_rfl) (fun _ _ _ h=>h) (Or.inr ⟨by rfl,rfl⟩) ?fqa14 ?_
   case fqa14=>(go_frame;rfl)
   refine aa (i:=15) (d:=some 22) rfl ?_;refine ax (i:=16) iG rfl ?_;intro K hK;go_simp;go_wp2_with(go_at_call 93;refine(gG _ _).mono ?_;rintro e w3 ⟨he,CY⟩;replace he:e=_:=he;subst he;have qf:Below w2.heap.size w2 w3:=CY ▸ Below.refl _ _);have Ar:Below W.heap.size W w3:=ag iG qf;refine aH Ar (by kernel_rfl) ?_ _
   go_upto_region 3 with(go_at_call 86;refine(zfd.out _ Ar).mono ?_;rintro e w4 ⟨rfl,dF⟩)
   have vE:=ag Ar dF
   cases h3:(tg.toList== [98,97,110])with
   | true=>
    have HT:Hid (h.kY=false):=by show _=_;rw[HJ.out,h3];rfl
    clear HJ;go_wp2_with(go_at_call 54;refine(bL _ _).mono ?_;rintro e wn ⟨he,rfl⟩;replace he:e=_:=he;subst he);exact⟨rfl,by rw[HT.out],bX.out _ vE⟩
   | false=>
    cases h4:(tg.toList== [106,111,105,110])with
    | true=>
     have HT:Hid (h.kY=true):=by show _=_;rw[HJ.out,h3,h4];rfl
     clear HJ;go_wp2_with(first| (go_at_call 54;refine(bL _ _).mono ?_;rintro e wn ⟨he,rfl⟩;replace he:e=_:=he;subst he)| (go_at_call 93;refine(gG _ _).mono ?_;rintro e wn ⟨he,rfl⟩;replace he:e=_:=he;subst he));exact⟨rfl,by rw[HT.out],bX.out _ vE⟩
    | false=>
     cases h5:(tg.toList== [105,110,118,105,116,101])with
     | true=>
      have HT:Hid (h.kY=true):=by show _=_;rw[HJ.out,h3,h4,h5];rfl
      clear HJ;go_wp2_with(first| (go_at_call 54;refine(bL _ _).mono ?_;rintro e wn ⟨he,rfl⟩;replace he:e=_:=he;subst he)| (go_at_call 93;refine(gG _ _).mono ?_;rintro e wn ⟨he,rfl⟩;replace he:e=_:=he;subst he));exact⟨rfl,by rw[HT.out],bX.out _ vE⟩
     | false=>
      have HT:Hid (h.kY=(SK.toList== [112,117,98,108,105,99])):=by show _=_;rw[HJ.out,h3,h4,h5];rfl
      clear HJ;have zs:=(HX.out w4 vE).state;have JL:=zfe.out w4 vE;go_wp2_with(first| (go_at_call 54;refine(bL _ _).mono ?_;rintro e wn ⟨he,rfl⟩;replace he:e=_:=he;subst he)| (go_at_call 93;refine(gG _ _).mono ?_;rintro e wn ⟨he,rfl⟩;replace he:e=_:=he;subst he)| (go_at_call 123;refine JL.mono ?_;rintro e w5 ⟨rfl,iJ⟩)| (go_at_call 50;refine(dR _ _).mono ?_;rintro e wn ⟨rfl,rfl⟩));exact⟨rfl,by rw[HT.out],bX.out _ (ag vE iJ)⟩
  | true=>
   cases bc with
   | false=>
    refine aa (i:=0) (d:=some 7) rfl ?_;refine ax (i:=1) hD rfl ?_;intro K hK;go_simp;go_wp2_with(go_at_call 122;refine(zaF.out _ hD).mono ?_;rintro e w2 ⟨rfl,mf⟩);have iG:Below W.heap.size W w2:=ag hD mf;refine aa (i:=2) (d:=some 9) rfl ?_;refine aa (i:=3) (d:=some 10) rfl ?_;refine aa (i:=4) (d:=some 11) rfl ?_;refine aa (i:=5) (d:=some 12) rfl ?_;refine aa (i:=6) (d:=some 13) rfl ?_;refine aa (i:=7) (d:=some 14) rfl ?_;refine aC (i:=8) (d:=some 15) rfl (by(intro wq hq;have zf:=(HX.out wq hq).Xp;go_simp;first| done| with_reducible rfl)) ?_;refine aa (i:=9) (d:=some 16) rfl ?_;refine aa (i:=10) (d:=some 17) rfl ?_;refine aa (i:=11) (d:=some 18) rfl ?_;refine aa (i:=12) (d:=some 19) rfl ?_;refine aC (i:=13) (d:=some 20) rfl (by(intro wq hq;have zf:=(HX.out wq hq).ah;go_simp;first| done| with_reducible rfl)) ?_;refine aa (i:=14) (d:=some 21) rfl ?_;refine aa (i:=15) (d:=some 22) rfl ?_;refine ax (i:=16) iG rfl ?_;intro K hK;go_simp;go_wp2_with(go_at_call 93;refine(gG _ _).mono ?_;rintro e w3 ⟨he,CY⟩;replace he:e=_:=he;subst he;have qf:Below w2.heap.size w2 w3:=CY ▸ Below.refl _ _);have Ar:Below W.heap.size W w3:=ag iG qf;refine aH Ar (by kernel_rfl) ?_ _
    go_upto_region 3 with(go_at_call 86;refine(zfd.out _ Ar).mono ?_;rintro e w4 ⟨rfl,dF⟩)
    have vE:=ag Ar dF
    cases h3:(tg.toList== [98,97,110])with
    | true=>
     have HT:Hid (h.kY=false):=by show _=_;rw[HJ.out,h3];rfl
     clear HJ;go_wp2_with(go_at_call 54;refine(bL _ _).mono ?_;rintro e wn ⟨he,rfl⟩;replace he:e=_:=he;subst he);exact⟨rfl,by rw[HT.out],bX.out _ vE⟩
    | false=>
     cases h4:(tg.toList== [106,111,105,110])with
     | true=>
      have HT:Hid (h.kY=true):=by show _=_;rw[HJ.out,h3,h4];rfl
      clear HJ;go_wp2_with(first| (go_at_call 54;refine(bL _ _).mono ?_;rintro e wn ⟨he,rfl⟩;replace he:e=_:=he;subst he)| (go_at_call 93;refine(gG _ _).mono ?_;rintro e wn ⟨he,rfl⟩;replace he:e=_:=he;subst he));exact⟨rfl,by rw[HT.out],bX.out _ vE⟩
     | false=>
      cases h5:(tg.toList== [105,110,118,105,116,101])with
      | true=>
       have HT:Hid (h.kY=true):=by show _=_;rw[HJ.out,h3,h4,h5];rfl
       clear HJ;go_wp2_with(first| (go_at_call 54;refine(bL _ _).mono ?_;rintro e wn ⟨he,rfl⟩;replace he:e=_:=he;subst he)| (go_at_call 93;refine(gG _ _).mono ?_;rintro e wn ⟨he,rfl⟩;replace he:e=_:=he;subst he));exact⟨rfl,by rw[HT.out],bX.out _ vE⟩
      | false=>
       have HT:Hid (h.kY=(SK.toList== [112,117,98,108,105,99])):=by show _=_;rw[HJ.out,h3,h4,h5];rfl
       clear HJ;have zs:=(HX.out w4 vE).state;have JL:=zfe.out w4 vE;go_wp2_with(first| (go_at_call 54;refine(bL _ _).mono ?_;rintro e wn ⟨he,rfl⟩;replace he:e=_:=he;subst he)| (go_at_call 93;refine(gG _ _).mono ?_;rintro e wn ⟨he,rfl⟩;replace he:e=_:=he;subst he)| (go_at_call 123;refine JL.mono ?_;rintro e w5 ⟨rfl,iJ⟩)| (go_at_call 50;refine(dR _ _).mono ?_;rintro e wn ⟨rfl,rfl⟩));exact⟨rfl,by rw[HT.out],bX.out _ (ag vE iJ)⟩
   | true=>
    have HT:Hid (h.kY=true):=by show _=_;rw[HJ.out];rfl
    clear HJ;refine aa (i:=0) (d:=some 7) rfl ?_;refine ax (i:=1) hD rfl ?_;intro K hK;go_simp;go_wp2_with(go_at_call 122;refine(zaF.out _ hD).mono ?_;rintro e w2 ⟨rfl,mf⟩);have iG:Below W.heap.size W w2:=ag hD mf;refine aa (i:=2) (d:=some 9) rfl ?_;refine aa (i:=3) (d:=some 10) rfl ?_;refine aa (i:=4) (d:=some 11) rfl ?_;refine aa (i:=5) (d:=some 12) rfl ?_;refine aa (i:=6) (d:=some 13) rfl ?_;refine aa (i:=7) (d:=some 14) rfl ?_;refine aC (i:=8) (d:=some 15) rfl (by(intro wq hq;have zf:=(HX.out wq hq).Xp;go_simp;first| done| with_reducible rfl)) ?_;refine aa (i:=9) (d:=some 16) rfl ?_;refine aa (i:=10) (d:=some 17) rfl ?_;refine aa (i:=11) (d:=some 18) rfl ?_;refine aa (i:=12) (d:=some 19) rfl ?_;refine aC (i:=13) (d:=some 20) rfl (by(intro wq hq;have zf:=(HX.out wq hq).ah;go_simp;first| done| with_reducible rfl)) ?_;refine aa (i:=14) (d:=some 21) rfl ?_;refine aa (i:=15) (d:=some 22) rfl ?_;refine ax (i:=16) iG rfl ?_;intro K hK;go_simp;go_wp2_with(go_at_call 93;refine(gG _ _).mono ?_;rintro e w3 ⟨he,CY⟩;replace he:e=_:=he;subst he;have qf:Below w2.heap.size w2 w3:=CY ▸ Below.refl _ _);exact⟨rfl,by rw[HT.out],bX.out _ (CY ▸ ag hD mf)⟩
end
section
variable {w : World} {hb : Nat} {h : Hr} {p : Ph}
theorem KF(x:jw w hb h p)(hz:Qa h):Calls Tryz.prog 87 #[.pointer (some ⟨hb,0,none⟩)] w fun e w'=>e=gF h.leaves/\Below w.heap.size w w':=by
 have HJ:Hid (h.leaves=if h.own then fT h.target jT || fT h.target lD else h.iN&&(!(fT h.target yg&&decide (h.s<h.l.nN))&&(decide (h.l.h_<=h.s)&&decide (h.t<h.s)))):=rfl;have Bu:Hid (∀X,Below w.heap.size w X->jw X hb h p):=fun X hX=>x.below hX;have hTg:=sU x hz;have HOw:Hid (∀X,Below w.heap.size w X->Calls Tryz.prog 59 #[.pointer (some ⟨hb,0,none⟩)] X fun e w'=>e=.returned (.bool h.own)/\Below X.heap.size X w'):=fun X hX=>Dm (Bu.out X hX);have SQ:Hid (∀X,Below w.heap.size w X->Calls Tryz.prog 55 #[.pointer (some ⟨hb,0,none⟩)] X fun e w'=>e=.returned (.bool h.iN)/\Below X.heap.size X w'):=fun X hX=>sS (Bu.out X hX) hz;have XG:Hid (∀X,Below w.heap.size w X->Calls Tryz.prog 56 #[.pointer (some ⟨hb,0,none⟩)] X fun e w'=>e=.returned (.int .i64 h.s)/\Below X.heap.size X w'):=fun X hX=>vY (Bu.out X hX) hz;have Qe:Hid (∀X,Below w.heap.size w X->Calls Tryz.prog 88 #[.pointer (some ⟨hb,0,none⟩)] X fun e w'=>e=.returned (.int .i64 h.t)/\Below X.heap.size X w'):=fun X hX=>Cj (Bu.out X hX) hz;clear x;unfold fT at HJ;rw[uP,j6,kI]at HJ;generalize h.target=tg at hTg HJ;generalize h.own=bo at HOw HJ;generalize h.iN=bj at SQ HJ;generalize h.s=S at XG HJ;generalize h.t=T at Qe HJ;go_enter Tryz.func87,Tryz.ntmps87
 go_upto_region 1 with(go_at_call 86;refine hTg.mono ?_;rintro e w1 ⟨rfl,aL⟩)
 have Fb:=HOw.out w1 aL
 cases bo with
 | true=>
  have HT:Hid (h.leaves=((tg.toList== [106,111,105,110]) || (tg.toList== [105,110,118,105,116,101]))):=by show _=_;rw[HJ.out,if_pos rfl]
  clear HJ
  cases h4:(tg.toList== [106,111,105,110])with
  | true=>
   go_wp2_with(first| (go_at_call 59;refine Fb.mono ?_;rintro e w2 ⟨rfl,aY⟩)| (go_at_call 50;refine(dR _ _).mono ?_;rintro e wn ⟨rfl,rfl⟩));exact⟨rfl,by rw[HT.out,h4];rfl,ag aL aY⟩
  | false=>
   go_wp2_with(first| (go_at_call 59;refine Fb.mono ?_;rintro e w2 ⟨rfl,aY⟩)| (go_at_call 50;refine(dR _ _).mono ?_;rintro e wn ⟨rfl,rfl⟩));exact⟨rfl,by rw[HT.out,h4];rfl,ag aL aY⟩
 | false=>
  have HT:Hid (h.leaves=(bj&&(!((tg.toList== [98,97,110])&&decide (S<h.l.nN))&&(decide (h.l.h_<=S)&&decide (T<S))))):=by show _=_;rw[HJ.out,if_neg (by decide)]
  clear HJ
  go_upto_region 3 with(go_at_call 59;refine Fb.mono ?_;rintro e w2 ⟨rfl,aY⟩)
  have ko:=ag aL aY;have V3:=SQ.out w2 ko
  cases bj with
  | false=>
   go_wp2_with(first| (go_at_call 55;refine V3.mono ?_;rintro e w3 ⟨rfl,df⟩)| (go_at_call 54;refine(bL _ _).mono ?_;rintro e wn ⟨he,rfl⟩;replace he:e=_:=he;subst he));exact⟨rfl,by rw[HT.out];rfl,ag ko df⟩
  | true=>
   go_upto_region 4 with(first| (go_at_call 55;refine V3.mono ?_;rintro e W ⟨rfl,df⟩)| (go_at_call 54;refine(bL _ _).mono ?_;rintro e wn ⟨he,rfl⟩;replace he:e=_:=he;subst he))
   have eU:=ag ko df;have HX:Hid (∀X,Below W.heap.size W X->jw X hb h p):=fun X hX=>Bu.out X (ag eU hX);have HS:Hid (∀X,Below W.heap.size W X->Calls Tryz.prog 56 #[.pointer (some ⟨hb,0,none⟩)] X fun e w'=>e=.returned (.int .i64 S)/\Below X.heap.size X w'):=fun X hX=>XG.out X (ag eU hX);have Cz:Hid (∀X,Below W.heap.size W X->Calls Tryz.prog 88 #[.pointer (some ⟨hb,0,none⟩)] X fun e w'=>e=.returned (.int .i64 T)/\Below X.heap.size X w'):=fun X hX=>Qe.out X (ag eU hX);have bX:Hid (∀X,Below W.heap.size W X->Below w.heap.size w X):=fun X hX=>ag eU hX;clear Bu HOw SQ XG Qe Fb V3 hTg aL aY ko df eU;refine aI (by kernel_rfl) (fun w'=>Below W.heap.size W w') ?_;change wpIn _ _ _ _ _ _ _ _ (World.drew _);have hD:Below W.heap.size W W.drew:=(Below.refl _ _).drew
   cases h3:(tg.toList== [98,97,110])with
   | false=>
    refine aa (i:=0) (d:=some 18) rfl ?_;refine aa (i:=1) (d:=some 19) rfl ?_;refine aa (i:=2) (d:=some 20) rfl ?_;refine ae (i:=3) (d:=(some 21)) (v:=undef) (a':= ?aqa3) rfl rfl (by kernel_rfl) (by kernel_rfl) (by kernel_rfl) (fun _ _ _ h=>h) (Or.inr ⟨by rfl,rfl⟩) ?fqa3 ?_
    case fqa3=>(go_frame;rfl)
    refine ae (i:=4) (d:=(some 22)) (v:=undef) (a':= ?aqa4) rfl rfl (by kernel_rfl) (by kernel_rfl) (by kernel_rfl) (fun _ _ _ h=>h) (Or.inr ⟨by rfl,rfl⟩) ?fqa4 ?_
    case fqa4=>(go_frame;rfl)
    refine ae (i:=5) (d:=(some 23)) (v:=undef) (a':= ?aqa5) rfl rfl (by kernel_rfl) (by kernel_rfl) (by kernel_rfl) (fun _ _ _ h=>h) (Or.inr ⟨by rfl,rfl⟩) ?fqa5 ?_
    case fqa5=>(go_frame;rfl)
    refine ae (i:=6) (d:=(some 24)) (v:=undef) (a':= ?aqa6) rfl rfl (by kernel_rfl) (by kernel_rfl) (by kernel_rfl) (fun _ _ _ h=>h) (Or.inr ⟨by rfl,rfl⟩) ?fqa6 ?_
    case fqa6=>(go_frame;rfl)
    refine ae (i:=7) (d:=(some 25)) (v:=undef) (a':= ?aqa7) rfl rfl (by kernel_rfl) (by kernel_rfl) (by kernel_rfl) (fun _ _ _ h=>h) (Or.inr ⟨by rfl,rfl⟩) ?fqa7 ?_
    case fqa7=>(go_frame;rfl)
    refine ae (i:=8) (d:=(some 26)) (v:=undef) (a':= ?aqa8) rfl rfl (by kernel_rfl) (by kernel_rfl) (by kernel_rfl) (fun _ _ _ h=>h) (Or.inr ⟨by rfl,rfl⟩) ?fqa8 ?_
    case fqa8=>(go_frame;rfl)
    refine ae (i:=9) (d:=(some 27)) (v:=undef) (a':= ?aqa9) rfl rfl (by kernel_rfl) (by kernel_rfl) (by kernel_rfl) (fun _ _ _ h=>h) (Or.inr ⟨by rfl,rfl⟩) ?fqa9 ?_
    case fqa9=>(go_frame;rfl)
    refine ae (i:=10) (d:=(some 28)) (v:=undef) (a':= ?aqa10) rfl rfl (by kernel_rfl) (by kernel_rfl) (by kernel_rfl) (fun _ _ _ h=>h) (Or.inr ⟨by rfl,rfl⟩) ?fqa10 ?_
    case fqa10=>(go_frame;rfl)
    refine aa (i:=11) (d:=some 29) rfl ?_;refine ax (i:=12) hD rfl ?_;intro K hK;go_simp;go_wp2_with(go_at_call 54;refine(bL _ _).mono ?_;rintro e w5 ⟨he,zn⟩;replace he:e=_:=he;subst he;have kF:Below W.drew.heap.size W.drew w5:=zn ▸ Below.refl _ _);have zfl:Below W.heap.size W w5:=ag hD kF;refine aH zfl (by kernel_rfl) ?_ _
    go_upto_region 5 with fail
    refine aI (by kernel_rfl) (fun w'=>Below W.heap.size W w') ?_;change wpIn _ _ _ _ _ _ _ _ (World.drew _)
    replace hD:=(zfl).drew
    cases h6:decide (h.l.h_<=S)with
    | false=>
     refine aa (i:=0) (d:=some 31) rfl ?_;refine aa (i:=2) (d:=some 33) rfl ?_;refine aa (i:=3) (d:=some 34) rfl ?_;refine aa (i:=4) (d:=some 35) rfl ?_;refine aa (i:=5) (d:=some 36) rfl ?_;refine aC (i:=6) (d:=some 37) rfl (by(intro wq hq;have zf:=(HX.out wq hq).h_;go_simp;first| done| with_reducible rfl)) ?_;refine ax (i:=1) hD rfl ?_;intro K hK;go_simp;go_wp2_with(go_at_call 56;refine(HS.out _ hD).mono ?_;rintro e w6 ⟨rfl,pO⟩);have iG:Below W.heap.size W w6:=ag hD pO;refine aa (i:=7) (d:=some 38) rfl ?_;refine aa (i:=8) (d:=some 39) rfl ?_;refine ae (i:=9) (d:=(some 40)) (v:=undef) (a':= ?aqff9) rfl rfl (by kernel_rfl) (by kernel_rfl) (by kernel_rfl) (fun _ _ _ h=>h) (Or.inr ⟨by rfl,rfl⟩) ?fqff9 ?_
     case fqff9=>(go_frame;rfl)
     refine ae (i:=10) (d:=(some 41)) (v:=undef) (a':= ?aqff10) rfl rfl (by kernel_rfl) (by kernel_rfl) (by kernel_rfl) (fun _ _ _ h=>h) (Or.inr ⟨by rfl,rfl⟩) ?fqff10 ?_
     case fqff10=>(go_frame;rfl)
     refine ae (i:=11) (d:=(some 42)) (v:=undef) (a':= ?aqff11) rfl rfl (by kernel_rfl) (by kernel_rfl) (by kernel_rfl) (fun _ _ _ h=>h) (Or.inr ⟨by rfl,rfl⟩) ?fqff11 ?_
     case fqff11=>(go_frame;rfl)
     refine ae (i:=12) (d:=(some 43)) (v:=undef) (a':= ?aqff12) rfl rfl (by kernel_rfl) (by kernel_rfl) (by kernel_rfl) (fun _ _ _ h=>h) (Or.inr ⟨by rfl,rfl⟩) ?fqff12 ?_
     case fqff12=>(go_frame;rfl)
     refine ae (i:=13) (d:=(some 44)) (v:=undef) (a':= ?aqff13) rfl rfl (by kernel_rfl) (by kernel_rfl) (by kernel_rfl) (fun _ _ _ h=>h) (Or.inr ⟨by rfl,rfl⟩) ?fqff13 ?_
     case fqff13=>(go_frame;rfl)
     refine aa (i:=14) (d:=some 45) rfl ?_;refine ax (i:=15) iG rfl ?_;intro K hK;go_simp;go_wp2_with(go_at_call 50;refine(dR _ _).mono ?_;rintro e w9 ⟨rfl,xJ⟩);exact⟨rfl,by rw[HT.out,h3];simp[h6],bX.out _ (xJ ▸ iG)⟩
    | true=>
     refine aa (i:=0) (d:=some 31) rfl ?_;refine aa (i:=2) (d:=some 33) rfl ?_;refine aa (i:=3) (d:=some 34) rfl ?_;refine aa (i:=4) (d:=some 35) rfl ?_;refine aa (i:=5) (d:=some 36) rfl ?_;refine aC (i:=6) (d:=some 37) rfl (by(intro wq hq;have zf:=(HX.out wq hq).h_;go_simp;first| done| with_reducible rfl)) ?_;refine ax (i:=1) hD rfl ?_;intro K hK;go_simp;go_wp2_with(go_at_call 56;refine(HS.out _ hD).mono ?_;rintro e w6 ⟨rfl,pO⟩);have iG:Below W.heap.size W w6:=ag hD pO;refine aa (i:=7) (d:=some 38) rfl ?_;refine aa (i:=8) (d:=some 39) rfl ?_;refine aa (i:=9) (d:=some 40) rfl ?_;refine aa (i:=11) (d:=some 42) rfl ?_;refine ax (i:=10) iG rfl ?_;intro K hK;go_simp;go_wp2_with(go_at_call 56;refine(HS.out _ iG).mono ?_;rintro e w7 ⟨rfl,KG⟩);have nZ:Below W.heap.size W w7:=ag iG KG;refine ax (i:=12) nZ rfl ?_;intro K hK;go_simp;go_wp2_with(go_at_call 88;refine(Cz.out _ nZ).mono ?_;rintro e w8 ⟨rfl,n_⟩);have mO:Below W.heap.size W w8:=ag nZ n_;refine aa (i:=13) (d:=some 44) rfl ?_;refine aa (i:=14) (d:=some 45) rfl ?_;refine ax (i:=15) mO rfl ?_;intro K hK;go_simp;go_wp2_with(go_at_call 50;refine(dR _ _).mono ?_;rintro e w9 ⟨rfl,xJ⟩);exact⟨rfl,by rw[HT.out,h3];simp[h6],bX.out _ (xJ ▸ mO)⟩
   | true=>
    cases h5:decide (S<h.l.nN)with
    | false=>
     refine aa (i:=0) (d:=some 18) rfl ?_;refine aa (i:=1) (d:=some 19) rfl ?_;refine aa (i:=2) (d:=some 20) rfl ?_;refine aa (i:=3) (d:=some 21) rfl ?_;refine aa (i:=5) (d:=some 23) rfl ?_;refine aa (i:=6) (d:=some 24) rfl ?_;refine aa (i:=7) (d:=some 25) rfl ?_;refine aa (i:=8) (d:=some 26) rfl ?_;refine aC (i:=9) (d:=some 27) rfl (by(intro wq hq;have zf:=(HX.out wq hq).nN;go_simp;first| done| with_reducible rfl)) ?_;refine ax (i:=4) hD rfl ?_;intro K hK;go_simp;go_wp2_with(go_at_call 56;refine(HS.out _ hD).mono ?_;rintro e w4 ⟨rfl,gI⟩);have RF:Below W.heap.size W w4:=ag hD gI;refine aa (i:=10) (d:=some 28) rfl ?_;refine aa (i:=11) (d:=some 29) rfl ?_;refine ax (i:=12) RF rfl ?_;intro K hK;go_simp;go_wp2_with(go_at_call 54;refine(bL _ _).mono ?_;rintro e w5 ⟨he,zn⟩;replace he:e=_:=he;subst he;have kF:Below w4.heap.size w4 w5:=zn ▸ Below.refl _ _);have XH:Below W.heap.size W w5:=ag RF kF;refine aH XH (by kernel_rfl) ?_ _
     go_upto_region 5 with fail
     refine aI (by kernel_rfl) (fun w'=>Below W.heap.size W w') ?_;change wpIn _ _ _ _ _ _ _ _ (World.drew _)
     replace hD:=(XH).drew
     cases h6:decide (h.l.h_<=S)with
     | false=>
      refine aa (i:=0) (d:=some 31) rfl ?_;refine aa (i:=2) (d:=some 33) rfl ?_;refine aa (i:=3) (d:=some 34) rfl ?_;refine aa (i:=4) (d:=some 35) rfl ?_;refine aa (i:=5) (d:=some 36) rfl ?_;refine aC (i:=6) (d:=some 37) rfl (by(intro wq hq;have zf:=(HX.out wq hq).h_;go_simp;first| done| with_reducible rfl)) ?_;refine ax (i:=1) hD rfl ?_;intro K hK;go_simp;go_wp2_with(go_at_call 56;refine(HS.out _ hD).mono ?_;rintro e w6 ⟨rfl,pO⟩);have iG:Below W.heap.size W w6:=ag hD pO;refine aa (i:=7) (d:=some 38) rfl ?_;refine aa (i:=8) (d:=some 39) rfl ?_;refine ae (i:=9) (d:=(some 40)) (v:=undef) (a':= ?aqgf9) rfl rfl (by kernel_rfl) (by kernel_rfl) (by kernel_rfl) (fun _ _ _ h=>h) (Or.inr ⟨by rfl,rfl⟩) ?fqgf9 ?_
      case fqgf9=>(go_frame;rfl)
      refine ae (i:=10) (d:=(some 41)) (v:=undef) (a':= ?aqgf10) rfl rfl (by kernel_rfl) (by kernel_rfl) (by kernel_rfl) (fun _ _ _ h=>h) (Or.inr ⟨by rfl,rfl⟩) ?fqgf10 ?_
      case fqgf10=>(go_frame;rfl)
      refine ae (i:=11) (d:=(some 42)) (v:=undef) (a':= ?aqgf11) rfl rfl (by kernel_rfl) (by kernel_rfl) (by kernel_rfl) (fun _ _ _ h=>h) (Or.inr ⟨by rfl,rfl⟩) ?fqgf11 ?_
      case fqgf11=>(go_frame;rfl)
      refine ae (i:=12) (d:=(some 43)) (v:=undef) (a':= ?aqgf12) rfl rfl (by kernel_rfl) (by kernel_rfl) (by kernel_rfl) (fun _ _ _ h=>h) (Or.inr ⟨by rfl,rfl⟩) ?fqgf12 ?_
      case fqgf12=>(go_frame;rfl)
      refine ae (i:=13) (d:=(some 44)) (v:=undef) (a':= ?aqgf13) rfl rfl (by kernel_rfl) (by kernel_rfl) (by kernel_rfl) (fun _ _ _ h=>h) (Or.inr ⟨by rfl,rfl⟩) ?fqgf13 ?_
      case fqgf13=>(go_frame;rfl)
      refine aa (i:=14) (d:=some 45) rfl ?_;refine ax (i:=15) iG rfl ?_;intro K hK;go_simp;go_wp2_with(go_at_call 50;refine(dR _ _).mono ?_;rintro e w9 ⟨rfl,xJ⟩);exact⟨rfl,by rw[HT.out,h3,h5];simp[h6],bX.out _ (xJ ▸ iG)⟩
     | true=>
      refine aa (i:=0) (d:=some 31) rfl ?_;refine aa (i:=2) (d:=some 33) rfl ?_;refine aa (i:=3) (d:=some 34) rfl ?_;refine aa (i:=4) (d:=some 35) rfl ?_;refine aa (i:=5) (d:=some 36) rfl ?_;refine aC (i:=6) (d:=some 37) rfl (by(intro wq hq;have zf:=(HX.out wq hq).h_;go_simp;first| done| with_reducible rfl)) ?_;refine ax (i:=1) hD rfl ?_;intro K hK;go_simp;go_wp2_with(go_at_call 56;refine(HS.out _ hD).mono ?_;rintro e w6 ⟨rfl,pO⟩);have iG:Below W.heap.size W w6:=ag hD pO;refine aa (i:=7) (d:=some 38) rfl ?_;refine aa (i:=8) (d:=some 39) rfl ?_;refine aa (i:=9) (d:=some 40) rfl ?_;refine aa (i:=11) (d:=some 42) rfl ?_;refine ax (i:=10) iG rfl ?_;intro K hK;go_simp;go_wp2_with(go_at_call 56;refine(HS.out _ iG).mono ?_;rintro e w7 ⟨rfl,KG⟩);have nZ:Below W.heap.size W w7:=ag iG KG;refine ax (i:=12) nZ rfl ?_;intro K hK;go_simp;go_wp2_with(go_at_call 88;refine(Cz.out _ nZ).mono ?_;rintro e w8 ⟨rfl,n_⟩);have mO:Below W.heap.size W w8:=ag nZ n_;refine aa (i:=13) (d:=some 44) rfl ?_;refine aa (i:=14) (d:=some 45) rfl ?_;refine ax (i:=15) mO rfl ?_;intro K hK;go_simp;go_wp2_with(go_at_call 50;refine(dR _ _).mono ?_;rintro e w9 ⟨rfl,xJ⟩);exact⟨rfl,by rw[HT.out,h3,h5];simp[h6],bX.out _ (xJ ▸ mO)⟩
    | true=>
     refine aa (i:=0) (d:=some 18) rfl ?_;refine aa (i:=1) (d:=some 19) rfl ?_;refine aa (i:=2) (d:=some 20) rfl ?_;refine aa (i:=3) (d:=some 21) rfl ?_;refine aa (i:=5) (d:=some 23) rfl ?_;refine aa (i:=6) (d:=some 24) rfl ?_;refine aa (i:=7) (d:=some 25) rfl ?_;refine aa (i:=8) (d:=some 26) rfl ?_;refine aC (i:=9) (d:=some 27) rfl (by(intro wq hq;have zf:=(HX.out wq hq).nN;go_simp;first| done| with_reducible rfl)) ?_;refine ax (i:=4) hD rfl ?_;intro K hK;go_simp;go_wp2_with(go_at_call 56;refine(HS.out _ hD).mono ?_;rintro e w4 ⟨rfl,gI⟩);have RF:Below W.heap.size W w4:=ag hD gI;refine aa (i:=10) (d:=some 28) rfl ?_;refine aa (i:=11) (d:=some 29) rfl ?_;refine ax (i:=12) RF rfl ?_;intro K hK;go_simp;go_wp2_with(go_at_call 54;refine(bL _ _).mono ?_;rintro e w5 ⟨he,zn⟩;replace he:e=_:=he;subst he;have kF:Below w4.heap.size w4 w5:=zn ▸ Below.refl _ _);exact⟨rfl,by rw[HT.out,h3,h5];rfl,bX.out _ (zn ▸ ag hD gI)⟩
end
end Go.Proofs.YtldegjjaknelgaaGreatDoor

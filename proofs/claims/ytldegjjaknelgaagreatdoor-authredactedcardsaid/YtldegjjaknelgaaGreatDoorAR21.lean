/- A part. -/
import Derived.Test.YtldegjjaknelgaaGreatDoorAR20
import Derived.Laws.AppendOwn
import Derived.Laws.Append
import Derived.OwnWalk
set_option maxRecDepth 100000
set_option maxHeartbeats 64000000
namespace Go.Proofs.YtldegjjaknelgaaGreatDoor
open Go.RowKit
abbrev Ru:=ByteArray×ByteArray
def j5(l:List Ru):List Value:=l.flatMap fun x=> [.string x.1,.string x.2,.string ⟨#[]⟩]
theorem Ct(l m:List Ru):j5 (l++m)=j5 l++j5 m:=by simp[j5]
theorem Bh:∀(l:List Ru) (j:Nat),j<l.length->(j5 l)[j*3]?=some (.string (l.getD j (aN,aN)).1)/\(j5 l)[j*3+1]?=some (.string (l.getD j (aN,aN)).2)/\(j5 l)[j*3+2]?=some (.string ⟨#[]⟩)
 | [],j,h=>absurd h (by simp)
 | a::r,0,_=>⟨rfl,rfl,rfl⟩
 | a::r,j+1,h=>by
  have:=Bh r j (by simpa using h);rw[show(j+1)*3=j*3+1+1+1 by omega];exact this
def TA(O:Nat->Prop)(w:World)(p:Option Addr)(c:Nat)(l:List Ru):Prop:=
 l.length<=c/\∀j,j<l.length->∃b o,p=some ⟨b,o,none⟩/\O b/\w.cell? ⟨b,o+j*3,none⟩=some (.string (l.getD j (aN,aN)).1)/\w.cell? ⟨b,o+j*3+1,none⟩=some (.string (l.getD j (aN,aN)).2)/\w.cell? ⟨b,o+j*3+2,none⟩=some (.string ⟨#[]⟩)
theorem TA.nil(O:Nat->Prop)(w:World)(c:Nat)(p:Option Addr):TA O w p c []:=⟨Nat.zero_le _,fun j hj=>absurd hj (by simp)⟩
theorem TA.carry{O O':Nat->Prop}{w w':World}{p:Option Addr}{c:Nat}{l:List Ru}(h:TA O w p c l)(hO:∀k,O k->O' k/\w'.heap[k]?=w.heap[k]?):TA O' w' p c l:=
 ⟨h.1,fun j hj=>by
  obtain⟨b,o,hp,hB,h1,h2,h3⟩:=h.2 j hj;exact⟨b,o,hp,(hO _ hB).1,(World.cell?_of_block (a:=⟨b,o+j*3,none⟩) (hO _ hB).2).trans h1,(World.cell?_of_block (a:=⟨b,o+j*3+1,none⟩) (hO _ hB).2).trans h2,(World.cell?_of_block (a:=⟨b,o+j*3+2,none⟩) (hO _ hB).2).trans h3⟩⟩
def qM(e:Ev):List Ru:=if eX e.aK bC then []else
 [(bC,⟨#[]⟩),(bK,⟨#[]⟩),(aU,e.ag)]++
  (if e.st&&eX e.aK aU then(if eX e.key e.ag then []else [(aU,e.key)])++(if eX (eB e.content dt) jf || eX (eB e.content dt) kz then [(fK,⟨#[]⟩)]else [])else [])
theorem Jy{w:World}{dM:Nat}{v:Value}{l:List Ru}(h:w.ownsRow dM 39 3 v l.length (j5 l)):∃q c,v=.slice q l.length c/\TA (fun b=>dM<=b/\b<w.heap.size) w q c l:=by
 obtain⟨_,⟨rfl,h0⟩| ⟨g,cap,cur,rfl,hb,hg,hn,_,hc,ht⟩⟩:=h
 ·obtain rfl:l= []:=List.eq_nil_of_length_eq_zero h0;exact⟨none,0,rfl,TA.nil _ _ _ _⟩
 ·refine⟨_,_,rfl,hn,fun j hj=> ?_⟩;obtain⟨g1,g2,g3⟩:=Bh l j hj;rw[<-ht,List.getElem?_take,if_pos (by omega)]at g1 g2 g3;refine⟨g,0,rfl,⟨hb,aO hg⟩, ?_, ?_, ?_⟩
  ·rw[Nat.zero_add];exact ay hg (j*3) _ (by simpa using g1)
  ·rw[Nat.zero_add];exact ay hg (j*3+1) _ (by simpa using g2)
  ·rw[Nat.zero_add];exact ay hg (j*3+2) _ (by simpa using g3)
theorem TB:(Tryz.prog.info? 39).map (fun i=>(i.size,i.bytes,i.zero))=some (3,48,some (.agg #[.string ⟨#[]⟩,.string ⟨#[]⟩,.string ⟨#[]⟩])):=by kernel_rfl
theorem fo{w:World}{bT:Array Oper}{rest:List Oper}{o:Oper}{a:Act}{Q:Exit->Act->World->Prop}(rU:o.guard=none)(s x:Operand)
    (ho:o.op=.call {callee:=.builtin .append,args:=#[s,x],argTypes:=#[36,36]})
    (dM:Nat) (v:Value) (L:List Ru) (hs:a.eval s=v) (aL:w.ownsRow dM 39 3 v L.length (j5 L)) (g c:Nat) (y:Ru) (hx:a.eval x=.slice (some ⟨g,0,none⟩) 1 c) (hg:w.heap[g]?=some (.cells #[.string y.1,.string y.2,.string ⟨#[]⟩] 39 (0,0)))
    (dP:L.length<=100000) (jW:dM<=w.heap.size)
    (h:∀v' w',w'.ownsRow dM 39 3 v' (L++ [y]).length (j5 (L++ [y]))->w.grownBy w' v.ownBlock->wpList Tryz.prog bT Q rest (a.put o.dst v') w'):wpList Tryz.prog bT Q (o::rest) a w:=by
 obtain⟨i,hi,hi2⟩:=Option.map_eq_some_iff.1 TB;simp only[Prod.mk.injEq]at hi2;obtain⟨oN,oI,rV⟩:=hi2;refine wpList_append_own w rU s x 36 ho dM 39 i _ 3 48 Tryz.underlying36 hi rV oN oI rfl (by decide) v L.length (j5 L) hs aL ⟨g,0,none⟩ 1 c [.string y.1,.string y.2,.string ⟨#[]⟩] hx rfl (fun j u hu=> ?_) (fun u hu=> ?_) (by unfold maxLen;omega) (by omega) jW ?_
 ·have ea:(⟨g,0,none⟩:Addr).add j=⟨g,j,none⟩:=by unfold Addr.add;split<;>simp_all
  rw[ea];exact ay hg j u (by simpa using hu)
 ·simp only[List.mem_cons,List.not_mem_nil,or_false]at hu
  rcases hu with rfl| rfl| rfl<;>rfl
 ·intro v' w' sF lu _;exact h v' w' (by rw[List.length_append,Ct];exact sF) lu
theorem iH{w w':World}{row:Option Nat}{B:Nat}(h:w.grownBy w' row)(hB:B<=w.heap.size)(hr:∀k,row=some k->B<=k):Below B w w':=
 ⟨h.os,h.tape,h.output,h.size,fun k hk=>h.block k (Nat.lt_of_lt_of_le hk hB) fun e=>by have:=hr k e.symm;omega⟩
theorem Jz{O:Nat->Prop}{w:World}{e:Ev}{p:Pt}(h:iL O w e p)(hO:∀b,O b->b<w.heap.size)(hz:xe e):
    Calls Tryz.prog 14 #[dZ e p] w fun x w'=>(∃q c,x=.returned (.slice q (qM e).length c)/\TA (fun b=>w.heap.size<=b/\b<w'.heap.size) w' q c (qM e))/\Below w.heap.size w w':=by
 obtain⟨W0,fw⟩:∃W0,W0=w.alloc (.cells (aB e p).toArray 28):=⟨_,rfl⟩;have dS:Below w.heap.size w W0:=by rw[fw];exact(Below.refl _ _).alloc (Nat.le_refl _) _
 have r9:W0.heap[w.heap.size]?=some (.cells (aB e p).toArray 28 (0,0)):=by rw[fw];exact bR _
 have U8:Hid (W0.heap.size=w.heap.size+1):=by show _=_;rw[fw];simp
 have hV:=kC h hO dS r9;have HV:Hid (∀X,Below W0.heap.size W0 X->kZ X w.heap.size e p):=fun X hX=>hV.below hX;have Rv:Hid (∀X,Below W0.heap.size W0 X->Calls Tryz.prog 31 #[.agg #[.int .i64 e.content.kind,.int .i64 e.content.int,.string e.content.text,.slice p.pk e.content.keys.length p.ck,.slice p.pl e.content.list.length p.cl],.string dt] X fun x w'=>x=.returned (.string (eB e.content dt))/\Below X.heap.size X w'):=fun X hX=>p9 (O:=(· <X.heap.size)) (j:=e.content) (HV.out X hX).ev.cont (fun _ h=>h) (o5 hz.cont) dt;have HW:Hid (qM e=if eX e.aK bC then []else [(bC,⟨#[]⟩),(bK,⟨#[]⟩),(aU,e.ag)]++(if e.st&&eX e.aK aU then(if eX e.key e.ag then []else [(aU,e.key)])++(if eX (eB e.content dt) jf || eX (eB e.content dt) kz then [(fK,⟨#[]⟩)]else [])else [])):=rfl;have yV:Hid (∀(l:List Ru) v W,qM e=l->W.ownsRow W0.heap.size 39 3 v l.length (j5 l)->Below W0.heap.size W0 W->(∃q c,Ending.returned v=.returned (.slice q (qM e).length c)/\TA (fun b=>w.heap.size<=b/\b<W.heap.size) W q c (qM e))/\Below w.heap.size w W):=fun l v W hl ho hb=>by
  obtain⟨q,c,rfl,hr⟩:=Jy ho;rw[hl];exact⟨⟨q,c,rfl,hr.carry fun k hk=>⟨⟨Nat.le_trans dS.size hk.1,hk.2⟩,rfl⟩⟩,ah dS hb⟩
 have et:=hV.aK;clear h hV r9 hz;unfold dZ;unfold eX at HW;rw[iG,iF,ni,lK]at HW
 cases hc:(e.aK.toList== [109,46,114,111,111,109,46,99,114,101,97,116,101])with
 | true=>
  have HT:Hid (qM e= []):=by show _=_;rw[HW.out,if_pos hc]
  go_enter Tryz.func14,Tryz.ntmps14
  go_upto_region 1 with fail
  rw[<-fw];clear fw;go_wp2;go_ret;exact yV.out [] _ _ HT.out (World.ownsRow_nil _ _ _ _) (Below.refl _ _)
 | false=>
  have HT:Hid (qM e= [(bC,⟨#[]⟩),(bK,⟨#[]⟩),(aU,e.ag)]++(if e.st&&(e.aK.toList== [109,46,114,111,111,109,46,109,101,109,98,101,114])then(if e.key.toList==e.ag.toList then []else [(aU,e.key)])++(if(eB e.content dt).toList== [106,111,105,110] || (eB e.content dt).toList== [105,110,118,105,116,101]then [(fK,⟨#[]⟩)]else [])else [])):=by show _=_;rw[HW.out,if_neg (by rw[hc];decide)]
  clear HW;have es:=(HV.out W0 (Below.refl _ _)).ag;go_enter Tryz.func14,Tryz.ntmps14
  go_upto_region 1 with fail
  rw[<-fw];clear fw
  go_upto_region 4 with fail
  obtain⟨W1,zB⟩:∃W1,W1=W0.alloc (.cells #[.string bC,.string ⟨#[]⟩,.string ⟨#[]⟩,.string bK,.string ⟨#[]⟩,.string ⟨#[]⟩,.string aU,.string e.ag,.string ⟨#[]⟩] 39):=⟨_,rfl⟩;have aP:Below W0.heap.size W0 W1:=by rw[zB];exact(Below.refl _ _).alloc (Nat.le_refl _) _
  have hX1:W1.heap[W0.heap.size]?=some (.cells #[.string bC,.string ⟨#[]⟩,.string ⟨#[]⟩,.string bK,.string ⟨#[]⟩,.string ⟨#[]⟩,.string aU,.string e.ag,.string ⟨#[]⟩] 39 (0,0)):=by rw[zB];exact bR _
  have HO1:Hid (W1.ownsRow W0.heap.size 39 3 (.slice (some ⟨W0.heap.size,0,none⟩) 3 3) 3 (j5 [(bC,⟨#[]⟩),(bK,⟨#[]⟩),(aU,e.ag)])):=⟨rfl,.inr ⟨W0.heap.size,3,_,rfl,Nat.le_refl _,hX1,Nat.le_refl _,by decide,rfl,rfl⟩⟩;change Code.wp _ _ _ _ (W0.alloc (.cells #[.string bC,.string ⟨#[]⟩,.string ⟨#[]⟩,.string bK,.string ⟨#[]⟩,.string ⟨#[]⟩,.string aU,.string e.ag,.string ⟨#[]⟩] 39));rw[<-zB];clear zB hX1 et es;have hV1:=HV.out W1 aP;have et:=hV1.aK;have est:=hV1.tu;have ek:=hV1.key;have es:=hV1.ag;have Q9:=(show Hid _ from hV1.vv);clear hV1;generalize ny:e.st=st at est HT
  cases st with
  | false=>
   go_wp2;go_ret;exact yV.out _ _ _ HT.out HO1.out aP
  | true=>
   cases hm:(e.aK.toList== [109,46,114,111,111,109,46,109,101,109,98,101,114])with
   | false=>
    go_wp2;go_ret;refine yV.out _ _ _ ?_ HO1.out aP;rw[HT.out,hm]
    rfl
   | true=>
    have tO:Hid (qM e= [(bC,⟨#[]⟩),(bK,⟨#[]⟩),(aU,e.ag)]++((if e.key.toList==e.ag.toList then []else [(aU,e.key)])++(if(eB e.content dt).toList== [106,111,105,110] || (eB e.content dt).toList== [105,110,118,105,116,101]then [(fK,⟨#[]⟩)]else []))):=by show _=_;rw[HT.out,hm];rfl
    clear HT;generalize eB e.content dt=m at Rv tO
    cases hk:(e.key.toList==e.ag.toList)with
    | true=>
     have NY:=Rv.out W1 aP;rw[hk]at tO
     go_upto_region 9 with(first
      | (refine wpList_load_mid rfl 25 _ rfl w.heap.size 5 rfl _ _ Q9.out Tryz.underlying25 rfl (by kernel_rfl) ?_)
      | (go_at_call 31;refine NY.mono ?_;rintro x W2 ⟨rfl,aT⟩))
     have jm:Below W0.heap.size W0 W2:=ah aP aT;have Yg:Hid (W2.ownsRow W0.heap.size 39 3 (.slice (some ⟨W0.heap.size,0,none⟩) 3 3) [(bC,⟨#[]⟩),(bK,⟨#[]⟩),(aU,e.ag)].length (j5 [(bC,⟨#[]⟩),(bK,⟨#[]⟩),(aU,e.ag)])):=by
      obtain⟨h1,⟨h2,_⟩| ⟨g,cap,cur,h2,h3,h4,h5⟩⟩:=HO1.out
      ·cases h2
      ·exact⟨h1,.inr ⟨g,cap,cur,h2,h3,(aT.block g (aO h4)).trans h4,h5⟩⟩
     cases hj:(m.toList== [106,111,105,110])with
     | true=>
      go_wp2_with(refine fo rfl _ _ rfl W0.heap.size (.slice (some ⟨W0.heap.size,0,none⟩) 3 3) [(bC,⟨#[]⟩),(bK,⟨#[]⟩),(aU,e.ag)] rfl ((Yg.out).alloc _) W2.heap.size 1 (fK,⟨#[]⟩) rfl (bR _) (by simp) (by simp;exact Nat.le_trans jm.size (Nat.le_succ _)) fun v9 W9 Rw N7=> ?_);go_ret;exact yV.out _ _ _ (by rw[tO.out,hj];rfl) Rw (jm.trans (((Below.refl W0.heap.size W2).alloc jm.size _).trans (iH N7 (by simp;exact Nat.le_trans jm.size (Nat.le_succ _)) fun k hk=>(Yg.out.lt k hk).1)))
     | false=>
      cases hi:(m.toList== [105,110,118,105,116,101])with
      | true=>
       go_wp2_with(refine fo rfl _ _ rfl W0.heap.size (.slice (some ⟨W0.heap.size,0,none⟩) 3 3) [(bC,⟨#[]⟩),(bK,⟨#[]⟩),(aU,e.ag)] rfl ((Yg.out).alloc _) W2.heap.size 1 (fK,⟨#[]⟩) rfl (bR _) (by simp) (by simp;exact Nat.le_trans jm.size (Nat.le_succ _)) fun v9 W9 Rw N7=> ?_);go_ret;exact yV.out _ _ _ (by rw[tO.out,hj,hi];rfl) Rw (jm.trans (((Below.refl W0.heap.size W2).alloc jm.size _).trans (iH N7 (by simp;exact Nat.le_trans jm.size (Nat.le_succ _)) fun k hk=>(Yg.out.lt k hk).1)))
      | false=>
       go_wp2;go_ret;exact yV.out _ _ _ (by rw[tO.out,hj,hi];rfl) Yg.out jm
    | false=>
     rw[hk]at tO
     go_upto_region 8 with(refine fo rfl _ _ rfl W0.heap.size (.slice (some ⟨W0.heap.size,0,none⟩) 3 3) [(bC,⟨#[]⟩),(bK,⟨#[]⟩),(aU,e.ag)] rfl ((HO1.out).alloc _) W1.heap.size 1 (aU,e.key) rfl (bR _) (by simp) (by simp;exact Nat.le_trans aP.size (Nat.le_succ _)) fun v1 W2 Ia qg=> ?_)
     have jm:Below W0.heap.size W0 W2:=aP.trans (((Below.refl W0.heap.size W1).alloc aP.size _).trans (iH qg (by simp;exact Nat.le_trans aP.size (Nat.le_succ _)) fun k hk=>(HO1.out.lt k hk).1));have Yg:Hid (W2.ownsRow W0.heap.size 39 3 v1 ([(bC,⟨#[]⟩),(bK,⟨#[]⟩),(aU,e.ag)]++ [(aU,e.key)]).length (j5 ([(bC,⟨#[]⟩),(bK,⟨#[]⟩),(aU,e.ag)]++ [(aU,e.key)]))):=Ia;have NY:=Rv.out W2 jm;have TC:=(show Hid _ from(HV.out W2 jm).vv);clear Ia qg Q9 HO1 aP et est ek es
     go_upto_region 9 with(first
      | (refine wpList_load_mid rfl 25 _ rfl w.heap.size 5 rfl _ _ TC.out Tryz.underlying25 rfl (by kernel_rfl) ?_)
      | (go_at_call 31;refine NY.mono ?_;rintro x W3 ⟨rfl,dA⟩))
     have kW:Below W0.heap.size W0 W3:=ah jm dA;have HO3:Hid (W3.ownsRow W0.heap.size 39 3 v1 ([(bC,⟨#[]⟩),(bK,⟨#[]⟩),(aU,e.ag)]++ [(aU,e.key)]).length (j5 ([(bC,⟨#[]⟩),(bK,⟨#[]⟩),(aU,e.ag)]++ [(aU,e.key)]))):=by
      obtain⟨h1,⟨h2,h3⟩| ⟨g,cap,cur,h2,h3,h4,h5⟩⟩:=Yg.out
      ·exact⟨h1,.inl ⟨h2,h3⟩⟩
      ·exact⟨h1,.inr ⟨g,cap,cur,h2,h3,(dA.block g (aO h4)).trans h4,h5⟩⟩
     cases hj:(m.toList== [106,111,105,110])with
     | true=>
      go_wp2_with(refine fo rfl _ _ rfl W0.heap.size v1 ([(bC,⟨#[]⟩),(bK,⟨#[]⟩),(aU,e.ag)]++ [(aU,e.key)]) rfl ((HO3.out).alloc _) W3.heap.size 1 (fK,⟨#[]⟩) rfl (bR _) (by simp) (by simp;exact Nat.le_trans kW.size (Nat.le_succ _)) fun v9 W9 Rw N7=> ?_);go_ret;exact yV.out _ _ _ (by rw[tO.out,hj];rfl) Rw (kW.trans (((Below.refl W0.heap.size W3).alloc kW.size _).trans (iH N7 (by simp;exact Nat.le_trans kW.size (Nat.le_succ _)) fun k hk=>(HO3.out.lt k hk).1)))
     | false=>
      cases hi:(m.toList== [105,110,118,105,116,101])with
      | true=>
       go_wp2_with(refine fo rfl _ _ rfl W0.heap.size v1 ([(bC,⟨#[]⟩),(bK,⟨#[]⟩),(aU,e.ag)]++ [(aU,e.key)]) rfl ((HO3.out).alloc _) W3.heap.size 1 (fK,⟨#[]⟩) rfl (bR _) (by simp) (by simp;exact Nat.le_trans kW.size (Nat.le_succ _)) fun v9 W9 Rw N7=> ?_);go_ret;exact yV.out _ _ _ (by rw[tO.out,hj,hi];rfl) Rw (kW.trans (((Below.refl W0.heap.size W3).alloc kW.size _).trans (iH N7 (by simp;exact Nat.le_trans kW.size (Nat.le_succ _)) fun k hk=>(HO3.out.lt k hk).1)))
      | false=>
       go_wp2;go_ret;exact yV.out _ _ _ (by rw[tO.out,hj,hi];rfl) HO3.out kW
abbrev uA:ByteArray:=⟨#[64,97,58,115,49]⟩
abbrev uB:ByteArray:=⟨#[64,98,58,115,50]⟩
abbrev uj:ByteArray:=⟨#[36,65,65,65,65,65,65,65,65,65,65,69]⟩
abbrev TD:ByteArray:=⟨#[36,65,65,65,65,65,65,65,65,65,65,73]⟩
abbrev uk:Ev:=X7 bC ⟨#[]⟩ uA (rD gu uA)
abbrev QA:Ev:=X7 aU uA uA (rD dt jf)
abbrev zW:Ev:=⟨⟨#[33,114,58,115,49]⟩,aU,uA,true,uA,rD dt jf, [uj], [],0,0,aN, []⟩
abbrev Nu:Ev:=⟨⟨#[33,114,58,115,49]⟩,⟨#[109,46,114,111,111,109,46,109,101,115,115,97,103,101]⟩,uB,false,⟨#[]⟩,.mk 5 0 ⟨#[]⟩ [] [], [], [],0,0,⟨#[]⟩, []⟩
abbrev Rx:Ev:=X7 aU uA uA (rD dt wP)
theorem QB:aG uk=true:=by kernel_rfl
theorem QC:aG zW=true:=by kernel_rfl
theorem QD:aG Nu=true:=by kernel_rfl
theorem QE:aG Rx=true:=by kernel_rfl
theorem zcF:askT uk []=true:=by kernel_rfl
theorem zcG:askT zW [(uj,uk)]=true:=by kernel_rfl
theorem zcH:askT Nu [(uj,uk),(TD,zW)]=false:=by kernel_rfl
theorem zcI:askT Rx [(uj,uk),(TD,zW)]=false:=by kernel_rfl
theorem Yh:(qM zW).length=4:=by kernel_rfl
theorem TE:gQ uk []=0:=by unfold gQ;rw[QB,zcF];rfl
theorem TF:gQ zW [(uj,uk)]=0:=by unfold gQ;rw[QC,zcG];rfl
theorem TG:gQ Nu [(uj,uk),(TD,zW)]=110:=by unfold gQ;rw[QD,zcH];rfl
theorem TH:gQ Rx [(uj,uk),(TD,zW)]=110:=by unfold gQ;rw[QE,zcI];rfl
theorem yX(w:World)(s:ByteArray)(e:Ev)(p:Pt):(Instr.build 41 #[(0,.string s),(1,dZ e p)]).run Tryz.prog w=.ok (lV (s,e) p) w:=by kernel_rfl
theorem Fx(w:World)(k:Kn)(q:Pt):(Instr.buildSlice 29 1 #[(0,lV k q)]).run Tryz.prog w=.ok (.slice (some ⟨w.heap.size,0,none⟩) 1 1) (w.alloc (.cells (aI k q).toArray 41)):=by kernel_rfl
section
variable {bT : Array Oper} {rest : List Oper} {op : Oper} {a : Act} {w : World} {Q : Exit -> Act -> World -> Prop}
theorem zX(rU:op.guard=none)(x y:Operand)(ho:op.op=.build 41 #[(0,x),(1,y)])(s:ByteArray)(e:Ev)(p:Pt)(hx:a.eval x=.string s)(hy:a.eval y=dZ e p)
    (h:wpList Tryz.prog bT Q rest (a.put op.dst (lV (s,e) p)) w):wpList Tryz.prog bT Q (op::rest) a w:=by
 refine wpList_plain rU fun K hK=> ?_;unfold Oper.wp;simp[execOp,ho,hx,hy,yX];exact hK _ _ h
theorem Fy(rU:op.guard=none)(x:Operand)(ho:op.op=.buildSlice 29 1 #[(0,x)])(k:Kn)(q:Pt)(hx:a.eval x=lV k q)
    (h:wpList Tryz.prog bT Q rest (a.put op.dst (.slice (some ⟨w.heap.size,0,none⟩) 1 1)) (w.alloc (.cells (aI k q).toArray 41))):wpList Tryz.prog bT Q (op::rest) a w:=by
 refine wpList_plain rU fun K hK=> ?_;unfold Oper.wp;simp[execOp,ho,hx,Fx];exact hK _ _ h
end
theorem pg{bT:Array Oper}{rest:List Oper}{op:Oper}{a:Act}{w:World}{Q:Exit->Act->World->Prop}(rU:op.guard=none)(x y:Operand)(ho:op.op=.build 41 #[(0,x),(1,y)])(s:ByteArray)(e:Ev)(p:Pt)(L:List Value)(hL:L=aB e p)(hx:a.eval x=.string s)(hy:a.eval y=.agg L.toArray)
    (h:∀M:List Value,Hid (M=aI (s,e) p)->wpList Tryz.prog bT Q rest (a.put op.dst (.agg M.toArray)) w):wpList Tryz.prog bT Q (op::rest) a w:=by
 subst hL;exact zX rU x y ho s e p hx hy (h _ rfl)
theorem tX{bT:Array Oper}{rest:List Oper}{op:Oper}{a:Act}{w:World}{Q:Exit->Act->World->Prop}(rU:op.guard=none)(x:Operand)(ho:op.op=.buildSlice 29 1 #[(0,x)])(k:Kn)(q:Pt)(M:List Value)(hM:M=aI k q)(hx:a.eval x=.agg M.toArray)
    (h:wpList Tryz.prog bT Q rest (a.put op.dst (.slice (some ⟨w.heap.size,0,none⟩) 1 1)) (w.alloc (.cells M.toArray 41))):wpList Tryz.prog bT Q (op::rest) a w:=by
 subst hM;exact Fy rU x ho k q hx h
theorem Yi:(Tryz.prog.info? 41).map (fun i=>(i.zero,i.size,i.bytes))=some (some (lV zK Pt.zero),17,272):=by kernel_rfl
theorem Fz{bT:Array Oper}{rest:List Oper}{o:Oper}{a:Act}{w:World}{Q:Exit->Act->World->Prop}(rU:o.guard=none)(s x:Operand)
    (ho:o.op=.call {callee:=.builtin .append,args:=#[s,x],argTypes:=#[29,29]})
    (b1 b2:Nat) (k1 k2:Kn) (q1 q2:Pt) (hs:a.eval s=.slice (some ⟨b1,0,none⟩) 1 1) (hx:a.eval x=.slice (some ⟨b2,0,none⟩) 1 1)
    (h1:w.heap[b1]?=some (.cells (aI k1 q1).toArray 41 (0,0))) (h2:w.heap[b2]?=some (.cells (aI k2 q2).toArray 41 (0,0)))
    (h:∀c w',2<=c->Below w.heap.size w w'->(∀n v,(aI k1 q1)[n]?=some v->w'.cell? ⟨w.heap.size,n,none⟩=some v)->(∀n v,(aI k2 q2)[n]?=some v->w'.cell? ⟨w.heap.size,17+n,none⟩=some v)->wpList Tryz.prog bT Q rest (a.put o.dst (.slice (some ⟨w.heap.size,0,none⟩) 2 c)) w'):wpList Tryz.prog bT Q (o::rest) a w:=by
 obtain⟨i,hi,hz,fq,CR⟩:=info_parts Yi;have vg:∀b m,(⟨b,0,none⟩:Addr).add m=⟨b,m,none⟩:=fun b m=>by unfold Addr.add;split<;>simp_all
 have Ky:=run_append_grow (P:=Tryz.prog) (w:=w) 29 o.type 41 i _ Tryz.underlying29 hi hz ⟨b1,0,none⟩ 1 1 (aI k1 q1) (by rw[fq];rfl) (fun j v hv=>by rw[vg];exact ay h1 j v (by simpa using hv)) ⟨b2,0,none⟩ 1 1 (aI k2 q2) (by rw[fq];rfl) (fun j v hv=>by rw[vg];exact ay h2 j v (by simpa using hv)) (by decide) (by decide) (by rw[CR];decide);obtain⟨c,hc⟩:∃c,c=grownCap w (1+1) 1 41:=⟨_,rfl⟩;have mE:2<=c:=by rw[hc];exact grownCap_ge w 2 1 41
 rw[<-hc]at Ky;obtain⟨cur,Gr⟩:∃cur,cur=(aI k1 q1).toArray++(aI k2 q2).toArray++Builtin.zeroCells (lV zK Pt.zero).cells (c - (1+1)):=⟨_,rfl⟩;rw[<-Gr]at Ky;have hr:(Builtin.append_ #[29,29] o.type #[.slice (some ⟨b1,0,none⟩) 1 1,.slice (some ⟨b2,0,none⟩) 1 1]).run Tryz.prog w=.ok (.slice (some ⟨w.heap.size,0,none⟩) 2 c) (w.drew.alloc (.cells cur 41)):=Ky;have hN:(w.drew.alloc (.cells cur 41)).heap[w.heap.size]?=some (.cells cur 41 (0,0)):=bR (w:=w.drew) (.cells cur 41);have h17:(aI k1 q1).length=17:=rfl;have hgo:=h c (w.drew.alloc (.cells cur 41)) mE ((Below.refl _ _).drew.alloc (Nat.le_refl _) _) (fun n v hv=>by
  refine ay hN n v ?_;have hn:n<(aI k1 q1).length:=(List.getElem?_eq_some_iff.1 hv).1;rw[Gr,Array.getElem?_append_left (by simp;omega),Array.getElem?_append_left (by simpa using hn)];simpa using hv) (fun n v hv=>by
  refine ay hN (17+n) v ?_;have hn:n<(aI k2 q2).length:=(List.getElem?_eq_some_iff.1 hv).1;rw[Gr,Array.getElem?_append_left (by simp;omega),Array.getElem?_append_right (by simp;omega)];simpa [h17]using hv)
 clear Ky Gr hN h;refine wpList_plain rU fun K hK=> ?_;unfold Oper.wp;simp[execOp,ho,resolve,invoke,builtin,hs,hx,hr,Result.andThen];exact hK _ _ hgo
def zcJ(w':World):Option Hr->Ending->Prop
 | none,x=>x=fO false
 | some H,x=>∃hb P,x=.returned (.pointer (some ⟨hb,0,none⟩))/\iK w' hb H P
theorem JA{s:ByteArray}(h:s.size<=1000000000):O_ (nT s):=⟨⟨by simp,fun p hp=>by simp at hp;subst hp;exact h⟩,⟨by simp,fun p hp=>by simp at hp⟩⟩
theorem TJ{e:Ev}{l:List Kn}{H:Hr}(hz:xe e)(hk:IJ l)(h:openT e l=some H):NV H:=by
 unfold openT at h
 split at h
 ·cases h
 ·rename_i c hc
  split at h
  ·split at h
   ·cases h
   ·rename_i v hv
    cases h
    refine⟨hz,hk, ?_⟩;unfold levT at hv
    split at hv
    ·rename_i k hf
     split at hv
     ·cases hv
      exact Em (lG 12 13 _ (by decide) (hk.cont k (List.mem_of_find?_eq_some hf)))
     ·cases hv
    ·cases hv
     exact JA (hk.snd c (List.mem_of_find?_eq_some hc))
  ·cases h
theorem kD(b t:Nat):∀(vs pre cur post:List Value) (w:World),w.heap[b]?=some (.cells (pre++(cur++post)).toArray t (0,0))->cur.length=vs.length->(w.setCells b pre.length vs).heap[b]?=some (.cells (pre++(vs++post)).toArray t (0,0))
 | [],pre,cur,post,w,h,hl=>by
  obtain rfl:cur= []:=List.eq_nil_of_length_eq_zero hl;exact h
 | v::r,pre,c::cur,post,w,h,hl=>by
  have h0:(w.setCell ⟨b,pre.length,none⟩ v).heap[b]?=some (.cells ((pre++ [v])++(cur++post)).toArray t (0,0)):=by
   rw[heap_setCell_same w b pre.length _ _ _ h];simp
  have:=kD b t r (pre++ [v]) cur post _ h0 (by simpa using hl);rw[List.length_append]at this;simpa [World.setCells]using this
theorem fu(b:Nat):∀(vs:List Value) (w:World) (i:Nat),av (aQ b) w (w.setCells b i vs)
 | [],w,_=>av.refl _ w
 | v::r,w,i=>(av.setCell (p:=⟨b,i,none⟩) (av.refl (aQ b) w) (fun _=>(rfl:b=b)) v).then (fu b r _ (i+1))
theorem oD{bT:Array Oper}{rest:List Oper}{op:Oper}{a:Act}{w:World}{Q:Exit->Act->World->Prop}(rU:op.guard=none)(ty:TypeId)(x y:Operand)(ho:op.op=.store ty x y)
    (b o:Nat) (cells:Array Value) (hx:a.eval x=.pointer (some ⟨b,o,none⟩)) (hy:a.eval y=.agg cells)
    (ht:w.there b o cells.size) (hi:(Tryz.prog.info? ty).map (·.size)=some cells.size) (h1:cells.all (·.oneCell')=true) (W':World) (Rt:W'=w.setCells b o cells.toList)
    (h:wpList Tryz.prog bT Q rest (a.put op.dst undef) W'):wpList Tryz.prog bT Q (op::rest) a w:=by
 subst Rt;exact wpList_store_mid rU ty x y ho b o cells hx hy ht hi h1 h
section
variable {w : World} {hb : Nat} {h : Hr} {p : Ph}
def zcK(h:Hr)(p:Ph):List Value:=aB h.e p.e++(.slice p.ps h.st.length p.cs::aI (h.cn,h.ce) p.ce)
theorem TK{vs:Lv}{q:Pl}(hX:w.heap[hb]?=some (.cells (nU h p).toArray 92 (0,0))):w.there hb 34 (aY vs q).toArray.size:=fun j hj=>by
 have hj9:j<9:=hj;refine⟨?_,ou hX _⟩;have bH:34+j<(nU h p).toArray.size:=by show 34+j<44;omega
 rw[ay hX (34+j) _ (Array.getElem?_eq_getElem bH)]
 rfl
theorem zcL{l:Lv}{q:Pl}(hX:w.heap[hb]?=some (.cells (nU h p).toArray 92 (0,0))):(w.setCells hb 34 (aY l q)).heap[hb]?=some (.cells (zcK h p++(aY l q++ [Value.bool h.told])).toArray 92 (0,0)):=
 kD hb 92 (aY l q) (zcK h p) (aY h.l p.l) [Value.bool h.told] w hX rfl
end
theorem open_any{O:Nat->Prop}{w:World}{e:Ev}{p:Pt}{ps:Option Addr}{cs:Nat}{l:List Kn}(h:iL O w e p)(ny:rZ O w ps cs l)(hO:∀b,O b->b<w.heap.size)(hk:IJ l):
    Calls Tryz.prog 52 #[dZ e p,.slice ps l.length cs] w fun x w'=>zcJ w' (openT e l) x/\Below w.heap.size w w':=by
 obtain⟨W0,fw⟩:∃W0,W0=w.alloc (.cells (aB e p).toArray 28):=⟨_,rfl⟩;have dS:Below w.heap.size w W0:=by rw[fw];exact(Below.refl _ _).alloc (Nat.le_refl _) _
 have r9:W0.heap[w.heap.size]?=some (.cells (aB e p).toArray 28 (0,0)):=by rw[fw];exact bR _
 have hV:=kC h hO dS r9;have HV:Hid (∀X,Below W0.heap.size W0 X->kZ X w.heap.size e p):=fun X hX=>hV.below hX;have Bv:Hid (∀X,Below W0.heap.size W0 X->rZ (· <X.heap.size) X ps cs l):=fun X hX=>ny.carry fun k hk=>⟨Nat.lt_of_lt_of_le (hO k hk) (ah dS hX).size,(ah dS hX).block k (hO k hk)⟩;have HF:Hid (∀(kind:ByteArray) X,Below W0.heap.size W0 X->Calls Tryz.prog 81 #[.slice ps l.length cs,.string kind,.string ⟨#[]⟩] X fun e w'=>(∃q,e=.returned (.tuple #[lV ((bO l kind ⟨#[]⟩).getD zK) q,.bool (bO l kind ⟨#[]⟩).isSome])/\iL (· <X.heap.size) w' ((bO l kind ⟨#[]⟩).getD zK).2 q)/\Below X.heap.size X w'):=fun kind X hX=>Ff (Bv.out X hX) (fun _ h=>h) hk.len kind ⟨#[]⟩;have hF1:=HF.out bC W0 (Below.refl _ _);have HF2:=(show Hid _ from HF.out bK);have HE0:Hid (∀X,Below w.heap.size w X->iL (· <w.heap.size) X e p/\rZ (· <w.heap.size) X ps cs l):=fun X hX=>⟨h.carry fun k hk=>⟨hO k hk,hX.block k (hO k hk)⟩,ny.carry fun k hk=>⟨hO k hk,hX.block k (hO k hk)⟩⟩;have HSC:Hid (∀k,bO l bK ⟨#[]⟩=some k->szJ 12 k.2.content=true):=fun k hf=>lG 12 13 _ (by decide) (hk.cont k (List.mem_of_find?_eq_some hf));have HO:Hid (openT e l=match bO l bC ⟨#[]⟩with| none=>none| some c=>if eX c.2.room e.room then(match levT l c.2.ag with| none=>none| some v=>some ⟨e,l,c.1,c.2,v,(bO l bK ⟨#[]⟩).isSome⟩)else none):=rfl;clear h ny hV r9 HF hk;unfold dZ;generalize bO l bC ⟨#[]⟩=oc at hF1 HO
 cases oc with
 | none=>
  have HT:Hid (openT e l=none):=HO.out;clear HO;simp only[Option.getD_none,Option.isSome_none]at hF1;go_enter Tryz.func52,Tryz.ntmps52
  go_upto_region 1 with fail
  rw[<-fw];clear fw;go_wp2_with(first
   | (go_at_call 81;refine hF1.mono ?_;rintro e w1 ⟨⟨q,rfl,_⟩,aP⟩;unfold lV)
   | (refine wpList_store_row rfl 41 _ _ rfl w1.heap.size 41 _ (aI zK q).toArray rfl rfl (bR _) qA rfl (yo zK q) ?_)
   | (go_at_call 54;refine(bB _ _).mono ?_;rintro e wn ⟨he,rfl⟩;replace he:e=_:=he;subst he))
  refine⟨rfl,by rw[HT.out];rfl,ah dS (ah aP ?_)⟩;exact((Below.refl _ _).alloc (Nat.le_refl _) _).trans ((cz _ w1.heap.size _).below (by simp) fun q hq e=>by unfold aQ at e;omega)
 | some c=>
  simp only[Option.getD_some,Option.isSome_some]at hF1 HO;go_enter Tryz.func52,Tryz.ntmps52
  go_upto_region 1 with fail
  rw[<-fw];clear fw
  go_upto_region 2 with(first
   | (go_at_call 81;refine hF1.mono ?_;rintro e w1 ⟨⟨q,rfl,hIc⟩,aP⟩;unfold lV)
   | (refine wpList_store_row rfl 41 _ _ rfl w1.heap.size 41 _ (aI c q).toArray rfl rfl (bR _) qA rfl (yo c q) ?_))
  have bS:Below w1.heap.size w1 ((w1.alloc (.cells (aI zK Pt.zero).toArray 41)).setRow w1.heap.size (aI c q).toArray):=
   ((Below.refl _ _).alloc (Nat.le_refl _) _).trans ((cz _ w1.heap.size _).below (by simp) fun q hq e=>by unfold aQ at e;omega)
  have hX:((w1.alloc (.cells (aI zK Pt.zero).toArray 41)).setRow w1.heap.size (aI c q).toArray).heap[w1.heap.size]?=some (.cells (aI c q).toArray 41 (0,0)):=setRow_heap _ _ _ _ _ _ (bR _);change Code.wp _ _ _ _ ((w1.alloc (.cells (aI zK Pt.zero).toArray 41)).setRow w1.heap.size (aI c q).toArray);generalize (w1.alloc (.cells (aI zK Pt.zero).toArray 41)).setRow w1.heap.size (aI c q).toArray=W at bS hX;have p_:Below W0.heap.size W0 W:=ah aP bS;have HB:Hid (∀X,Below W.heap.size W X->Below w.heap.size w X):=fun X hX=>ah dS (ah p_ hX);have HVW:Hid (∀X,Below W.heap.size W X->kZ X w.heap.size e p):=fun X hX=>HV.out X (ah p_ hX);have HSW:Hid (∀X,Below W.heap.size W X->rZ (· <X.heap.size) X ps cs l):=fun X hX'=>Bv.out X (ah p_ hX');have HFW:Hid (∀X,Below W.heap.size W X->Calls Tryz.prog 81 #[.slice ps l.length cs,.string bK,.string ⟨#[]⟩] X fun e w'=>(∃q,e=.returned (.tuple #[lV ((bO l bK ⟨#[]⟩).getD zK) q,.bool (bO l bK ⟨#[]⟩).isSome])/\iL (· <X.heap.size) w' ((bO l bK ⟨#[]⟩).getD zK).2 q)/\Below X.heap.size X w'):=fun X hX=>HF2.out X (ah p_ hX);have HKW:Hid (∀X,Below W.heap.size W X->X.heap[w1.heap.size]?=some (.cells (aI c q).toArray 41 (0,0))/\iL (· <X.heap.size) X c.2 q):=fun X hX'=>⟨(hX'.block _ (aO hX)).trans hX,hIc.carry fun k hk=>⟨Nat.lt_of_lt_of_le (Nat.lt_of_lt_of_le hk aP.size) (Nat.le_trans bS.size hX'.size),(hX'.block k (Nat.lt_of_lt_of_le (Nat.lt_of_lt_of_le hk aP.size) bS.size)).trans (bS.block k (Nat.lt_of_lt_of_le hk aP.size))⟩⟩;have er:=(HVW.out W (Below.refl _ _)).room;have cr:W.cell? ⟨w1.heap.size,1,none⟩=some (.string c.2.room):=ay hX 1 _ rfl;clear hF1 HF2 HV Bv hIc bS hX p_ aP
  cases hr:(c.2.room.toList==e.room.toList)with
  | false=>
   have HT:Hid (openT e l=none):=by show _=_;rw[HO.out];exact if_neg (by show¬(eX c.2.room e.room)=true;rw[show eX c.2.room e.room=false from hr];decide)
   clear HO;go_wp2_with(go_at_call 54;refine(bB _ _).mono ?_;rintro e wn ⟨he,rfl⟩;replace he:e=_:=he;subst he);exact⟨rfl,by rw[HT.out];rfl,HB.out _ (Below.refl _ _)⟩
  | true=>
   have HT:Hid (openT e l=match levT l c.2.ag with| none=>none| some v=>some ⟨e,l,c.1,c.2,v,(bO l bK ⟨#[]⟩).isSome⟩):=by show _=_;rw[HO.out];exact if_pos hr
   clear HO
   go_upto_region 3 with(go_at_call 54;refine(bB _ _).mono ?_;rintro e wn ⟨he,rfl⟩;replace he:e=_:=he;subst he)
   refine aF (by kernel_rfl) (fun w'=>Below W.heap.size W w') ?_;change wpIn _ _ _ _ _ _ _ _ (World.drew _);have hD:Below W.heap.size W W.drew:=(Below.refl _ _).drew;refine ae (i:=0) (d:=(some 26)) (v:=(dZ e p)) (a':= ?aqo0) rfl rfl (by kernel_rfl) (by kernel_rfl) (by kernel_rfl) (fun _ _ _ h=>h) (Or.inl ⟨by rfl, ?yqo0⟩) ?fqo0 ?_
   case yqo0=>exact fun wq hq=>b_ rfl rfl (run_loadAt_mid wq w.heap.size 0 28 (aB e p) _ (HVW.out wq hq).iW Tryz.underlying28 rfl eQ)
   case fqo0=>(go_frame;rfl)
   refine aa (i:=1) (d:=some 27) rfl ?_;refine ae (i:=2) (d:=(some 28)) (v:=(lV c q)) (a':= ?aqo2) rfl rfl (by kernel_rfl) (by kernel_rfl) (by kernel_rfl) (fun _ _ _ h=>h) (Or.inl ⟨by rfl, ?yqo2⟩) ?fqo2 ?_
   case yqo2=>exact fun wq hq=>b_ rfl rfl (run_loadAt_mid wq w1.heap.size 0 41 (aI c q) _ (eD (HKW.out wq hq).1) Tryz.underlying41 rfl qA)
   case fqo2=>(go_frame;rfl)
   refine aa (i:=3) (d:=some 29) rfl ?_;refine aa (i:=4) (d:=some 30) rfl ?_;refine az (i:=5) (d:=some 31) rfl (by(intro wq hq;have zf:wq.cell? ⟨w1.heap.size,3,none⟩=some (.string c.2.ag):=ay (HKW.out wq hq).1 3 _ rfl;go_simp;first| done| with_reducible rfl)) ?_;refine ak (i:=6) hD rfl ?_;intro K hK;go_simp;go_wp2_with(go_at_call 82;refine(Pk c.2.ag).mono ?_;rintro x w2 ⟨⟨ql,rfl,hIl⟩,rH⟩);have Bi:Below W.heap.size W w2:=ah hD rH;refine ae (i:=7) (d:=(some 33)) (v:=(.agg (nU ⟨e,l,c.1,c.2,nT c.2.ag,false⟩ ⟨p,ps,cs,q,ql⟩).toArray)) (a':= ?aqo7) rfl rfl (by kernel_rfl) (by kernel_rfl) (by kernel_rfl) (fun _ _ _ h=>h) (Or.inl ⟨by rfl, ?yqo7⟩) ?fqo7 ?_
   case yqo7=>(intro wq hq;simp only[dZ,lV,jc,aB,aI,aY];go_simp;first| done| rfl)
   case fqo7=>(go_frame;rfl)
   refine ak (i:=8) Bi rfl ?_;intro K hK;go_simp;refine hK _ _ ?_;clear hK K;obtain⟨W3,vZ⟩:∃W3,W3=w2.alloc (.cells (nU ⟨e,l,c.1,c.2,nT c.2.ag,false⟩ ⟨p,ps,cs,q,ql⟩).toArray 92):=⟨_,rfl⟩;have dA:Below w2.heap.size w2 W3:=by rw[vZ];exact(Below.refl _ _).alloc (Nat.le_refl _) _
   have Yj:W3.heap[w2.heap.size]?=some (.cells (nU ⟨e,l,c.1,c.2,nT c.2.ag,false⟩ ⟨p,ps,cs,q,ql⟩).toArray 92 (0,0)):=by rw[vZ];exact bR _
   have Rs:Below W.heap.size W W3:=ah Bi dA;rw[<-vZ];refine aa (i:=9) (d:=some 7) rfl ?_;refine aD Rs (by kernel_rfl) ?_ _;have HTN:Hid (bO l bK ⟨#[]⟩=none->openT e l=some ⟨e,l,c.1,c.2,nT c.2.ag,false⟩):=fun hf=>by rw[HT.out,levT,hf];rfl
   have F3:Hid (∀k,bO l bK ⟨#[]⟩=some k->(bQ (eU k.2.content)).2=0->openT e l=some ⟨e,l,c.1,c.2,(bQ (eU k.2.content)).1,true⟩):=fun k hf h0=>by rw[HT.out,levT,hf];simp only[];rw[if_pos h0];rfl
   have HTB:Hid (∀k,bO l bK ⟨#[]⟩=some k->(bQ (eU k.2.content)).2=1->openT e l=none):=fun k hf h0=>by rw[HT.out,levT,hf];simp only[];rw[if_neg (by rw[h0];decide)]
   have HI3:Hid (iK W3 w2.heap.size ⟨e,l,c.1,c.2,nT c.2.ag,false⟩ ⟨p,ps,cs,q,ql⟩):=⟨Yj,(HVW.out W3 Rs).ev,HSW.out W3 Rs,hIl.carry fun b hb=>⟨Nat.lt_of_lt_of_le hb.2 dA.size,dA.block b hb.2⟩⟩;have hF:=HFW.out W3 Rs;have HS4:Hid (w.heap.size<=w2.heap.size/\w2.heap.size<W3.heap.size):=⟨(HB.out w2 Bi).size,aO Yj⟩;have U4:Hid (∀X,Below W3.heap.size W3 X->Below w.heap.size w X):=fun X hX=>HB.out X (ah Rs hX);clear HT vZ Yj hIl HVW HSW HFW HKW Bi hD Rs dA rH er cr HB;generalize bO l bK ⟨#[]⟩=op at hF HTN F3 HTB HSC
   cases op with
   | none=>
    have HTE:=(show Hid _ from HTN.out rfl);clear HTN F3 HTB HSC;simp only[Option.getD_none,Option.isSome_none]at hF;go_wp2_with(first
     | (go_at_call 81;refine hF.mono ?_;rintro x w4 ⟨⟨qk,rfl,_⟩,dB⟩;unfold lV)
     | (refine wpList_store_row rfl 41 _ _ rfl w4.heap.size 41 _ (aI zK qk).toArray rfl rfl (bR _) qA rfl (yo zK qk) ?_))
    go_ret;have bS:Below w4.heap.size w4 ((w4.alloc (.cells (aI zK Pt.zero).toArray 41)).setRow w4.heap.size (aI zK qk).toArray):=
     ((Below.refl _ _).alloc (Nat.le_refl _) _).trans ((cz _ w4.heap.size _).below (by simp) fun q hq e=>by unfold aQ at e;omega)
    refine⟨?_,U4.out _ (ah dB bS)⟩;rw[HTE.out];exact⟨_,⟨p,ps,cs,q,ql⟩,rfl,HI3.out.below (ah dB bS)⟩
   | some k=>
    have Tc:=(show Hid _ from HSC.out k rfl);simp only[Option.getD_some,Option.isSome_some]at hF
    go_upto_region 6 with(first
     | (go_at_call 81;refine hF.mono ?_;rintro x w4 ⟨⟨qk,rfl,hIk⟩,dB⟩;unfold lV)
     | (refine wpList_store_row rfl 41 _ _ rfl w4.heap.size 41 _ (aI k qk).toArray rfl rfl (bR _) qA rfl (yo k qk) ?_))
    have bS:Below w4.heap.size w4 ((w4.alloc (.cells (aI zK Pt.zero).toArray 41)).setRow w4.heap.size (aI k qk).toArray):=
     ((Below.refl _ _).alloc (Nat.le_refl _) _).trans ((cz _ w4.heap.size _).below (by simp) fun q hq e=>by unfold aQ at e;omega)
    have QF:((w4.alloc (.cells (aI zK Pt.zero).toArray 41)).setRow w4.heap.size (aI k qk).toArray).heap[w4.heap.size]?=some (.cells (aI k qk).toArray 41 (0,0)):=setRow_heap _ _ _ _ _ _ (bR _);change Code.wp _ _ _ _ ((w4.alloc (.cells (aI zK Pt.zero).toArray 41)).setRow w4.heap.size (aI k qk).toArray);generalize (w4.alloc (.cells (aI zK Pt.zero).toArray 41)).setRow w4.heap.size (aI k qk).toArray=W4 at bS QF;have rY:Below W3.heap.size W3 W4:=ah dB bS;have Kw:Hid (W4.rangeAt w4.heap.size 1 (aB k.2 qk)):=jw QF 1 rfl;have vX:=tV (O:=(· <W3.heap.size)) (w:=W4) (e:=k.2) (p:=qk) (hIk.carry fun b hb=>⟨hb,bS.block b (Nat.lt_of_lt_of_le hb dB.size)⟩) (fun b hb=>Nat.lt_of_lt_of_le hb rY.size) Tc.out;have QG:=(show Hid _ from F3.out k rfl);have QH:=(show Hid _ from HTB.out k rfl);clear HTN F3 HTB HSC hF hIk QF Tc;unfold Ye at vX;unfold dZ at vX;have HEE:Hid ((bQ (eU k.2.content)).2=0\/ (bQ (eU k.2.content)).2=1):=AV _;generalize bQ (eU k.2.content)=R at vX QG QH HEE;obtain⟨L,E⟩:=R;simp only at vX QG QH HEE;have HI4:=(show Hid _ from HI3.out.below rY)
    rcases HEE.out with rfl| rfl
    ·have zfy:Calls Tryz.prog 83 #[.agg (aB k.2 qk).toArray] W4 fun x w'=>(∃q2,x=.returned (.agg (aY L q2).toArray)/\BK (fun b=>W4.heap.size<=b/\b<w'.heap.size) w' L q2)/\Below W4.heap.size W4 w':=by
       refine vX.mono fun x w' hh=>⟨?_,hh.2⟩
       rcases hh.1 with⟨_,q2,hx,hi⟩| ⟨hx,_⟩
       ·exact⟨q2,hx,hi⟩
       ·exact absurd hx (by decide)
     have HTE:=(show Hid _ from QG.out rfl);clear vX QG QH HEE;go_wp2_with(first
      | (refine wpList_load_mid rfl 28 _ rfl w4.heap.size 1 rfl (aB k.2 qk) _ Kw.out Tryz.underlying28 rfl eQ ?_)
      | (go_at_call 83;refine zfy.mono ?_;rintro x w5 ⟨⟨q2,rfl,hI2⟩,jB⟩
         have HX5:=(show Hid _ from(HI4.out.below jB).nL);have HTH:Hid (w5.there w2.heap.size 34 (aY L q2).toArray.size):=TK HX5.out;obtain⟨W5,uL⟩:∃W5,W5=w5.setCells w2.heap.size 34 (aY L q2):=⟨_,rfl⟩;have HW5:=(show Hid _ from uL);have HM:=(show Hid _ from zcL (l:=L) (q:=q2) HX5.out);rw[<-uL]at HM;clear uL;have g43:W5.cell? ⟨w2.heap.size,43,none⟩=some (.bool false):=ay HM.out 43 _ rfl;have z43:=ou HM.out 43)
      | (refine oD rfl 47 _ _ rfl w2.heap.size 34 (aY L q2).toArray rfl rfl HTH.out tC (Fw L q2) W5 HW5.out ?_))
     go_ret;have Rh:av (aQ w2.heap.size) w5 W5:=by rw[HW5.out];exact fu w2.heap.size (aY L q2) w5 34
     have pO:av (aQ w2.heap.size) w5 (W5.setCell ⟨w2.heap.size,43,none⟩ (.bool true)):=av.setCell (S:=aQ w2.heap.size) (p:=⟨w2.heap.size,43,none⟩) Rh (fun _=>(rfl:w2.heap.size=w2.heap.size)) _;have hh:(W5.setCell ⟨w2.heap.size,43,none⟩ (.bool true)).heap[w2.heap.size]?=some (.cells (nU ⟨e,l,c.1,c.2,L,true⟩ ⟨p,ps,cs,q,q2⟩).toArray 92 (0,0)):=by rw[heap_setCell_same _ w2.heap.size 43 _ _ _ HM.out];rfl
     have Rq:=U4.out w5 (ah rY jB);have O6:=HS4.out;have hs5:=rY.size;have lD:Below w.heap.size w (W5.setCell ⟨w2.heap.size,43,none⟩ (.bool true)):=Rq.trans (pO.below Rq.size fun k hk e=>by unfold aQ at e;omega);have hIE:=HE0.out _ lD;refine⟨?_,lD⟩;rw[HTE.out];exact⟨_,⟨p,ps,cs,q,q2⟩,rfl,⟨hh,hIE.1.carry fun k hk=>⟨Nat.lt_of_lt_of_le hk lD.size,rfl⟩,hIE.2.carry fun k hk=>⟨Nat.lt_of_lt_of_le hk lD.size,rfl⟩,hI2.carry fun b hb=>⟨Nat.lt_of_lt_of_le hb.2 pO.size,pO.block b hb.2 (by unfold aQ;have:=hb.1;omega)⟩⟩⟩
    ·have zfz:Calls Tryz.prog 83 #[.agg (aB k.2 qk).toArray] W4 fun x w'=>x=fO false/\Below W4.heap.size W4 w':=by
       refine vX.mono fun x w' hh=>⟨?_,hh.2⟩
       rcases hh.1 with⟨hx,_⟩| ⟨_,hx⟩
       ·exact absurd hx (by decide)
       ·exact hx
     have HTE:=(show Hid _ from QH.out rfl);clear vX QG QH HEE;go_wp2_with(first
      | (refine wpList_load_mid rfl 28 _ rfl w4.heap.size 1 rfl (aB k.2 qk) _ Kw.out Tryz.underlying28 rfl eQ ?_)
      | (go_at_call 83;refine zfz.mono ?_;rintro x w5 ⟨rfl,jB⟩))
     exact⟨rfl,by rw[HTE.out];rfl,U4.out _ (ah rY jB)⟩
section
variable {w : World} {hb : Nat} {h : Hr} {p : Ph}
theorem Nv(x:iK w hb h p)(hz:NV h):Calls Tryz.prog 122 #[.pointer (some ⟨hb,0,none⟩)] w fun e w'=>e=.returned (.bool h.alone)/\Below w.heap.size w w':=by
 have HT:Hid (h.alone=(decide (h.e.prev.length=1)&&eX (h.e.prev.getD 0 aN) h.cn)):=rfl;have hp:=x.prev;have hn:=x.zbX;have hr:=x.ev.prev;have dP:=hz.e.prev;clear x
 by_cases h1:h.e.prev.length=1
 ·obtain⟨a,ha,_,hc⟩:=hr.2 0 (by omega);have Mh:=hr.1;rw[h1]at hp Mh;rw[ha]at hp;have tO:Hid (h.alone=eX (h.e.prev.getD 0 aN) h.cn):=by show _=_;rw[HT.out,h1];rfl
  generalize h.e.prev.getD 0 aN=u at hc tO;have hc':w.cell? a=some (.string u):=by
   have e0:a.add 0=a:=by obtain⟨b,o,s⟩:=a;unfold Addr.add;split<;>simp_all
   rw[e0]at hc;exact hc
  clear hr HT h1 dP;go_enter Tryz.func122,Tryz.ntmps122;go_wp2;go_quiet (fail);go_wp2;go_ret;exact⟨by rw[tO.out];rfl,Ju _ _⟩
 ·have tO:Hid (h.alone=false):=by show _=_;rw[HT.out];simp[h1]
  generalize h.e.prev.length=n at hp h1;have hd:((n:Int)==1)=false:=by simp;omega
  have X6:decide (n=1)=false:=decide_eq_false h1;have hd3:(n==1)=false:=by simp[h1]
  clear hr HT dP;go_enter Tryz.func122,Tryz.ntmps122;go_wp2;go_quiet (fail);go_wp2;go_ret;exact⟨by rw[tO.out];rfl,Ju _ _⟩
theorem Nw(x:iK w hb h p)(hz:NV h):Calls Tryz.prog 85 #[.pointer (some ⟨hb,0,none⟩)] w fun e w'=>e=fO h.jK/\Below w.heap.size w w':=by
 have HJ:Hid (h.jK=(h.own&&((h.alone&&eX h.ce.ag h.e.ag) || (!eX h.target wP&&((eX h.target jf || eX h.target kz) || eX (iT h.st fK ⟨#[]⟩ o6) BS))))):=rfl;have HX:Hid (∀X,Below w.heap.size w X->iK X hb h p):=fun X hX=>x.below hX;have D5:=Cs x;have HAl:Hid (∀X,Below w.heap.size w X->Calls Tryz.prog 122 #[.pointer (some ⟨hb,0,none⟩)] X fun e w'=>e=.returned (.bool h.alone)/\Below X.heap.size X w'):=fun X hX=>Nv (HX.out X hX) hz;have HTg:Hid (∀X,Below w.heap.size w X->Calls Tryz.prog 86 #[.pointer (some ⟨hb,0,none⟩)] X fun e w'=>e=.returned (.string h.target)/\Below X.heap.size X w'):=fun X hX=>rG (HX.out X hX) hz;have Rv:Hid (∀X,Below w.heap.size w X->Calls Tryz.prog 123 #[.slice p.ps h.st.length p.cs,.string fK,.string ⟨#[]⟩,.string o6] X fun e w'=>e=.returned (.string (iT h.st fK ⟨#[]⟩ o6))/\Below X.heap.size X w'):=fun X hX=>yR (HX.out X hX).st (fun _ h=>h) hz.st fK ⟨#[]⟩ o6;clear x;unfold eX at HJ;rw[yT,ni,lK,Fs]at HJ;generalize iT h.st fK ⟨#[]⟩ o6=rule at Rv HJ;generalize h.target=tg at HTg HJ;generalize h.own=bo at D5 HJ;generalize h.alone=ba at HAl HJ
 cases bo with
 | false=>
  have HT:Hid (h.jK=false):=by show _=_;rw[HJ.out];rfl
  clear HJ;go_enter Tryz.func85,Tryz.ntmps85;go_wp2_with(first
   | (go_at_call 59;refine D5.mono ?_;rintro e w1 ⟨rfl,aP⟩)
   | (go_at_call 54;refine(bB _ _).mono ?_;rintro e wn ⟨he,rfl⟩;replace he:e=_:=he;subst he))
  exact⟨rfl,by rw[HT.out],aP⟩
 | true=>
  go_enter Tryz.func85,Tryz.ntmps85
  go_upto_region 1 with(first
   | (go_at_call 59;refine D5.mono ?_;rintro e W ⟨rfl,aP⟩)
   | (go_at_call 54;refine(bB _ _).mono ?_;rintro e wn ⟨he,rfl⟩;replace he:e=_:=he;subst he))
  have KC:Hid (∀X,Below W.heap.size W X->iK X hb h p):=fun X hX=>HX.out X (ah aP hX);have Yk:Hid (∀X,Below W.heap.size W X->Calls Tryz.prog 122 #[.pointer (some ⟨hb,0,none⟩)] X fun e w'=>e=.returned (.bool ba)/\Below X.heap.size X w'):=fun X hX=>HAl.out X (ah aP hX);have zcM:Hid (∀X,Below W.heap.size W X->Calls Tryz.prog 86 #[.pointer (some ⟨hb,0,none⟩)] X fun e w'=>e=.returned (.string tg)/\Below X.heap.size X w'):=fun X hX=>HTg.out X (ah aP hX);have zcN:Hid (∀X,Below W.heap.size W X->Calls Tryz.prog 123 #[.slice p.ps h.st.length p.cs,.string fK,.string ⟨#[]⟩,.string o6] X fun e w'=>e=.returned (.string rule)/\Below X.heap.size X w'):=fun X hX=>Rv.out X (ah aP hX);have fQ:Hid (∀X,Below W.heap.size W X->Below w.heap.size w X):=fun X hX=>ah aP hX;clear HX HAl HTg Rv D5 aP;have HX:=KC;clear KC;refine aF (by kernel_rfl) (fun w'=>Below W.heap.size W w') ?_;change wpIn _ _ _ _ _ _ _ _ (World.drew _);have hD:Below W.heap.size W W.drew:=(Below.refl _ _).drew;generalize F4:(h.ce.ag.toList==h.e.ag.toList)=bc at HJ
  cases ba with
  | false=>
   refine aa (i:=0) (d:=some 7) rfl ?_;refine ak (i:=1) hD rfl ?_;intro K hK;go_simp;go_wp2_with(go_at_call 122;refine(Yk.out _ hD).mono ?_;rintro e w2 ⟨rfl,rH⟩);have gJ:Below W.heap.size W w2:=ah hD rH;refine aa (i:=2) (d:=some 9) rfl ?_;refine ae (i:=3) (d:=(some 10)) (v:=undef) (a':= ?aqa3) rfl rfl (by kernel_rfl) (by kernel_rfl) (by kernel_rfl) (fun _ _ _ h=>h) (Or.inr ⟨by rfl,rfl⟩) ?fqa3 ?_
   case fqa3=>(go_frame;rfl)
   refine ae (i:=4) (d:=(some 11)) (v:=undef) (a':= ?aqa4) rfl rfl (by kernel_rfl) (by kernel_rfl) (by kernel_rfl) (fun _ _ _ h=>h) (Or.inr ⟨by rfl,rfl⟩) ?fqa4 ?_
   case fqa4=>(go_frame;rfl)
   refine ae (i:=5) (d:=(some 12)) (v:=undef) (a':= ?aqa5) rfl rfl (by kernel_rfl) (by kernel_rfl) (by kernel_rfl) (fun _ _ _ h=>h) (Or.inr ⟨by rfl,rfl⟩) ?fqa5 ?_
   case fqa5=>(go_frame;rfl)
   refine ae (i:=6) (d:=(some 13)) (v:=undef) (a':= ?aqa6) rfl rfl (by kernel_rfl) (by kernel_rfl) (by kernel_rfl) (fun _ _ _ h=>h) (Or.inr ⟨by rfl,rfl⟩) ?fqa6 ?_
   case fqa6=>(go_frame;rfl)
   refine ae (i:=7) (d:=(some 14)) (v:=undef) (a':= ?aqa7) rfl rfl (by kernel_rfl) (by kernel_rfl) (by kernel_rfl) (fun _ _ _ h=>h) (Or.inr ⟨by rfl,rfl⟩) ?fqa7 ?_
   case fqa7=>(go_frame;rfl)
   refine ae (i:=8) (d:=(some 15)) (v:=undef) (a':= ?aqa8) rfl rfl (by kernel_rfl) (by kernel_rfl) (by kernel_rfl) (fun _ _ _ h=>h) (Or.inr ⟨by rfl,rfl⟩) ?fqa8 ?_
   case fqa8=>(go_frame;rfl)
   refine ae (i:=9) (d:=(some 16)) (v:=undef) (a':= ?aqa9) rfl rfl (by kernel_rfl) (by kernel_rfl) (by kernel_rfl) (fun _ _ _ h=>h) (Or.inr ⟨by rfl,rfl⟩) ?fqa9 ?_
   case fqa9=>(go_frame;rfl)
   refine ae (i:=10) (d:=(some 17)) (v:=undef) (a':= ?aqa10) rfl rfl (by kernel_rfl) (by kernel_rfl) (by kernel_rfl) (fun _ _ _ h=>h) (Or.inr ⟨by rfl,rfl⟩) ?fqa10 ?_
   case fqa10=>(go_frame;rfl)
   refine ae (i:=11) (d:=(some 18)) (v:=undef) (a':= ?aqa11) rfl rfl (by kernel_rfl) (by kernel_rfl) (by kernel_rfl) (fun _ _ _ h=>h) (Or.inr ⟨by rfl,rfl⟩) ?fqa11 ?_
   case fqa11=>(go_frame;rfl)
   refine ae (i:=12) (d:=(some 19)) (v:=undef) (a':= ?aqa12) rfl rfl (by kernel_rfl) (by kernel_rfl) (by kernel_rfl) (fun _ _ _ h=>h) (Or.inr ⟨by rfl,rfl⟩) ?fqa12 ?_
   case fqa12=>(go_frame;rfl)
   refine ae (i:=13) (d:=(some 20)) (v:=undef) (a':= ?aqa13) rfl rfl (by kernel_rfl) (by kernel_rfl) (by kernel_rfl) (fun _ _ _ h=>h) (Or.inr ⟨by rfl,rfl⟩) ?fqa13 ?_
   case fqa13=>(go_frame;rfl)
   refine ae (i:=14) (d:=(some 21)) (v:=undef) (a':= ?aqa14) rfl rfl (by kernel_rfl) (by kernel_rfl) (by kernel_rfl) (fun _ _ _ h=>h) (Or.inr ⟨by rfl,rfl⟩) ?fqa14 ?_
   case fqa14=>(go_frame;rfl)
   refine aa (i:=15) (d:=some 22) rfl ?_;refine ak (i:=16) gJ rfl ?_;intro K hK;go_simp;go_wp2_with(go_at_call 93;refine(fP _ _).mono ?_;rintro e w3 ⟨he,BF⟩;replace he:e=_:=he;subst he;have qi:Below w2.heap.size w2 w3:=BF ▸ Below.refl _ _);have yY:Below W.heap.size W w3:=ah gJ qi;refine aD yY (by kernel_rfl) ?_ _
   go_upto_region 3 with(go_at_call 86;refine(zcM.out _ yY).mono ?_;rintro e w4 ⟨rfl,dB⟩)
   have rY:=ah yY dB
   cases h3:(tg.toList== [98,97,110])with
   | true=>
    have HT:Hid (h.jK=false):=by show _=_;rw[HJ.out,h3];rfl
    clear HJ;go_wp2_with(go_at_call 54;refine(bB _ _).mono ?_;rintro e wn ⟨he,rfl⟩;replace he:e=_:=he;subst he);exact⟨rfl,by rw[HT.out],fQ.out _ rY⟩
   | false=>
    cases h4:(tg.toList== [106,111,105,110])with
    | true=>
     have HT:Hid (h.jK=true):=by show _=_;rw[HJ.out,h3,h4];rfl
     clear HJ;go_wp2_with(first| (go_at_call 54;refine(bB _ _).mono ?_;rintro e wn ⟨he,rfl⟩;replace he:e=_:=he;subst he)| (go_at_call 93;refine(fP _ _).mono ?_;rintro e wn ⟨he,rfl⟩;replace he:e=_:=he;subst he));exact⟨rfl,by rw[HT.out],fQ.out _ rY⟩
    | false=>
     cases h5:(tg.toList== [105,110,118,105,116,101])with
     | true=>
      have HT:Hid (h.jK=true):=by show _=_;rw[HJ.out,h3,h4,h5];rfl
      clear HJ;go_wp2_with(first| (go_at_call 54;refine(bB _ _).mono ?_;rintro e wn ⟨he,rfl⟩;replace he:e=_:=he;subst he)| (go_at_call 93;refine(fP _ _).mono ?_;rintro e wn ⟨he,rfl⟩;replace he:e=_:=he;subst he));exact⟨rfl,by rw[HT.out],fQ.out _ rY⟩
     | false=>
      have HT:Hid (h.jK=(rule.toList== [112,117,98,108,105,99])):=by show _=_;rw[HJ.out,h3,h4,h5];rfl
      clear HJ;have zs:=(HX.out w4 rY).state;have NY:=zcN.out w4 rY;go_wp2_with(first| (go_at_call 54;refine(bB _ _).mono ?_;rintro e wn ⟨he,rfl⟩;replace he:e=_:=he;subst he)| (go_at_call 93;refine(fP _ _).mono ?_;rintro e wn ⟨he,rfl⟩;replace he:e=_:=he;subst he)| (go_at_call 123;refine NY.mono ?_;rintro e w5 ⟨rfl,jB⟩)| (go_at_call 50;refine(dE _ _).mono ?_;rintro e wn ⟨rfl,rfl⟩));exact⟨rfl,by rw[HT.out],fQ.out _ (ah rY jB)⟩
  | true=>
   cases bc with
   | false=>
    refine aa (i:=0) (d:=some 7) rfl ?_;refine ak (i:=1) hD rfl ?_;intro K hK;go_simp;go_wp2_with(go_at_call 122;refine(Yk.out _ hD).mono ?_;rintro e w2 ⟨rfl,rH⟩);have gJ:Below W.heap.size W w2:=ah hD rH;refine aa (i:=2) (d:=some 9) rfl ?_;refine aa (i:=3) (d:=some 10) rfl ?_;refine aa (i:=4) (d:=some 11) rfl ?_;refine aa (i:=5) (d:=some 12) rfl ?_;refine aa (i:=6) (d:=some 13) rfl ?_;refine aa (i:=7) (d:=some 14) rfl ?_;refine az (i:=8) (d:=some 15) rfl (by(intro wq hq;have zf:=(HX.out wq hq).UR;go_simp;first| done| with_reducible rfl)) ?_;refine aa (i:=9) (d:=some 16) rfl ?_;refine aa (i:=10) (d:=some 17) rfl ?_;refine aa (i:=11) (d:=some 18) rfl ?_;refine aa (i:=12) (d:=some 19) rfl ?_;refine az (i:=13) (d:=some 20) rfl (by(intro wq hq;have zf:=(HX.out wq hq).ag;go_simp;first| done| with_reducible rfl)) ?_;refine aa (i:=14) (d:=some 21) rfl ?_;refine aa (i:=15) (d:=some 22) rfl ?_;refine ak (i:=16) gJ rfl ?_;intro K hK;go_simp;go_wp2_with(go_at_call 93;refine(fP _ _).mono ?_;rintro e w3 ⟨he,BF⟩;replace he:e=_:=he;subst he;have qi:Below w2.heap.size w2 w3:=BF ▸ Below.refl _ _);have yY:Below W.heap.size W w3:=ah gJ qi;refine aD yY (by kernel_rfl) ?_ _
    go_upto_region 3 with(go_at_call 86;refine(zcM.out _ yY).mono ?_;rintro e w4 ⟨rfl,dB⟩)
    have rY:=ah yY dB
    cases h3:(tg.toList== [98,97,110])with
    | true=>
     have HT:Hid (h.jK=false):=by show _=_;rw[HJ.out,h3];rfl
     clear HJ;go_wp2_with(go_at_call 54;refine(bB _ _).mono ?_;rintro e wn ⟨he,rfl⟩;replace he:e=_:=he;subst he);exact⟨rfl,by rw[HT.out],fQ.out _ rY⟩
    | false=>
     cases h4:(tg.toList== [106,111,105,110])with
     | true=>
      have HT:Hid (h.jK=true):=by show _=_;rw[HJ.out,h3,h4];rfl
      clear HJ;go_wp2_with(first| (go_at_call 54;refine(bB _ _).mono ?_;rintro e wn ⟨he,rfl⟩;replace he:e=_:=he;subst he)| (go_at_call 93;refine(fP _ _).mono ?_;rintro e wn ⟨he,rfl⟩;replace he:e=_:=he;subst he));exact⟨rfl,by rw[HT.out],fQ.out _ rY⟩
     | false=>
      cases h5:(tg.toList== [105,110,118,105,116,101])with
      | true=>
       have HT:Hid (h.jK=true):=by show _=_;rw[HJ.out,h3,h4,h5];rfl
       clear HJ;go_wp2_with(first| (go_at_call 54;refine(bB _ _).mono ?_;rintro e wn ⟨he,rfl⟩;replace he:e=_:=he;subst he)| (go_at_call 93;refine(fP _ _).mono ?_;rintro e wn ⟨he,rfl⟩;replace he:e=_:=he;subst he));exact⟨rfl,by rw[HT.out],fQ.out _ rY⟩
      | false=>
       have HT:Hid (h.jK=(rule.toList== [112,117,98,108,105,99])):=by show _=_;rw[HJ.out,h3,h4,h5];rfl
       clear HJ;have zs:=(HX.out w4 rY).state;have NY:=zcN.out w4 rY;go_wp2_with(first| (go_at_call 54;refine(bB _ _).mono ?_;rintro e wn ⟨he,rfl⟩;replace he:e=_:=he;subst he)| (go_at_call 93;refine(fP _ _).mono ?_;rintro e wn ⟨he,rfl⟩;replace he:e=_:=he;subst he)| (go_at_call 123;refine NY.mono ?_;rintro e w5 ⟨rfl,jB⟩)| (go_at_call 50;refine(dE _ _).mono ?_;rintro e wn ⟨rfl,rfl⟩));exact⟨rfl,by rw[HT.out],fQ.out _ (ah rY jB)⟩
   | true=>
    have HT:Hid (h.jK=true):=by show _=_;rw[HJ.out];rfl
    clear HJ;refine aa (i:=0) (d:=some 7) rfl ?_;refine ak (i:=1) hD rfl ?_;intro K hK;go_simp;go_wp2_with(go_at_call 122;refine(Yk.out _ hD).mono ?_;rintro e w2 ⟨rfl,rH⟩);have gJ:Below W.heap.size W w2:=ah hD rH;refine aa (i:=2) (d:=some 9) rfl ?_;refine aa (i:=3) (d:=some 10) rfl ?_;refine aa (i:=4) (d:=some 11) rfl ?_;refine aa (i:=5) (d:=some 12) rfl ?_;refine aa (i:=6) (d:=some 13) rfl ?_;refine aa (i:=7) (d:=some 14) rfl ?_;refine az (i:=8) (d:=some 15) rfl (by(intro wq hq;have zf:=(HX.out wq hq).UR;go_simp;first| done| with_reducible rfl)) ?_;refine aa (i:=9) (d:=some 16) rfl ?_;refine aa (i:=10) (d:=some 17) rfl ?_;refine aa (i:=11) (d:=some 18) rfl ?_;refine aa (i:=12) (d:=some 19) rfl ?_;refine az (i:=13) (d:=some 20) rfl (by(intro wq hq;have zf:=(HX.out wq hq).ag;go_simp;first| done| with_reducible rfl)) ?_;refine aa (i:=14) (d:=some 21) rfl ?_;refine aa (i:=15) (d:=some 22) rfl ?_;refine ak (i:=16) gJ rfl ?_;intro K hK;go_simp;go_wp2_with(go_at_call 93;refine(fP _ _).mono ?_;rintro e w3 ⟨he,BF⟩;replace he:e=_:=he;subst he;have qi:Below w2.heap.size w2 w3:=BF ▸ Below.refl _ _);exact⟨rfl,by rw[HT.out],fQ.out _ (BF ▸ ah hD rH)⟩
end
section
variable {w : World} {hb : Nat} {h : Hr} {p : Ph}
theorem JB(x:iK w hb h p)(hz:NV h):Calls Tryz.prog 87 #[.pointer (some ⟨hb,0,none⟩)] w fun e w'=>e=fO h.leaves/\Below w.heap.size w w':=by
 have HJ:Hid (h.leaves=if h.own then eX h.target jf || eX h.target kz else h.gD&&(!(eX h.target wP&&decide (h.s<h.l.wN))&&(decide (h.l.kX<=h.s)&&decide (h.t<h.s)))):=rfl;have zY:Hid (∀X,Below w.heap.size w X->iK X hb h p):=fun X hX=>x.below hX;have hTg:=rG x hz;have HOw:Hid (∀X,Below w.heap.size w X->Calls Tryz.prog 59 #[.pointer (some ⟨hb,0,none⟩)] X fun e w'=>e=.returned (.bool h.own)/\Below X.heap.size X w'):=fun X hX=>Cs (zY.out X hX);have QK:Hid (∀X,Below w.heap.size w X->Calls Tryz.prog 55 #[.pointer (some ⟨hb,0,none⟩)] X fun e w'=>e=.returned (.bool h.gD)/\Below X.heap.size X w'):=fun X hX=>rF (zY.out X hX) hz;have U8:Hid (∀X,Below w.heap.size w X->Calls Tryz.prog 56 #[.pointer (some ⟨hb,0,none⟩)] X fun e w'=>e=.returned (.int .i64 h.s)/\Below X.heap.size X w'):=fun X hX=>vw (zY.out X hX) hz;have Yr:Hid (∀X,Below w.heap.size w X->Calls Tryz.prog 88 #[.pointer (some ⟨hb,0,none⟩)] X fun e w'=>e=.returned (.int .i64 h.t)/\Below X.heap.size X w'):=fun X hX=>Bg (zY.out X hX) hz;clear x;unfold eX at HJ;rw[yT,ni,lK]at HJ;generalize h.target=tg at hTg HJ;generalize h.own=bo at HOw HJ;generalize h.gD=bj at QK HJ;generalize h.s=S at U8 HJ;generalize h.t=T at Yr HJ;go_enter Tryz.func87,Tryz.ntmps87
 go_upto_region 1 with(go_at_call 86;refine hTg.mono ?_;rintro e w1 ⟨rfl,aP⟩)
 have D5:=HOw.out w1 aP
 cases bo with
 | true=>
  have HT:Hid (h.leaves=((tg.toList== [106,111,105,110]) || (tg.toList== [105,110,118,105,116,101]))):=by show _=_;rw[HJ.out,if_pos rfl]
  clear HJ
  cases h4:(tg.toList== [106,111,105,110])with
  | true=>
   go_wp2_with(first| (go_at_call 59;refine D5.mono ?_;rintro e w2 ⟨rfl,aT⟩)| (go_at_call 50;refine(dE _ _).mono ?_;rintro e wn ⟨rfl,rfl⟩));exact⟨rfl,by rw[HT.out,h4];rfl,ah aP aT⟩
  | false=>
   go_wp2_with(first| (go_at_call 59;refine D5.mono ?_;rintro e w2 ⟨rfl,aT⟩)| (go_at_call 50;refine(dE _ _).mono ?_;rintro e wn ⟨rfl,rfl⟩));exact⟨rfl,by rw[HT.out,h4];rfl,ah aP aT⟩
 | false=>
  have HT:Hid (h.leaves=(bj&&(!((tg.toList== [98,97,110])&&decide (S<h.l.wN))&&(decide (h.l.kX<=S)&&decide (T<S))))):=by show _=_;rw[HJ.out,if_neg (by decide)]
  clear HJ
  go_upto_region 3 with(go_at_call 59;refine D5.mono ?_;rintro e w2 ⟨rfl,aT⟩)
  have jm:=ah aP aT;have TL:=QK.out w2 jm
  cases bj with
  | false=>
   go_wp2_with(first| (go_at_call 55;refine TL.mono ?_;rintro e w3 ⟨rfl,dA⟩)| (go_at_call 54;refine(bB _ _).mono ?_;rintro e wn ⟨he,rfl⟩;replace he:e=_:=he;subst he));exact⟨rfl,by rw[HT.out];rfl,ah jm dA⟩
  | true=>
   go_upto_region 4 with(first| (go_at_call 55;refine TL.mono ?_;rintro e W ⟨rfl,dA⟩)| (go_at_call 54;refine(bB _ _).mono ?_;rintro e wn ⟨he,rfl⟩;replace he:e=_:=he;subst he))
   have p_:=ah jm dA;have HX:Hid (∀X,Below W.heap.size W X->iK X hb h p):=fun X hX=>zY.out X (ah p_ hX);have HS:Hid (∀X,Below W.heap.size W X->Calls Tryz.prog 56 #[.pointer (some ⟨hb,0,none⟩)] X fun e w'=>e=.returned (.int .i64 S)/\Below X.heap.size X w'):=fun X hX=>U8.out X (ah p_ hX);have HTT:Hid (∀X,Below W.heap.size W X->Calls Tryz.prog 88 #[.pointer (some ⟨hb,0,none⟩)] X fun e w'=>e=.returned (.int .i64 T)/\Below X.heap.size X w'):=fun X hX=>Yr.out X (ah p_ hX);have fQ:Hid (∀X,Below W.heap.size W X->Below w.heap.size w X):=fun X hX=>ah p_ hX;clear zY HOw QK U8 Yr D5 TL hTg aP aT jm dA p_;refine aF (by kernel_rfl) (fun w'=>Below W.heap.size W w') ?_;change wpIn _ _ _ _ _ _ _ _ (World.drew _);have hD:Below W.heap.size W W.drew:=(Below.refl _ _).drew
   cases h3:(tg.toList== [98,97,110])with
   | false=>
    refine aa (i:=0) (d:=some 18) rfl ?_;refine aa (i:=1) (d:=some 19) rfl ?_;refine aa (i:=2) (d:=some 20) rfl ?_;refine ae (i:=3) (d:=(some 21)) (v:=undef) (a':= ?aqa3) rfl rfl (by kernel_rfl) (by kernel_rfl) (by kernel_rfl) (fun _ _ _ h=>h) (Or.inr ⟨by rfl,rfl⟩) ?fqa3 ?_
    case fqa3=>(go_frame;rfl)
    refine ae (i:=4) (d:=(some 22)) (v:=undef) (a':= ?aqa4) rfl rfl (by kernel_rfl) (by kernel_rfl) (by kernel_rfl) (fun _ _ _ h=>h) (Or.inr ⟨by rfl,rfl⟩) ?fqa4 ?_
    case fqa4=>(go_frame;rfl)
    refine ae (i:=5) (d:=(some 23)) (v:=undef) (a':= ?aqa5) rfl rfl (by kernel_rfl) (by kernel_rfl) (by kernel_rfl) (fun _ _ _ h=>h) (Or.inr ⟨by rfl,rfl⟩) ?fqa5 ?_
    case fqa5=>(go_frame;rfl)
    refine ae (i:=6) (d:=(some 24)) (v:=undef) (a':= ?aqa6) rfl rfl (by kernel_rfl) (by kernel_rfl) (by kernel_rfl) (fun _ _ _ h=>h) (Or.inr ⟨by rfl,rfl⟩) ?fqa6 ?_
    case fqa6=>(go_frame;rfl)
    refine ae (i:=7) (d:=(some 25)) (v:=undef) (a':= ?aqa7) rfl rfl (by kernel_rfl) (by kernel_rfl) (by kernel_rfl) (fun _ _ _ h=>h) (Or.inr ⟨by rfl,rfl⟩) ?fqa7 ?_
    case fqa7=>(go_frame;rfl)
    refine ae (i:=8) (d:=(some 26)) (v:=undef) (a':= ?aqa8) rfl rfl (by kernel_rfl) (by kernel_rfl) (by kernel_rfl) (fun _ _ _ h=>h) (Or.inr ⟨by rfl,rfl⟩) ?fqa8 ?_
    case fqa8=>(go_frame;rfl)
    refine ae (i:=9) (d:=(some 27)) (v:=undef) (a':= ?aqa9) rfl rfl (by kernel_rfl) (by kernel_rfl) (by kernel_rfl) (fun _ _ _ h=>h) (Or.inr ⟨by rfl,rfl⟩) ?fqa9 ?_
    case fqa9=>(go_frame;rfl)
    refine ae (i:=10) (d:=(some 28)) (v:=undef) (a':= ?aqa10) rfl rfl (by kernel_rfl) (by kernel_rfl) (by kernel_rfl) (fun _ _ _ h=>h) (Or.inr ⟨by rfl,rfl⟩) ?fqa10 ?_
    case fqa10=>(go_frame;rfl)
    refine aa (i:=11) (d:=some 29) rfl ?_;refine ak (i:=12) hD rfl ?_;intro K hK;go_simp;go_wp2_with(go_at_call 54;refine(bB _ _).mono ?_;rintro e w5 ⟨he,xU⟩;replace he:e=_:=he;subst he;have iJ:Below W.drew.heap.size W.drew w5:=xU ▸ Below.refl _ _);have zcU:Below W.heap.size W w5:=ah hD iJ;refine aD zcU (by kernel_rfl) ?_ _
    go_upto_region 5 with fail
    refine aF (by kernel_rfl) (fun w'=>Below W.heap.size W w') ?_;change wpIn _ _ _ _ _ _ _ _ (World.drew _)
    replace hD:=(zcU).drew
    cases h6:decide (h.l.kX<=S)with
    | false=>
     refine aa (i:=0) (d:=some 31) rfl ?_;refine aa (i:=2) (d:=some 33) rfl ?_;refine aa (i:=3) (d:=some 34) rfl ?_;refine aa (i:=4) (d:=some 35) rfl ?_;refine aa (i:=5) (d:=some 36) rfl ?_;refine az (i:=6) (d:=some 37) rfl (by(intro wq hq;have zf:=(HX.out wq hq).kX;go_simp;first| done| with_reducible rfl)) ?_;refine ak (i:=1) hD rfl ?_;intro K hK;go_simp;go_wp2_with(go_at_call 56;refine(HS.out _ hD).mono ?_;rintro e w6 ⟨rfl,rJ⟩);have gJ:Below W.heap.size W w6:=ah hD rJ;refine aa (i:=7) (d:=some 38) rfl ?_;refine aa (i:=8) (d:=some 39) rfl ?_;refine ae (i:=9) (d:=(some 40)) (v:=undef) (a':= ?aqff9) rfl rfl (by kernel_rfl) (by kernel_rfl) (by kernel_rfl) (fun _ _ _ h=>h) (Or.inr ⟨by rfl,rfl⟩) ?fqff9 ?_
     case fqff9=>(go_frame;rfl)
     refine ae (i:=10) (d:=(some 41)) (v:=undef) (a':= ?aqff10) rfl rfl (by kernel_rfl) (by kernel_rfl) (by kernel_rfl) (fun _ _ _ h=>h) (Or.inr ⟨by rfl,rfl⟩) ?fqff10 ?_
     case fqff10=>(go_frame;rfl)
     refine ae (i:=11) (d:=(some 42)) (v:=undef) (a':= ?aqff11) rfl rfl (by kernel_rfl) (by kernel_rfl) (by kernel_rfl) (fun _ _ _ h=>h) (Or.inr ⟨by rfl,rfl⟩) ?fqff11 ?_
     case fqff11=>(go_frame;rfl)
     refine ae (i:=12) (d:=(some 43)) (v:=undef) (a':= ?aqff12) rfl rfl (by kernel_rfl) (by kernel_rfl) (by kernel_rfl) (fun _ _ _ h=>h) (Or.inr ⟨by rfl,rfl⟩) ?fqff12 ?_
     case fqff12=>(go_frame;rfl)
     refine ae (i:=13) (d:=(some 44)) (v:=undef) (a':= ?aqff13) rfl rfl (by kernel_rfl) (by kernel_rfl) (by kernel_rfl) (fun _ _ _ h=>h) (Or.inr ⟨by rfl,rfl⟩) ?fqff13 ?_
     case fqff13=>(go_frame;rfl)
     refine aa (i:=14) (d:=some 45) rfl ?_;refine ak (i:=15) gJ rfl ?_;intro K hK;go_simp;go_wp2_with(go_at_call 50;refine(dE _ _).mono ?_;rintro e w9 ⟨rfl,wE⟩);exact⟨rfl,by rw[HT.out,h3];simp[h6],fQ.out _ (wE ▸ gJ)⟩
    | true=>
     refine aa (i:=0) (d:=some 31) rfl ?_;refine aa (i:=2) (d:=some 33) rfl ?_;refine aa (i:=3) (d:=some 34) rfl ?_;refine aa (i:=4) (d:=some 35) rfl ?_;refine aa (i:=5) (d:=some 36) rfl ?_;refine az (i:=6) (d:=some 37) rfl (by(intro wq hq;have zf:=(HX.out wq hq).kX;go_simp;first| done| with_reducible rfl)) ?_;refine ak (i:=1) hD rfl ?_;intro K hK;go_simp;go_wp2_with(go_at_call 56;refine(HS.out _ hD).mono ?_;rintro e w6 ⟨rfl,rJ⟩);have gJ:Below W.heap.size W w6:=ah hD rJ;refine aa (i:=7) (d:=some 38) rfl ?_;refine aa (i:=8) (d:=some 39) rfl ?_;refine aa (i:=9) (d:=some 40) rfl ?_;refine aa (i:=11) (d:=some 42) rfl ?_;refine ak (i:=10) gJ rfl ?_;intro K hK;go_simp;go_wp2_with(go_at_call 56;refine(HS.out _ gJ).mono ?_;rintro e w7 ⟨rfl,rM⟩);have nt:Below W.heap.size W w7:=ah gJ rM;refine ak (i:=12) nt rfl ?_;intro K hK;go_simp;go_wp2_with(go_at_call 88;refine(HTT.out _ nt).mono ?_;rintro e w8 ⟨rfl,pn⟩);have lL:Below W.heap.size W w8:=ah nt pn;refine aa (i:=13) (d:=some 44) rfl ?_;refine aa (i:=14) (d:=some 45) rfl ?_;refine ak (i:=15) lL rfl ?_;intro K hK;go_simp;go_wp2_with(go_at_call 50;refine(dE _ _).mono ?_;rintro e w9 ⟨rfl,wE⟩);exact⟨rfl,by rw[HT.out,h3];simp[h6],fQ.out _ (wE ▸ lL)⟩
   | true=>
    cases h5:decide (S<h.l.wN)with
    | false=>
     refine aa (i:=0) (d:=some 18) rfl ?_;refine aa (i:=1) (d:=some 19) rfl ?_;refine aa (i:=2) (d:=some 20) rfl ?_;refine aa (i:=3) (d:=some 21) rfl ?_;refine aa (i:=5) (d:=some 23) rfl ?_;refine aa (i:=6) (d:=some 24) rfl ?_;refine aa (i:=7) (d:=some 25) rfl ?_;refine aa (i:=8) (d:=some 26) rfl ?_;refine az (i:=9) (d:=some 27) rfl (by(intro wq hq;have zf:=(HX.out wq hq).wN;go_simp;first| done| with_reducible rfl)) ?_;refine ak (i:=4) hD rfl ?_;intro K hK;go_simp;go_wp2_with(go_at_call 56;refine(HS.out _ hD).mono ?_;rintro e w4 ⟨rfl,h_⟩);have Fp:Below W.heap.size W w4:=ah hD h_;refine aa (i:=10) (d:=some 28) rfl ?_;refine aa (i:=11) (d:=some 29) rfl ?_;refine ak (i:=12) Fp rfl ?_;intro K hK;go_simp;go_wp2_with(go_at_call 54;refine(bB _ _).mono ?_;rintro e w5 ⟨he,xU⟩;replace he:e=_:=he;subst he;have iJ:Below w4.heap.size w4 w5:=xU ▸ Below.refl _ _);have U9:Below W.heap.size W w5:=ah Fp iJ;refine aD U9 (by kernel_rfl) ?_ _
     go_upto_region 5 with fail
     refine aF (by kernel_rfl) (fun w'=>Below W.heap.size W w') ?_;change wpIn _ _ _ _ _ _ _ _ (World.drew _)
     replace hD:=(U9).drew
     cases h6:decide (h.l.kX<=S)with
     | false=>
      refine aa (i:=0) (d:=some 31) rfl ?_;refine aa (i:=2) (d:=some 33) rfl ?_;refine aa (i:=3) (d:=some 34) rfl ?_;refine aa (i:=4) (d:=some 35) rfl ?_;refine aa (i:=5) (d:=some 36) rfl ?_;refine az (i:=6) (d:=some 37) rfl (by(intro wq hq;have zf:=(HX.out wq hq).kX;go_simp;first| done| with_reducible rfl)) ?_;refine ak (i:=1) hD rfl ?_;intro K hK;go_simp;go_wp2_with(go_at_call 56;refine(HS.out _ hD).mono ?_;rintro e w6 ⟨rfl,rJ⟩);have gJ:Below W.heap.size W w6:=ah hD rJ;refine aa (i:=7) (d:=some 38) rfl ?_;refine aa (i:=8) (d:=some 39) rfl ?_;refine ae (i:=9) (d:=(some 40)) (v:=undef) (a':= ?aqgf9) rfl rfl (by kernel_rfl) (by kernel_rfl) (by kernel_rfl) (fun _ _ _ h=>h) (Or.inr ⟨by rfl,rfl⟩) ?fqgf9 ?_
      case fqgf9=>(go_frame;rfl)
      refine ae (i:=10) (d:=(some 41)) (v:=undef) (a':= ?aqgf10) rfl rfl (by kernel_rfl) (by kernel_rfl) (by kernel_rfl) (fun _ _ _ h=>h) (Or.inr ⟨by rfl,rfl⟩) ?fqgf10 ?_
      case fqgf10=>(go_frame;rfl)
      refine ae (i:=11) (d:=(some 42)) (v:=undef) (a':= ?aqgf11) rfl rfl (by kernel_rfl) (by kernel_rfl) (by kernel_rfl) (fun _ _ _ h=>h) (Or.inr ⟨by rfl,rfl⟩) ?fqgf11 ?_
      case fqgf11=>(go_frame;rfl)
      refine ae (i:=12) (d:=(some 43)) (v:=undef) (a':= ?aqgf12) rfl rfl (by kernel_rfl) (by kernel_rfl) (by kernel_rfl) (fun _ _ _ h=>h) (Or.inr ⟨by rfl,rfl⟩) ?fqgf12 ?_
      case fqgf12=>(go_frame;rfl)
      refine ae (i:=13) (d:=(some 44)) (v:=undef) (a':= ?aqgf13) rfl rfl (by kernel_rfl) (by kernel_rfl) (by kernel_rfl) (fun _ _ _ h=>h) (Or.inr ⟨by rfl,rfl⟩) ?fqgf13 ?_
      case fqgf13=>(go_frame;rfl)
      refine aa (i:=14) (d:=some 45) rfl ?_;refine ak (i:=15) gJ rfl ?_;intro K hK;go_simp;go_wp2_with(go_at_call 50;refine(dE _ _).mono ?_;rintro e w9 ⟨rfl,wE⟩);exact⟨rfl,by rw[HT.out,h3,h5];simp[h6],fQ.out _ (wE ▸ gJ)⟩
     | true=>
      refine aa (i:=0) (d:=some 31) rfl ?_;refine aa (i:=2) (d:=some 33) rfl ?_;refine aa (i:=3) (d:=some 34) rfl ?_;refine aa (i:=4) (d:=some 35) rfl ?_;refine aa (i:=5) (d:=some 36) rfl ?_;refine az (i:=6) (d:=some 37) rfl (by(intro wq hq;have zf:=(HX.out wq hq).kX;go_simp;first| done| with_reducible rfl)) ?_;refine ak (i:=1) hD rfl ?_;intro K hK;go_simp;go_wp2_with(go_at_call 56;refine(HS.out _ hD).mono ?_;rintro e w6 ⟨rfl,rJ⟩);have gJ:Below W.heap.size W w6:=ah hD rJ;refine aa (i:=7) (d:=some 38) rfl ?_;refine aa (i:=8) (d:=some 39) rfl ?_;refine aa (i:=9) (d:=some 40) rfl ?_;refine aa (i:=11) (d:=some 42) rfl ?_;refine ak (i:=10) gJ rfl ?_;intro K hK;go_simp;go_wp2_with(go_at_call 56;refine(HS.out _ gJ).mono ?_;rintro e w7 ⟨rfl,rM⟩);have nt:Below W.heap.size W w7:=ah gJ rM;refine ak (i:=12) nt rfl ?_;intro K hK;go_simp;go_wp2_with(go_at_call 88;refine(HTT.out _ nt).mono ?_;rintro e w8 ⟨rfl,pn⟩);have lL:Below W.heap.size W w8:=ah nt pn;refine aa (i:=13) (d:=some 44) rfl ?_;refine aa (i:=14) (d:=some 45) rfl ?_;refine ak (i:=15) lL rfl ?_;intro K hK;go_simp;go_wp2_with(go_at_call 50;refine(dE _ _).mono ?_;rintro e w9 ⟨rfl,wE⟩);exact⟨rfl,by rw[HT.out,h3,h5];simp[h6],fQ.out _ (wE ▸ lL)⟩
    | true=>
     refine aa (i:=0) (d:=some 18) rfl ?_;refine aa (i:=1) (d:=some 19) rfl ?_;refine aa (i:=2) (d:=some 20) rfl ?_;refine aa (i:=3) (d:=some 21) rfl ?_;refine aa (i:=5) (d:=some 23) rfl ?_;refine aa (i:=6) (d:=some 24) rfl ?_;refine aa (i:=7) (d:=some 25) rfl ?_;refine aa (i:=8) (d:=some 26) rfl ?_;refine az (i:=9) (d:=some 27) rfl (by(intro wq hq;have zf:=(HX.out wq hq).wN;go_simp;first| done| with_reducible rfl)) ?_;refine ak (i:=4) hD rfl ?_;intro K hK;go_simp;go_wp2_with(go_at_call 56;refine(HS.out _ hD).mono ?_;rintro e w4 ⟨rfl,h_⟩);have Fp:Below W.heap.size W w4:=ah hD h_;refine aa (i:=10) (d:=some 28) rfl ?_;refine aa (i:=11) (d:=some 29) rfl ?_;refine ak (i:=12) Fp rfl ?_;intro K hK;go_simp;go_wp2_with(go_at_call 54;refine(bB _ _).mono ?_;rintro e w5 ⟨he,xU⟩;replace he:e=_:=he;subst he;have iJ:Below w4.heap.size w4 w5:=xU ▸ Below.refl _ _);exact⟨rfl,by rw[HT.out,h3,h5];rfl,fQ.out _ (xU ▸ ah hD h_)⟩
end
end Go.Proofs.YtldegjjaknelgaaGreatDoor

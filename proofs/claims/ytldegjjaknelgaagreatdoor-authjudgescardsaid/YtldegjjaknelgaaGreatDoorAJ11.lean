/- A part. -/
import Derived.Test.YtldegjjaknelgaaGreatDoorAJ10
import Derived.Laws.OwnMore
set_option maxRecDepth 100000
set_option maxHeartbeats 64000000
namespace Go.Proofs.YtldegjjaknelgaaGreatDoor
open Go.RowKit Go.Maps Go.Shelf
section
attribute [local go_sem] Oper.semAt_some
theorem FK(l:Lv):vU (nums l):=by
 refine⟨by simp[nums],fun p hp=> ?_⟩;simp only[nums,List.mem_cons,List.not_mem_nil,or_false]at hp
 rcases hp with rfl| rfl| rfl| rfl| rfl| rfl| rfl<;>simp[ByteArray.size]
theorem mJ{w:World}(o1 o2:Obj):((w.alloc o1).alloc o2).heap[w.heap.size]?=some o1/\((w.alloc o1).alloc o2).heap[w.heap.size+1]?=some o2:=by
 refine⟨(Below.heap_alloc _ _ _ (by simp)).trans (bz _), ?_⟩;have:=bz (w:=w.alloc o1) o2;rw[World.size_alloc]at this;exact this
theorem Ch{P:Program}{c:Code}{K:Act->World->Prop}{Q:Exit->Act->World->Prop}{a:Act}{w:World}(h:c.wp P (Exit.then K (fun _ _ _=>False)) a w):c.wp P (Exit.then K Q) a w:=
 wp_mono h fun e _ _ h=>by cases e<;>first| exact h| exact h.elim
theorem jL{fn:Func}{tmps:Array Value}{rt:Tmp}{R:Nat}{v:Bool}{w:World}(hf:fn.results=#[.cell rt 4])(ht:tmps.getD rt undef=.pointer (some ⟨R,0,none⟩)):
    ∀(Ds:List Nat) (W:World),Ds.Nodup->(∀D∈Ds,W.heap[D]?=some (.deferred (some [])))->(∀D∈Ds,w.heap.size<=D)->W.cell? ⟨R,0,none⟩=some (.bool v)->Below w.heap.size w W→
     LeavesInM Fence.wide 4 Tryz.prog fn tmps (fun e w'=>e=.returned (.bool v)/\Below w.heap.size w w') (Ds.map fun D=>{target:=.collected D,args:=#[]}) .returning W
 | [],W,_,_,_,hc,hB=>by
  refine⟨.bool v,gY hf tmps Tryz.prog W ht ?_,rfl,hB⟩;simp[loadVar,go_sem,hc]
 | D::r,W,hn,hK,hD,hc,hB=>by
  have hKD:=hK D (by simp);rw[List.nodup_cons]at hn;refine⟨by simp,.inl ⟨D,W.putObj D (.deferred none),rfl,run_takeDeferred hKD, ?_⟩⟩;refine jL hf ht r _ hn.2 (fun D' h'=>(World.putObj_heap_other (fun e=>hn.1 (by first| (rw[e];exact h')| (rw[<-e];exact h')))).trans (hK D' (by simp[h']))) (fun D' h'=>hD D' (by simp[h'])) ?_ ?_
  ·exact cell_kept hc (grownBy_putObj' _ D (.deferred none)) (fun r e=>by cases e;exact⟨_,hKD,rfl⟩)
  ·exact hB.trans (belowK_b (w:=w) (Nat.le_refl _) W D _ _ (hD D (by simp)) hKD rfl rfl)
theorem Za{O:Nat->Prop}{w:World}{a b:Lv}{pa pb:Pl}(ha:qV O w a pa)(hb:qV O w b pb)(hO:∀k,O k->k<w.heap.size)(uz:zy a)(xC:zy b)(u:ByteArray):
    Calls Tryz.prog 94 #[fA a pa,fA b pb,.string u] w fun e w'=>e=.returned (.bool (Bb a b u))/\Below w.heap.size w w':=by
 refine callsIn_wide.1 (callsIn_of_wp_marks (n:=4) Tryz.func94 rfl trivial (wpIn_wide.2 ?_) rfl);obtain⟨W0,cO⟩:∃W0,W0=(((w.alloc (.cells (aG a pa).toArray 47)).alloc (.cells (aG b pb).toArray 47)).alloc (.cells #[.string u] 9)).alloc (.cells #[.bool false] 4):=⟨_,rfl⟩;have cK:Below w.heap.size w W0:=by rw[cO];exact((((Below.refl _ _).alloc (Nat.le_refl _) _).alloc (by simp) _).alloc (by simp;omega) _).alloc (by simp;omega) _
 have Zb:W0.heap.size=w.heap.size+4:=by rw[cO];simp
 have k23:=mJ (w:=(w.alloc (.cells (aG a pa).toArray 47)).alloc (.cells (aG b pb).toArray 47)) (.cells #[.string u] 9) (.cells #[.bool false] 4);have OO:=mJ (w:=w) (.cells (aG a pa).toArray 47) (.cells (aG b pb).toArray 47);rw[<-cO]at k23;simp only[World.size_alloc]at k23;have k0:W0.heap[w.heap.size]?=some (.cells (aG a pa).toArray 47 (0,0)):=by
  rw[cO,Below.heap_alloc _ _ _ (by simp only[World.size_alloc];omega),Below.heap_alloc _ _ _ (by simp only[World.size_alloc];omega)];exact OO.1
 have k1:W0.heap[w.heap.size+1]?=some (.cells (aG b pb).toArray 47 (0,0)):=by
  rw[cO,Below.heap_alloc _ _ _ (by simp only[World.size_alloc];omega),Below.heap_alloc _ _ _ (by simp only[World.size_alloc];omega)];exact OO.2
 obtain⟨k2,k3⟩:=k23;have hU:=C_ (ha.below hO cK) (fun k hk=>Nat.lt_of_lt_of_le (hO k hk) cK.size) uz u;have oQ:Hid (Bb a b u=(quiet (iw.gJ (pY a u)) (nums a) (nums b)&&(quiet (iw.gJ (pY a u)) a.dQ b.dQ&&quiet (iw.bad u (pY a u)) a.dP b.dP))):=rfl;generalize Bb a b u=MAY at oQ ⊢;generalize pY a u=s at hU oQ;have Xq:Hid (∀X:World,Calls Tryz.prog 125 #[fA a pa] X fun e w'=>(∃b,e=.returned (.slice (some ⟨b,0,none⟩) 7 7)/\X.heap.size<=b/\b<w'.heap.size/\ib (fun k=>k=b) w' (some ⟨b,0,none⟩) 7 (nums a))/\Below X.heap.size X w'):=fun X=>zC;have Qb:Hid (∀X:World,Calls Tryz.prog 125 #[fA b pb] X fun e w'=>(∃b',e=.returned (.slice (some ⟨b',0,none⟩) 7 7)/\X.heap.size<=b'/\b'<w'.heap.size/\ib (fun k=>k=b') w' (some ⟨b',0,none⟩) 7 (nums b))/\Below X.heap.size X w'):=fun X=>zC;have HSN:Hid (vU (nums a)/\vU (nums b)/\(nums a).length=7/\(nums b).length=7):=⟨FK a,FK b,rfl,rfl⟩;have Rv:Hid (qV O w a pa/\qV O w b pb/\zy a/\zy b):=⟨ha,hb,uz,xC⟩;have HK:Hid (W0.heap[w.heap.size]?=some (.cells (aG a pa).toArray 47 (0,0))/\W0.heap[w.heap.size+1]?=some (.cells (aG b pb).toArray 47 (0,0))/\W0.heap[w.heap.size+2]?=some (.cells #[.string u] 9 (0,0))/\W0.heap[w.heap.size+3]?=some (.cells #[.bool false] 4 (0,0))):=⟨k0,k1,k2,k3⟩;generalize nums a=NA at oQ Xq HSN;generalize nums b=NB at oQ Qb HSN;obtain⟨nN,h_,dA,fM,state,events,iB,us,ty⟩:=a;obtain⟨pu,cu,pt,ct⟩:=pa;obtain⟨Zc,RD,Dj,Dk,JN,Dl,JO,us',ty'⟩:=b;obtain⟨pu',cu',pt',ct'⟩:=pb;clear ha hb uz xC k0 k1 k2 k3 OO;simp only[fA,aG]at cO hU HK Xq Qb ⊢;simp only[Tryz.ntmps94,List.size_toArray,List.length_cons,List.length_nil,Nat.reduceAdd,Nat.reduceSub,Array.replicate_succ,Array.replicate_zero,List.push_toArray,List.append_toArray,List.nil_append,List.cons_append]
 go_upto_region 1 with fail
 rw[<-cO];obtain⟨q0,q1,q2,q3⟩:=HK.out;have c0:=ai q0 0 _ rfl;have c1:=ai q0 1 _ rfl;have c2:=ai q0 2 _ rfl;have c3:=ai q0 3 _ rfl;have c4:=ai q0 4 _ rfl;have c5:=ai q0 5 _ rfl;have c6:=ai q0 6 _ rfl;have c7:=ai q0 7 _ rfl;have c8:=ai q0 8 _ rfl;have d0:=ai q2 0 _ rfl;clear q0 q1 q2 q3 cO
 go_upto_region 2 with(go_at_call 90;refine hU.mono ?_;rintro e w1 ⟨rfl,aL⟩)
 clear c0 c1 c2 c3 c4 c5 c6 c7 c8 d0 hU;obtain⟨W2,Ud⟩:∃W2,W2=w1.alloc (.cells #[.int .i64 s] 2):=⟨_,rfl⟩;rw[<-Ud];have aY:Below W0.heap.size W0 W2:=by rw[Ud];exact ag aL ((Below.refl _ _).alloc (Nat.le_refl _) _)
 have k7:W2.heap[w1.heap.size]?=some (.cells #[.int .i64 s] 2 (0,0)):=by rw[Ud];exact bz _
 have Y7:=aY.size;have Xn:=aL.size;have hs7:=aP k7;have Xk:Hid (∀X,Below W2.heap.size W2 X->X.heap[w.heap.size]?=some (.cells #[.int .i64 nN,.int .i64 h_,.int .i64 dA,.int .i64 fM,.int .i64 state,.int .i64 events,.int .i64 iB,.slice pu us.length cu,.slice pt ty.length ct] 47 (0,0))):=fun X hX=>((hX.block _ (by omega)).trans (aY.block _ (by omega))).trans HK.out.1;have pq:Hid (∀X,Below W2.heap.size W2 X->X.heap[w.heap.size+1]?=some (.cells #[.int .i64 Zc,.int .i64 RD,.int .i64 Dj,.int .i64 Dk,.int .i64 JN,.int .i64 Dl,.int .i64 JO,.slice pu' us'.length cu',.slice pt' ty'.length ct'] 47 (0,0))):=fun X hX=>((hX.block _ (by omega)).trans (aY.block _ (by omega))).trans HK.out.2.1;have zt:Hid (∀X,Below W2.heap.size W2 X->X.heap[w.heap.size+1+1]?=some (.cells #[.string u] 9 (0,0))):=fun X hX=>((hX.block _ (by omega)).trans (aY.block _ (by omega))).trans HK.out.2.2.1;have Vu:Hid (∀X,Below W2.heap.size W2 X->X.heap[w.heap.size+1+1+1]?=some (.cells #[.bool false] 4 (0,0))):=fun X hX=>((hX.block _ (by omega)).trans (aY.block _ (by omega))).trans HK.out.2.2.2;have HC7:Hid (∀X,Below W2.heap.size W2 X->X.heap[w1.heap.size]?=some (.cells #[.int .i64 s] 2 (0,0))):=fun X hX=>(hX.block _ hs7).trans k7;have bX:Hid (Below w.heap.size w W2):=ag cK aY;clear Ud k7 HK;refine Ch ?_;refine aI (by kernel_rfl) (fun w'=>Below W2.heap.size W2 w') ?_;change wpIn _ _ _ _ _ _ _ _ (World.drew _);have hD:Below W2.heap.size W2 W2.drew:=(Below.refl _ _).drew;refine aC (i:=0) (d:=some 14) rfl (by(intro wq hq;have zz:=Xk.out wq hq;have z0:=ai zz 0 _ rfl;have z1:=ai zz 1 _ rfl;have z2:=ai zz 2 _ rfl;have z3:=ai zz 3 _ rfl;have z4:=ai zz 4 _ rfl;have z5:=ai zz 5 _ rfl;have z6:=ai zz 6 _ rfl;have z7:=ai zz 7 _ rfl;have z8:=ai zz 8 _ rfl;go_simp;first| done| with_reducible rfl)) ?_;refine aC (i:=2) (d:=some 16) rfl (by(intro wq hq;have zz:=pq.out wq hq;have z0:=ai zz 0 _ rfl;have z1:=ai zz 1 _ rfl;have z2:=ai zz 2 _ rfl;have z3:=ai zz 3 _ rfl;have z4:=ai zz 4 _ rfl;have z5:=ai zz 5 _ rfl;have z6:=ai zz 6 _ rfl;have z7:=ai zz 7 _ rfl;have z8:=ai zz 8 _ rfl;go_simp;first| done| with_reducible rfl)) ?_;refine ax (i:=1) hD rfl ?_;intro K hK;go_simp;go_wp2_with(go_at_call 125;refine(Xq.out _).mono ?_;rintro e w3 ⟨⟨b3,rfl,hg3,hl3,Vl⟩,df⟩);have uL:Below W2.heap.size W2 w3:=ag hD df;refine ax (i:=3) uL rfl ?_;intro K hK;go_simp;go_wp2_with(go_at_call 125;refine(Qb.out _).mono ?_;rintro e w4 ⟨⟨b4,rfl,oL,hl4,zO⟩,dF⟩);have RF:Below W2.heap.size W2 w4:=ag uL dF;refine ax (i:=4) RF rfl ?_;intro K hK;go_simp;go_wp2_with(go_at_call 124;refine(sO _ _ _ _ _ _).mono ?_;rintro e w5 ⟨rfl,zn⟩;have HW5:=(show Hid _ from zn);clear zn);have zn:=HW5.out;have iJ:Below w4.heap.size w4 w5:=by rw[zn];exact((Below.refl _ _).alloc (Nat.le_refl _) _).alloc (by simp) _
 have Xr:Below W2.heap.size W2 w5:=ag RF iJ;refine aH Xr (by kernel_rfl) ?_ _;have k45:=mJ (w:=w4) (.cells #[.slice (some ⟨b3,0,none⟩) 7 7] 45) (.cells #[.slice (some ⟨b4,0,none⟩) 7 7] 45);rw[<-zn]at k45;have hs5:w5.heap.size=w4.heap.size+2:=by rw[zn];simp
 have Hg:Hid (ib (fun k=>k<w5.heap.size) w5 (some ⟨b3,0,none⟩) 7 NA):=Vl.carry fun k hk=>⟨by have:=dF.size;omega,(iJ.block k (by have:=dF.size;omega)).trans (dF.block k (by omega))⟩;have xI:Hid (ib (fun k=>k<w5.heap.size) w5 (some ⟨b4,0,none⟩) 7 NB):=zO.carry fun k hk=>⟨by omega,iJ.block k (by omega)⟩;clear Vl zO df dF iJ zn;have x_:w5.cell? ⟨w4.heap.size,0,none⟩=some (.slice (some ⟨b3,0,none⟩) NA.length 7):=by rw[HSN.out.2.2.1];exact ai k45.1 0 _ rfl
 have nI:w5.cell? ⟨w4.heap.size+1,0,none⟩=some (.slice (some ⟨b4,0,none⟩) NB.length 7):=by rw[HSN.out.2.2.2];exact ai k45.2 0 _ rfl
 have Xt:Hid (w5.heap[w.heap.size+1+1+1]?=some (.cells #[.bool false] 4 (0,0))):=Vu.out w5 Xr;have Uh:Below w.heap.size w w5:=ag bX.out Xr;clear k45;go_wp2;refine JM (n:=4) (sb:=8) (by omega) (iw.gJ s) rfl Hg.out xI.out (fun _ h=>h) HSN.out.1 HSN.out.2.1 x_ nI (by omega) (by omega) Xt.out ?assign ?body ?done ?stop
 case assign=>
  intro l x W K hK;obtain⟨xn,xo,xx⟩:=x;simp only[lC,gD]at hK ⊢
  gi_wp2
  exact hK
 case body=>
  intro l x W Bx hB hh hBx;have hW:Below W2.heap.size W2 W:=ag Xr hB;have jQ:=zD (w:=W) x s;have xD:Hid (∀X,Below W.heap.size W X->X.heap[w.heap.size+1+1+1]?=some (.cells #[.bool false] 4 (0,0))):=fun X hX=>Vu.out X (ag hW hX);have y7:=ai (HC7.out W hW) 0 _ rfl
  cases hv:iw.gJ s x with
  | false=>
   have HV:Hid (iw.gJ s x=false):=hv;rw[hv]at jQ;obtain⟨xn,xo,xx⟩:=x;simp only[lC,gD]at hh jQ HV ⊢;have x0:=ai hh 0 _ rfl;have x1:=ai hh 1 _ rfl;have x2:=ai hh 2 _ rfl;have x3:=ai hh 3 _ rfl;have x4:=ai hh 4 _ rfl;clear hh hv
   gi_wp2_with (refine⟨trivial, ?_⟩;gi_at_call 126;refine(CallsIn.inRound l (callsIn_wide.2 jQ)).mono ?_;rintro e w6 ⟨rfl,jy⟩)
   exact⟨HV.out,jy⟩
  | true=>
   have HV:Hid (iw.gJ s x=true):=hv;rw[hv]at jQ;obtain⟨xn,xo,xx⟩:=x;simp only[lC,gD]at hh jQ HV ⊢;have x0:=ai hh 0 _ rfl;have x1:=ai hh 1 _ rfl;have x2:=ai hh 2 _ rfl;have x3:=ai hh 3 _ rfl;have x4:=ai hh 4 _ rfl;clear hh hv
   gi_wp2_with (refine⟨trivial, ?_⟩;gi_at_call 126;refine(CallsIn.inRound l (callsIn_wide.2 jQ)).mono ?_;rintro e w6 ⟨rfl,jy⟩;have r6:=xD.out w6 jy;have r0:=ai r6 0 _ rfl;have rz:=gB r6 0)
   exact⟨HV.out,w6,jy,rfl⟩
 case stop=>
  intro D W hD hq hk hc hK;go_wp2;have HM:Hid (MAY=false):=by show _=_;rw[oQ.out,hq];rfl
  rw[HM.out];refine jL rfl rfl [D] W (by simp) (fun x hx=> ?_) (fun x hx=> ?_) hc (Uh.trans (hk.below Uh.size fun k U6 e=>by unfold aJ at e;omega))
  ·simp at hx;subst hx;exact hK
  ·simp at hx;subst hx;have:=Uh.size;omega
 case done=>
  intro D1 W iG hq1 tQ Xu;have hW:Below W2.heap.size W2 W:=ag Xr tQ;have HQ1:Hid (quiet (iw.gJ s) NA NB=true):=hq1;have zgJ:Below w.heap.size w W:=ag Uh tQ;obtain⟨t8,t8'⟩:W.cell? ⟨w.heap.size,8,none⟩=some (.slice pt ty.length ct)/\W.cell? ⟨w.heap.size+1,8,none⟩=some (.slice pt' ty'.length ct'):=⟨ai (Xk.out W hW) 8 _ rfl,ai (pq.out W hW) 8 _ rfl⟩;have hsW:=tQ.size;have hsD:=aP Xu;clear x_ nI Hg xI Xt hq1;go_wp2_with(go_at_call 124;refine(sO _ _ _ _ _ _).mono ?_;rintro e w8 ⟨rfl,hw8⟩;have HW8:=(show Hid _ from hw8);clear hw8);have Vv:=mJ (w:=W) (.cells #[.slice pt ty.length ct] 45) (.cells #[.slice pt' ty'.length ct'] 45);have uC:Below W.heap.size W w8:=by rw[HW8.out];exact((Below.refl _ _).alloc (Nat.le_refl _) _).alloc (by simp) _
  have hs8:w8.heap.size=W.heap.size+2:=by rw[HW8.out];simp
  rw[<-HW8.out]at Vv;have Ui:Below W2.heap.size W2 w8:=ag hW uC;have hB8:Below w.heap.size w w8:=ag zgJ uC;have zev:w8.heap[D1]?=some (.deferred (some [])):=(uC.block D1 hsD).trans Xu;have x_:=ai Vv.1 0 _ rfl;have nI:=ai Vv.2 0 _ rfl;have zew:Hid (w8.heap[D1]?=some (.deferred (some []))):=zev;clear t8 t8' Vv Xu zev;refine JM (n:=4) (sb:=9) (by omega) (iw.gJ s) rfl (Rv.out.1.ty.below hO hB8) (Rv.out.2.1.ty.below hO hB8) (fun k hk=>Nat.lt_of_lt_of_le (hO k hk) hB8.size) Rv.out.2.2.1.ty Rv.out.2.2.2.ty x_ nI (by omega) (by omega) (Vu.out w8 Ui) ?assign ?body ?done ?stop
  case assign=>
   intro l x W K hK;obtain⟨xn,xo,xx⟩:=x;simp only[lC,gD]at hK ⊢
   gi_wp2
   exact hK
  case body=>
   intro l x W Bx hB hh hBx;have hW:Below W2.heap.size W2 W:=ag Ui hB;have jQ:=zD (w:=W) x s;have xD:Hid (∀X,Below W.heap.size W X->X.heap[w.heap.size+1+1+1]?=some (.cells #[.bool false] 4 (0,0))):=fun X hX=>Vu.out X (ag hW hX);have y7:=ai (HC7.out W hW) 0 _ rfl
   cases hv:iw.gJ s x with
   | false=>
    have HV:Hid (iw.gJ s x=false):=hv;rw[hv]at jQ;obtain⟨xn,xo,xx⟩:=x;simp only[lC,gD]at hh jQ HV ⊢;have x0:=ai hh 0 _ rfl;have x1:=ai hh 1 _ rfl;have x2:=ai hh 2 _ rfl;have x3:=ai hh 3 _ rfl;have x4:=ai hh 4 _ rfl;clear hh hv
    gi_wp2_with (refine⟨trivial, ?_⟩;gi_at_call 126;refine(CallsIn.inRound l (callsIn_wide.2 jQ)).mono ?_;rintro e w6 ⟨rfl,jy⟩)
    exact⟨HV.out,jy⟩
   | true=>
    have HV:Hid (iw.gJ s x=true):=hv;rw[hv]at jQ;obtain⟨xn,xo,xx⟩:=x;simp only[lC,gD]at hh jQ HV ⊢;have x0:=ai hh 0 _ rfl;have x1:=ai hh 1 _ rfl;have x2:=ai hh 2 _ rfl;have x3:=ai hh 3 _ rfl;have x4:=ai hh 4 _ rfl;clear hh hv
    gi_wp2_with (refine⟨trivial, ?_⟩;gi_at_call 126;refine(CallsIn.inRound l (callsIn_wide.2 jQ)).mono ?_;rintro e w6 ⟨rfl,jy⟩;have r6:=xD.out w6 jy;have r0:=ai r6 0 _ rfl;have rz:=gB r6 0)
    exact⟨HV.out,w6,jy,rfl⟩
  case stop=>
   intro D W hD hq hk hc hK;go_wp2;have HM:Hid (MAY=false):=by show _=_;rw[oQ.out,HQ1.out,hq];rfl
   rw[HM.out];refine jL rfl rfl [D,D1] W (by simp;omega) (fun x hx=> ?_) (fun x hx=> ?_) hc (hB8.trans (hk.below hB8.size fun k U6 e=>by unfold aJ at e;omega))
   ·simp at hx
    rcases hx with rfl| rfl
    ·exact hK
    ·exact(hk.block _ (by omega) (by have:=Xr.size;unfold aJ;omega)).trans zew.out
   ·simp at hx;have:=Uh.size
    rcases hx with rfl| rfl<;>omega
  case done=>
   intro D2 W' Ve Xc ko P7;have Uj:Below W2.heap.size W2 W':=ag Ui ko;have HQ2:Hid (quiet (iw.gJ s) ty ty'=true):=Xc;have zgK:Below w.heap.size w W':=ag hB8 ko;obtain⟨t7,t7'⟩:W'.cell? ⟨w.heap.size,7,none⟩=some (.slice pu us.length cu)/\W'.cell? ⟨w.heap.size+1,7,none⟩=some (.slice pu' us'.length cu'):=⟨ai (Xk.out W' Uj) 7 _ rfl,ai (pq.out W' Uj) 7 _ rfl⟩;have zlZ:=ko.size;have zgL:=aP P7;clear x_ nI Xc;go_wp2_with(go_at_call 124;refine(sO _ _ _ _ _ _).mono ?_;rintro e w9 ⟨rfl,xJ⟩;have HW9:=(show Hid _ from xJ);clear xJ);have Vv:=mJ (w:=W') (.cells #[.slice pu us.length cu] 45) (.cells #[.slice pu' us'.length cu'] 45);have yE:Below W'.heap.size W' w9:=by rw[HW9.out];exact((Below.refl _ _).alloc (Nat.le_refl _) _).alloc (by simp) _
   have hs9:w9.heap.size=W'.heap.size+2:=by rw[HW9.out];simp
   rw[<-HW9.out]at Vv;have Vw:Below W2.heap.size W2 w9:=ag Uj yE;have vF:Below w.heap.size w w9:=ag zgK yE;have Vx:Hid (w9.heap[D1]?=some (.deferred (some []))/\w9.heap[D2]?=some (.deferred (some []))):=⟨(yE.block D1 (by omega)).trans ((ko.block D1 (by omega)).trans zew.out),(yE.block D2 zgL).trans P7⟩;have x_:=ai Vv.1 0 _ rfl;have nI:=ai Vv.2 0 _ rfl;clear t7 t7' Vv P7;refine JM (n:=4) (sb:=10) (by omega) (iw.bad u s) rfl (Rv.out.1.us.below hO vF) (Rv.out.2.1.us.below hO vF) (fun k hk=>Nat.lt_of_lt_of_le (hO k hk) vF.size) Rv.out.2.2.1.us Rv.out.2.2.2.us x_ nI (by omega) (by omega) (Vu.out w9 Vw) ?assign ?body ?done ?stop
   case assign=>
    intro l x W K hK;obtain⟨xn,xo,xx⟩:=x;simp only[lC,gD]at hK ⊢
    gi_wp2
    exact hK
   case body=>
    intro l x W Bx hB hh hBx;have hW:Below W2.heap.size W2 W:=ag Vw hB;have jQ:=zD (w:=W) x s;have xD:Hid (∀X,Below W.heap.size W X->X.heap[w.heap.size+1+1+1]?=some (.cells #[.bool false] 4 (0,0))/\X.heap[w1.heap.size]?=some (.cells #[.int .i64 s] 2 (0,0))/\X.heap[w.heap.size+1+1]?=some (.cells #[.string u] 9 (0,0))/\X.heap[Bx]?=some (.cells (gD x).toArray 143 (0,0))):=fun X hX=>⟨Vu.out X (ag hW hX),HC7.out X (ag hW hX),zt.out X (ag hW hX),(hX.block Bx (aP hh)).trans hh⟩;have y7:=ai (HC7.out W hW) 0 _ rfl;have zR:Hid (iw.bad u s x=(iw.gJ s x || (!(x.name.toList==u.toList)&&least s x.Hu))):=rfl
    cases hv:iw.gJ s x with
    | true=>
     have HV:Hid (iw.bad u s x=true):=by show _=_;rw[zR.out,hv];rfl
     rw[hv]at jQ;clear hv zR;obtain⟨xn,xo,xx⟩:=x;simp only[lC,gD]at hh jQ xD ⊢;have x0:=ai hh 0 _ rfl;have x1:=ai hh 1 _ rfl;have x2:=ai hh 2 _ rfl;have x3:=ai hh 3 _ rfl;have x4:=ai hh 4 _ rfl;clear hh
     gi_wp2_with (refine⟨trivial, ?_⟩;gi_at_call 126;refine(CallsIn.inRound l (callsIn_wide.2 jQ)).mono ?_;rintro e w6 ⟨rfl,jy⟩;obtain⟨r6,s6,u6,x6⟩:=xD.out w6 jy;have r0:=ai r6 0 _ rfl;have rz:=gB r6 0;have s0:=ai s6 0 _ rfl;have u0:=ai u6 0 _ rfl;have f0:=ai x6 0 _ rfl;have f1:=ai x6 1 _ rfl;have f2:=ai x6 2 _ rfl)
     exact⟨HV.out,w6,jy,rfl⟩
    | false=>
     rw[hv]at jQ zR;clear hv;obtain⟨xn,xo,xx⟩:=x
     cases hn:(xn.toList==u.toList)with
     | true=>
      have HV:Hid (iw.bad u s ⟨xn,xo,xx⟩=false):=by show _=_;rw[zR.out];simp[hn]
      clear zR;simp only[lC,gD]at hh jQ xD ⊢;have x0:=ai hh 0 _ rfl;have x1:=ai hh 1 _ rfl;have x2:=ai hh 2 _ rfl;have x3:=ai hh 3 _ rfl;have x4:=ai hh 4 _ rfl;clear hh
      gi_wp2_with (refine⟨trivial, ?_⟩;gi_at_call 126;refine(CallsIn.inRound l (callsIn_wide.2 jQ)).mono ?_;rintro e w6 ⟨rfl,jy⟩;obtain⟨r6,s6,u6,x6⟩:=xD.out w6 jy;have r0:=ai r6 0 _ rfl;have rz:=gB r6 0;have s0:=ai s6 0 _ rfl;have u0:=ai u6 0 _ rfl;have f0:=ai x6 0 _ rfl;have f1:=ai x6 1 _ rfl;have f2:=ai x6 2 _ rfl)
      exact⟨HV.out,jy⟩
     | false=>
      cases xo with
      | none=>
       have HV:Hid (iw.bad u s ⟨xn,none,xx⟩=false):=by show _=_;rw[zR.out];simp[least]
       clear zR;simp only[lC,gD]at hh jQ xD ⊢;have x0:=ai hh 0 _ rfl;have x1:=ai hh 1 _ rfl;have x2:=ai hh 2 _ rfl;have x3:=ai hh 3 _ rfl;have x4:=ai hh 4 _ rfl;clear hh
       gi_wp2_with (refine⟨trivial, ?_⟩;gi_at_call 126;refine(CallsIn.inRound l (callsIn_wide.2 jQ)).mono ?_;rintro e w6 ⟨rfl,jy⟩;obtain⟨r6,s6,u6,x6⟩:=xD.out w6 jy;have r0:=ai r6 0 _ rfl;have rz:=gB r6 0;have s0:=ai s6 0 _ rfl;have u0:=ai u6 0 _ rfl;have f0:=ai x6 0 _ rfl;have f1:=ai x6 1 _ rfl;have f2:=ai x6 2 _ rfl)
       exact⟨HV.out,jy⟩
      | some y=>
       by_cases hy:s<=y
       ·have HV:Hid (iw.bad u s ⟨xn,some y,xx⟩=true):=by show _=_;rw[zR.out];simp[least,hn,hy]
        clear zR;simp only[lC,gD]at hh jQ xD ⊢;have x0:=ai hh 0 _ rfl;have x1:=ai hh 1 _ rfl;have x2:=ai hh 2 _ rfl;have x3:=ai hh 3 _ rfl;have x4:=ai hh 4 _ rfl;clear hh
        gi_wp2_with (refine⟨trivial, ?_⟩;gi_at_call 126;refine(CallsIn.inRound l (callsIn_wide.2 jQ)).mono ?_;rintro e w6 ⟨rfl,jy⟩;obtain⟨r6,s6,u6,x6⟩:=xD.out w6 jy;have r0:=ai r6 0 _ rfl;have rz:=gB r6 0;have s0:=ai s6 0 _ rfl;have u0:=ai u6 0 _ rfl;have f0:=ai x6 0 _ rfl;have f1:=ai x6 1 _ rfl;have f2:=ai x6 2 _ rfl)
        exact⟨HV.out,w6,jy,rfl⟩
       ·have HV:Hid (iw.bad u s ⟨xn,some y,xx⟩=false):=by show _=_;rw[zR.out];simp[least,hn,hy]
        clear zR;simp only[lC,gD]at hh jQ xD ⊢;have x0:=ai hh 0 _ rfl;have x1:=ai hh 1 _ rfl;have x2:=ai hh 2 _ rfl;have x3:=ai hh 3 _ rfl;have x4:=ai hh 4 _ rfl;clear hh
        gi_wp2_with (refine⟨trivial, ?_⟩;gi_at_call 126;refine(CallsIn.inRound l (callsIn_wide.2 jQ)).mono ?_;rintro e w6 ⟨rfl,jy⟩;obtain⟨r6,s6,u6,x6⟩:=xD.out w6 jy;have r0:=ai r6 0 _ rfl;have rz:=gB r6 0;have s0:=ai s6 0 _ rfl;have u0:=ai u6 0 _ rfl;have f0:=ai x6 0 _ rfl;have f1:=ai x6 1 _ rfl;have f2:=ai x6 2 _ rfl)
        exact⟨HV.out,jy⟩
   case stop=>
    intro D W hD hq hk hc hK;go_wp2;have HM:Hid (MAY=false):=by show _=_;rw[oQ.out,HQ1.out,HQ2.out,hq];rfl
    rw[HM.out];refine jL rfl rfl [D,D2,D1] W (by simp;omega) (fun x hx=> ?_) (fun x hx=> ?_) hc (vF.trans (hk.below vF.size fun k U6 e=>by unfold aJ at e;omega))
    ·simp at hx
     rcases hx with rfl| rfl| rfl
     ·exact hK
     ·exact(hk.block _ (by omega) (by have:=Xr.size;unfold aJ;omega)).trans Vx.out.2
     ·exact(hk.block _ (by omega) (by have:=Xr.size;unfold aJ;omega)).trans Vx.out.1
    ·simp at hx;have:=Uh.size
     rcases hx with rfl| rfl| rfl<;>omega
   case done=>
    intro D3 W3 zl0 hq3 Az Zd;have Ci:Below W2.heap.size W2 W3:=ag Vw Az;have HM:Hid (MAY=true):=by show _=_;rw[oQ.out,HQ1.out,HQ2.out,hq3];rfl
    have zgM:Below w.heap.size w W3:=ag vF Az;have r0:=ai (Vu.out W3 Ci) 0 _ rfl;have rz:=gB (Vu.out W3 Ci) 0;have Ze:Hid (W3.heap[w.heap.size+1+1+1]?=some (.cells #[.bool false] 4 (0,0))):=Vu.out W3 Ci;have HK3:Hid (W3.heap[D3]?=some (.deferred (some []))/\W3.heap[D2]?=some (.deferred (some []))/\W3.heap[D1]?=some (.deferred (some []))):=⟨Zd,(Az.block _ (by omega)).trans Vx.out.2,(Az.block _ (by omega)).trans Vx.out.1⟩;clear Zd hq3 x_ nI;go_wp2;rw[HM.out];have sG:=KeepsOthers.setCell W3 ⟨w.heap.size+1+1+1,0,none⟩ (.bool true);refine jL rfl rfl [D3,D2,D1] _ (by simp;omega) (fun x hx=> ?_) (fun x hx=> ?_) (World.cell?_setCell_same' _ _ _ (by rw[ai Ze.out 0 _ rfl];rfl)) (zgM.setCell (p:=⟨w.heap.size+1+1+1,0,none⟩) (by simp;omega) _)
    ·simp at hx
     rcases hx with rfl| rfl| rfl
     ·exact sG.same _ _ HK3.out.1 rfl
     ·exact sG.same _ _ HK3.out.2.1 rfl
     ·exact sG.same _ _ HK3.out.2.2 rfl
    ·simp at hx;have:=Uh.size
     rcases hx with rfl| rfl| rfl<;>omega
end
open Go.RowKit
theorem qj(w:World)(n:Nat):Below w.heap.size w (w.drewN n):=⟨rfl,rfl,rfl,Nat.le_refl _,fun _ _=>rfl⟩
theorem FL(s:ByteArray)(w:World)(hs:s.size<=1000000000):Calls Tryz.prog 35 #[.string s] w fun x w'=>x=.returned (.bool (kH s))/\Below w.heap.size w w':=by
 unfold kH;go_enter Tryz.func35,Tryz.ntmps35;go_wp2_with(go_at_call 69;refine(Id.mD s _ hs).mono ?_;rintro e w1 ⟨rfl,aL⟩;unfold Id.told);go_ret;exact⟨rfl,aL⟩
theorem RG(s:ByteArray)(w:World)(hs:s.size<=1000000000):Calls Tryz.prog 34 #[.string s] w fun x w'=>x=.returned (.bool (lZ s))/\Below w.heap.size w w':=
 (Id.xc s w (by omega)).mono fun _ w' h=>⟨h.1,h.2 ▸ Below.refl _ _⟩
theorem di{a:Act}{o:Oper}{m:Operand}{T:TypeId}{ad:Addr}{w:World}{v:Value}(hop:o.op=Op.load T m)(hm:a.eval m=.pointer (some ad))(hl:(Instr.loadAt T (.pointer (some ad))).run Tryz.prog w=.ok v w):(execOp a.eval o).run Tryz.prog w=.ok (.value v) w:=by
 simp[execOp,hop,hm,hl]
theorem j6:jT.toList= [106,111,105,110]:=by rw[Lib.toList_data]
theorem kI:lD.toList= [105,110,118,105,116,101]:=by rw[Lib.toList_data]
theorem zS:JI.toList= [108,101,97,118,101]:=by rw[Lib.toList_data]
theorem uP:yg.toList= [98,97,110]:=by rw[Lib.toList_data]
theorem xK:Dg.toList= [112,117,98,108,105,99]:=by rw[Lib.toList_data]
theorem qm:bg.toList= [109,46,114,111,111,109,46,109,101,109,98,101,114]:=by rw[Lib.toList_data]
theorem kJ:aV.toList= [109,46,114,111,111,109,46,99,114,101,97,116,101]:=by rw[Lib.toList_data]
theorem zT:bF.toList= [109,46,114,111,111,109,46,112,111,119,101,114,95,108,101,118,101,108,115]:=by rw[Lib.toList_data]
theorem oU:(⟨#[]⟩:ByteArray).toList= []:=by rw[Lib.toList_data]
section
variable {w : World} {hb : Nat} {h : Hr} {p : Ph}
theorem jw.Zf(x:jw w hb h p):w.rangeAt hb 34 (aG h.l p.l):=fC x.uw 34 rfl
theorem jw.iD(x:jw w hb h p):w.rangeAt hb 0 (aA h.e p.e):=fC x.uw 0 rfl
theorem jw.qo(x:jw w hb h p):w.rangeAt hb 5 [.int .i64 h.e.content.kind,.int .i64 h.e.content.int,.string h.e.content.text,.slice p.e.pk h.e.content.keys.length p.e.ck,.slice p.e.pl h.e.content.list.length p.e.cl]:=fC x.uw 5 rfl
theorem jw.RH(x:jw w hb h p):(Instr.loadAt 47 (.pointer (some ⟨hb,34,none⟩))).run Tryz.prog w=.ok (fA h.l p.l) w:=run_loadAt_mid w hb 34 47 (aG h.l p.l) _ x.Zf Tryz.underlying47 rfl iX
theorem FM(x:jw w hb h p)(hz:Qa h)(u:ByteArray):Calls Tryz.prog 89 #[.pointer (some ⟨hb,0,none⟩),.string u] w fun e w'=>e=.returned (.string (jK h.st u))/\Below w.heap.size w w':=by
 have hT:=zQ x.st (fun _ h=>h) hz.st bg u dG;have HT:Hid (jK h.st u=iH h.st bg u dG):=rfl;have hs:=x.state;clear x;go_enter Tryz.func89,Tryz.ntmps89;go_wp2_with(go_at_call 123;refine hT.mono ?_;rintro e w1 ⟨rfl,aL⟩);go_ret;exact⟨by rw[HT.out];rfl,aL⟩
theorem sS(x:jw w hb h p)(hz:Qa h):Calls Tryz.prog 55 #[.pointer (some ⟨hb,0,none⟩)] w fun e w'=>e=.returned (.bool h.iN)/\Below w.heap.size w w':=by
 have hM:=FM x hz h.e.ah;have HT:Hid (h.iN=fT (jK h.st h.e.ah) jT):=rfl;have hs:=x.ah;clear x;generalize jK h.st h.e.ah=m at hM HT;go_enter Tryz.func55,Tryz.ntmps55;go_wp2_with(go_at_call 89;refine hM.mono ?_;rintro e w1 ⟨rfl,aL⟩);go_ret;exact⟨by rw[HT.out];unfold fT;rw[j6];rfl,aL⟩
theorem sU(x:jw w hb h p)(hz:Qa h):Calls Tryz.prog 86 #[.pointer (some ⟨hb,0,none⟩)] w fun e w'=>e=.returned (.string h.target)/\Below w.heap.size w w':=by
 have hM:=FM x hz h.e.key;have HT:Hid (h.target=jK h.st h.e.key):=rfl;have hs:=x.key;clear x;go_enter Tryz.func86,Tryz.ntmps86;go_wp2_with(go_at_call 89;refine hM.mono ?_;rintro e w1 ⟨rfl,aL⟩);go_ret;exact⟨by rw[HT.out];rfl,aL⟩
theorem Dm(x:jw w hb h p):Calls Tryz.prog 59 #[.pointer (some ⟨hb,0,none⟩)] w fun e w'=>e=.returned (.bool h.own)/\Below w.heap.size w w':=by
 have HT:Hid (h.own=fT h.e.key h.e.ah):=rfl;have hk:=x.key;have hs:=x.ah;clear x;go_enter Tryz.func59,Tryz.ntmps59;go_wp2;go_quiet (fail);go_wp2;go_ret;exact⟨by rw[HT.out];rfl,qj _ _⟩
theorem vY(x:jw w hb h p)(hz:Qa h):Calls Tryz.prog 56 #[.pointer (some ⟨hb,0,none⟩)] w fun e w'=>e=.returned (.int .i64 h.s)/\Below w.heap.size w w':=by
 have HX:Hid (∀X,Below w.heap.size w X->jw X hb h p):=fun X hX=>x.below hX;have HU:Hid (∀X,Below w.heap.size w X->Calls Tryz.prog 90 #[fA h.l p.l,.string h.e.ah] X fun e w'=>e=.returned (.int .i64 h.s)/\Below X.heap.size X w'):=fun X hX=>C_ (HX.out X hX).lv (fun _ h=>h) hz.l h.e.ah;clear x;obtain⟨W,hW⟩:∃W,W=w:=⟨_,rfl⟩;go_enter Tryz.func56,Tryz.ntmps56
 go_upto_region 1 with fail
 subst hW;refine aI (by kernel_rfl) (fun w'=>Below W.heap.size W w') ?_;change wpIn _ _ _ _ _ _ _ _ (World.drew _);have hD:Below W.heap.size W W.drew:=(Below.refl _ _).drew;refine aa (i:=0) (d:=some 3) rfl ?_;refine aa (i:=1) (d:=some 4) rfl ?_;refine aa (i:=2) (d:=some 5) rfl ?_;refine ae (i:=3) (d:=(some 6)) (v:=(fA h.l p.l)) (a':= ?aqr3) rfl rfl (by kernel_rfl) (by kernel_rfl) (by kernel_rfl) (fun _ _ _ h=>h) (Or.inl ⟨by rfl, ?yqr3⟩) ?fqr3 ?_
 case yqr3=>exact fun wq hq=>di rfl rfl ((HX.out wq hq).RH)
 case fqr3=>(go_frame;rfl)
 refine aa (i:=4) (d:=some 7) rfl ?_;refine aa (i:=5) (d:=some 8) rfl ?_;refine aa (i:=6) (d:=some 9) rfl ?_;refine aa (i:=7) (d:=some 10) rfl ?_;refine aC (i:=8) (d:=some 11) rfl (by(intro wq hq;have zf:=(HX.out wq hq).ah;go_simp;first| done| with_reducible rfl)) ?_;refine ax (i:=9) hD rfl ?_;intro K hK;go_simp;go_wp2_with(go_at_call 90;refine(HU.out _ hD).mono ?_;rintro e w1 ⟨rfl,uQ⟩);have Vw:Below W.heap.size W w1:=ag hD uQ;refine aa (i:=10) (d:=some 2) rfl ?_;refine aH Vw (by kernel_rfl) ?_ _;go_wp2;go_ret;exact⟨rfl,Vw⟩
theorem Cj(x:jw w hb h p)(hz:Qa h):Calls Tryz.prog 88 #[.pointer (some ⟨hb,0,none⟩)] w fun e w'=>e=.returned (.int .i64 h.t)/\Below w.heap.size w w':=by
 have HX:Hid (∀X,Below w.heap.size w X->jw X hb h p):=fun X hX=>x.below hX;have HU:Hid (∀X,Below w.heap.size w X->Calls Tryz.prog 90 #[fA h.l p.l,.string h.e.key] X fun e w'=>e=.returned (.int .i64 h.t)/\Below X.heap.size X w'):=fun X hX=>C_ (HX.out X hX).lv (fun _ h=>h) hz.l h.e.key;clear x;obtain⟨W,hW⟩:∃W,W=w:=⟨_,rfl⟩;go_enter Tryz.func88,Tryz.ntmps88
 go_upto_region 1 with fail
 subst hW;refine aI (by kernel_rfl) (fun w'=>Below W.heap.size W w') ?_;change wpIn _ _ _ _ _ _ _ _ (World.drew _);have hD:Below W.heap.size W W.drew:=(Below.refl _ _).drew;refine aa (i:=0) (d:=some 3) rfl ?_;refine aa (i:=1) (d:=some 4) rfl ?_;refine aa (i:=2) (d:=some 5) rfl ?_;refine ae (i:=3) (d:=(some 6)) (v:=(fA h.l p.l)) (a':= ?aqr3) rfl rfl (by kernel_rfl) (by kernel_rfl) (by kernel_rfl) (fun _ _ _ h=>h) (Or.inl ⟨by rfl, ?yqr3⟩) ?fqr3 ?_
 case yqr3=>exact fun wq hq=>di rfl rfl ((HX.out wq hq).RH)
 case fqr3=>(go_frame;rfl)
 refine aa (i:=4) (d:=some 7) rfl ?_;refine aa (i:=5) (d:=some 8) rfl ?_;refine aa (i:=6) (d:=some 9) rfl ?_;refine aa (i:=7) (d:=some 10) rfl ?_;refine aC (i:=8) (d:=some 11) rfl (by(intro wq hq;have zf:=(HX.out wq hq).key;go_simp;first| done| with_reducible rfl)) ?_;refine ax (i:=9) hD rfl ?_;intro K hK;go_simp;go_wp2_with(go_at_call 90;refine(HU.out _ hD).mono ?_;rintro e w1 ⟨rfl,uQ⟩);have Vw:Below W.heap.size W w1:=ag hD uQ;refine aa (i:=10) (d:=some 2) rfl ?_;refine aH Vw (by kernel_rfl) ?_ _;go_wp2;go_ret;exact⟨rfl,Vw⟩
end
abbrev gF(b:Bool):Ending:=.panicked [{v:=.iface 84 (.agg #[.bool b]),recovered:=false}]
theorem zU(b:Bool)(w:World):Calls Tryz.prog 50 #[.bool b] w fun e w'=>e=gF b/\w'=w:=by
 go_enter Tryz.func50,Tryz.ntmps50;go_wp2;exact⟨rfl,rfl,rfl⟩
theorem Vy(w:World):Calls Tryz.prog 54 #[.bool false] w fun e w'=>e=.returned (.tuple #[])/\w'=w:=by
 go_enter Tryz.func54,Tryz.ntmps54;go_wp2
 go_end0
 exact⟨rfl,rfl⟩
theorem RI(w:World):Calls Tryz.prog 54 #[.bool true] w fun e w'=>e=gF false/\w'=w:=by
 go_enter Tryz.func54,Tryz.ntmps54;go_wp2_with(go_at_call 50;refine(zU false _).mono ?_;rintro e w1 ⟨rfl,rfl⟩);exact⟨rfl,rfl,rfl⟩
theorem RJ(w:World):Calls Tryz.prog 93 #[.bool false] w fun e w'=>e=.returned (.tuple #[])/\w'=w:=by
 go_enter Tryz.func93,Tryz.ntmps93;go_wp2
 go_end0
 exact⟨rfl,rfl⟩
theorem OP(w:World):Calls Tryz.prog 93 #[.bool true] w fun e w'=>e=gF true/\w'=w:=by
 go_enter Tryz.func93,Tryz.ntmps93;go_wp2_with(go_at_call 50;refine(zU true _).mono ?_;rintro e w1 ⟨rfl,rfl⟩);exact⟨rfl,rfl,rfl⟩
theorem FN(b:Bool)(w:World):Calls Tryz.prog 26 #[.iface 84 (.agg #[.bool b])] w fun e w'=>e=.returned (.int .i64 (if b=true then 0 else 110))/\Below w.heap.size w w':=by
 have hta:∀(b:Bool) (w:World),(Instr.typeAssert (.iface 84 (.agg #[.bool b])) 20 84 true).run Tryz.prog w=.ok (.tuple #[.agg #[.bool b],.bool true]) w:=fun _ _=>by kernel_rfl
 cases b
 ·go_enter Tryz.func26,Tryz.ntmps26;go_wp2;go_ret;exact⟨rfl,(Below.refl _ _).alloc (Nat.le_refl _) _⟩
 ·go_enter Tryz.func26,Tryz.ntmps26;go_wp2;go_ret;exact⟨rfl,(Below.refl _ _).alloc (Nat.le_refl _) _⟩
def NoP:Bool->Ending->Prop
 | true,e=>e=gF false
 | false,e=>e=.returned (.tuple #[])
def zgO:Bool->Ending->Prop
 | true,e=>e=gF true
 | false,e=>e=.returned (.tuple #[])
theorem bL(b:Bool)(w:World):Calls Tryz.prog 54 #[.bool b] w fun e w'=>NoP b e/\w=w':=by
 cases b
 ·exact(Vy w).mono fun _ _ h=>⟨h.1,h.2.symm⟩
 ·exact(RI w).mono fun _ _ h=>⟨h.1,h.2.symm⟩
theorem gG(b:Bool)(w:World):Calls Tryz.prog 93 #[.bool b] w fun e w'=>zgO b e/\w=w':=by
 cases b
 ·exact(RJ w).mono fun _ _ h=>⟨h.1,h.2.symm⟩
 ·exact(OP w).mono fun _ _ h=>⟨h.1,h.2.symm⟩
theorem dR(b:Bool)(w:World):Calls Tryz.prog 50 #[.bool b] w fun e w'=>e=gF b/\w=w':=(zU b w).mono fun _ _ h=>⟨h.1,h.2.symm⟩
structure lW(w:World)(eb:Nat)(e:Ev)(p:Pt):Prop where
 uw:w.heap[eb]?=some (.cells (aA e p).toArray 28 (0,0))
 ev:ji (· <w.heap.size) w e p
section
variable {w : World} {eb : Nat} {e : Ev} {p : Pt}
theorem lW.below{w':World}(x:lW w eb e p)(b:Below w.heap.size w w'):lW w' eb e p:=⟨(b.block eb (aP x.uw)).trans x.uw,x.ev.carry fun k hk=>⟨Nat.lt_of_lt_of_le hk b.size,b.block k hk⟩⟩
theorem lW.room(x:lW w eb e p):w.cell? ⟨eb,0,none⟩=some (.string e.room):=ai x.uw 0 _ rfl
theorem lW.aR(x:lW w eb e p):w.cell? ⟨eb,1,none⟩=some (.string e.aR):=ai x.uw 1 _ rfl
theorem lW.ah(x:lW w eb e p):w.cell? ⟨eb,2,none⟩=some (.string e.ah):=ai x.uw 2 _ rfl
theorem lW.l9(x:lW w eb e p):w.cell? ⟨eb,3,none⟩=some (.bool e.st):=ai x.uw 3 _ rfl
theorem lW.key(x:lW w eb e p):w.cell? ⟨eb,4,none⟩=some (.string e.key):=ai x.uw 4 _ rfl
theorem lW.prev(x:lW w eb e p):w.cell? ⟨eb,10,none⟩=some (.slice p.pp e.prev.length p.cp):=ai x.uw 10 _ rfl
theorem lW.Ck(x:lW w eb e p):w.cell? ⟨eb,11,none⟩=some (.slice p.pa e.aD.length p.ca):=ai x.uw 11 _ rfl
theorem lW.qo(x:lW w eb e p):w.rangeAt eb 5 [.int .i64 e.content.kind,.int .i64 e.content.int,.string e.content.text,.slice p.pk e.content.keys.length p.ck,.slice p.pl e.content.list.length p.cl]:=fC x.uw 5 rfl
theorem lW.iD(x:lW w eb e p):w.rangeAt eb 0 (aA e p):=fC x.uw 0 rfl
theorem lW.zgP(x:lW w eb e p):(Instr.loadAt 25 (.pointer (some ⟨eb,5,none⟩))).run Tryz.prog w=.ok (.agg #[.int .i64 e.content.kind,.int .i64 e.content.int,.string e.content.text,.slice p.pk e.content.keys.length p.ck,.slice p.pl e.content.list.length p.cl]) w:=run_loadAt_mid w eb 5 25 [.int .i64 e.content.kind,.int .i64 e.content.int,.string e.content.text,.slice p.pk e.content.keys.length p.ck,.slice p.pl e.content.list.length p.cl] _ x.qo Tryz.underlying25 rfl (by kernel_rfl)
end
theorem iI{O:Nat->Prop}{w:World}{e:Ev}{p:Pt}(h:ji O w e p)(hO:∀b,O b->b<w.heap.size){W:World}(hb:Below w.heap.size w W)(hX:W.heap[w.heap.size]?=some (.cells (aA e p).toArray 28 (0,0))):lW W w.heap.size e p:=
 ⟨hX,h.carry fun k hk=>⟨Nat.lt_of_lt_of_le (hO k hk) hb.size,hb.block k (hO k hk)⟩⟩
def Zi(w w':World)(r:Lv×Int)(x:Ending):Prop:=((r.2=0/\∃q,x=.returned (fA r.1 q)/\qV (fun b=>w.heap.size<=b/\b<w'.heap.size) w' r.1 q)\/ (r.2=1/\x=gF false))/\Below w.heap.size w w'
theorem pz(l:Lv)(p:Pl):(aG l p).toArray.all (·.oneCell')=true:=all_oneCell_toArray fun v hv=>by
 simp only[aG,List.mem_cons,List.not_mem_nil,or_false]at hv
 rcases hv with rfl| rfl| rfl| rfl| rfl| rfl| rfl| rfl| rfl<;>rfl
theorem uR{w:World}{b o:Nat}{l:Lv}{p:Pl}(h:w.rangeAt b o (aG l p)):(loadVar 47 ⟨b,o,none⟩).run Tryz.prog w=.ok (fA l p) w:=run_loadVar_mid w b o 47 (aG l p) _ h Tryz.underlying47 rfl iX
theorem uS{O:Nat->Prop}{w:World}{e:Ev}{p:Pt}(h:ji O w e p)(hO:∀b,O b->b<w.heap.size)(hz:szJ 12 e.content=true):
    Calls Tryz.prog 83 #[eF e p] w fun x w'=>Zi w w' (dh (eG e.content)) x:=by
 obtain⟨W0,cO⟩:∃W0,W0=(w.alloc (.cells (aA e p).toArray 28)).alloc (.cells #[.int .i64 0,.int .i64 0,.int .i64 0,.int .i64 0,.int .i64 0,.int .i64 0,.int .i64 0,.slice none 0 0,.slice none 0 0] 47):=⟨_,rfl⟩;have cK:Below w.heap.size w W0:=by rw[cO];exact((Below.refl _ _).alloc (Nat.le_refl _) _).alloc (by simp) _
 have kU:W0.heap[w.heap.size]?=some (.cells (aA e p).toArray 28 (0,0)):=by rw[cO,Below.heap_alloc _ _ _ (by simp)];exact bz _
 have JP:W0.heap[w.heap.size+1]?=some (.cells #[.int .i64 0,.int .i64 0,.int .i64 0,.int .i64 0,.int .i64 0,.int .i64 0,.int .i64 0,.slice none 0 0,.slice none 0 0] 47 (0,0)):=by
  rw[cO];have:=bz (w:=w.alloc (.cells (aA e p).toArray 28)) (.cells #[.int .i64 0,.int .i64 0,.int .i64 0,.int .i64 0,.int .i64 0,.int .i64 0,.int .i64 0,.slice none 0 0,.slice none 0 0] 47);rw[World.size_alloc]at this;exact this
 have hV:=iI h hO cK kU;have HR:Hid (W0.rangeAt w.heap.size 5 [.int .i64 e.content.kind,.int .i64 e.content.int,.string e.content.text,.slice p.pk e.content.keys.length p.ck,.slice p.pl e.content.list.length p.cl]):=hV.qo;have hP:=OE (O:=(· <W0.heap.size)) (w:=W0) (c:=e.content) hV.ev.cont (fun _ h=>h) hz;have Xt:Hid (∀X,Below W0.heap.size W0 X->X.heap[w.heap.size+1]?=some (.cells #[.int .i64 0,.int .i64 0,.int .i64 0,.int .i64 0,.int .i64 0,.int .i64 0,.int .i64 0,.slice none 0 0,.slice none 0 0] 47 (0,0))):=fun X hX=>(hX.block _ (aP JP)).trans JP;have xB:Hid (w.heap.size+2<=W0.heap.size):=by show _<=_;rw[cO];simp
 have HE:Hid ((dh (eG e.content)).2=0\/ (dh (eG e.content)).2=1):=vX _;generalize dh (eG e.content)=R at hP HE;obtain⟨L,E⟩:=R;simp only at hP HE;clear h hV JP kU;unfold eF
 rcases HE.out with rfl| rfl
 ·go_enter Tryz.func83,Tryz.ntmps83
  go_upto_region 1 with fail
  rw[<-cO];clear cO
  go_upto_region 2 with(first
   | (refine wpList_load_mid rfl 25 _ rfl w.heap.size 5 rfl _ _ HR.out Tryz.underlying25 rfl (by kernel_rfl) ?_)
   | (go_at_call 120;refine hP.mono ?_;rintro x w1 ⟨⟨q,rfl,hI⟩,aL⟩)
   | (refine wpList_store_row rfl 47 _ _ rfl w1.heap.size 47 _ (aG L q).toArray rfl rfl (bz _) iX rfl (pz L q) ?_))
  have bM:Below w1.heap.size w1 ((w1.alloc (.cells #[.int .i64 0,.int .i64 0,.int .i64 0,.int .i64 0,.int .i64 0,.int .i64 0,.int .i64 0,.slice none 0 0,.slice none 0 0] 47)).setRow w1.heap.size (aG L q).toArray):=
   ((Below.refl _ _).alloc (Nat.le_refl _) _).trans ((aX _ w1.heap.size _).below (by simp) fun q hq e=>by unfold aJ at e;omega)
  have Er:((w1.alloc (.cells #[.int .i64 0,.int .i64 0,.int .i64 0,.int .i64 0,.int .i64 0,.int .i64 0,.int .i64 0,.slice none 0 0,.slice none 0 0] 47)).setRow w1.heap.size (aG L q).toArray).heap[w1.heap.size]?=some (.cells (aG L q).toArray 47 (0,0)):=setRow_heap _ _ _ _ _ _ (bz _);generalize (w1.alloc (.cells #[.int .i64 0,.int .i64 0,.int .i64 0,.int .i64 0,.int .i64 0,.int .i64 0,.int .i64 0,.slice none 0 0,.slice none 0 0] 47)).setRow w1.heap.size (aG L q).toArray=W1 at bM Er;have HRA:Hid (W1.rangeAt w1.heap.size 0 (aG L q)):=dY Er;have HB:=Xt.out W1 (ag aL bM);have HBH:=(show Hid _ from HB);clear HB Er;go_wp2_with(first
   | (go_at_call 54;refine(bL _ _).mono ?_;rintro e wn ⟨he,rfl⟩;replace he:e=_:=he;subst he)
   | (refine wpList_load_mid rfl 47 _ rfl w1.heap.size 0 rfl (aG L q) _ HRA.out Tryz.underlying47 rfl iX ?_)
   | (refine wpList_store_row rfl 47 _ _ rfl (w.heap.size+1) 47 _ (aG L q).toArray rfl rfl HBH.out iX rfl (pz L q) ?_))
  refine bodyPost_ret (gY rfl _ _ _ rfl (uR (dY (setRow_heap _ _ _ _ _ _ HBH.out)))) rfl ?_;have ny:Below w.heap.size w W1:=ag cK (ag aL bM);have RL:=aX W1 (w.heap.size+1) (aG L q).toArray;refine⟨.inl ⟨rfl,q,rfl,hI.carry fun b hb=> ?_⟩,ny.trans (RL.below ny.size fun k hk e=>by unfold aJ at e;omega)⟩;have s1:=xB.out;have s2:=aL.size;exact⟨⟨by have:=hb.1;omega,Nat.lt_of_lt_of_le (Nat.lt_of_lt_of_le hb.2 bM.size) RL.size⟩,(RL.block b (Nat.lt_of_lt_of_le hb.2 bM.size) (by unfold aJ;have:=hb.1;omega)).trans (bM.block b hb.2)⟩
 ·go_enter Tryz.func83,Tryz.ntmps83
  go_upto_region 1 with fail
  rw[<-cO];clear cO;go_wp2_with(first
   | (refine wpList_load_mid rfl 25 _ rfl w.heap.size 5 rfl _ _ HR.out Tryz.underlying25 rfl (by kernel_rfl) ?_)
   | (go_at_call 120;refine hP.mono ?_;rintro x w1 ⟨⟨q,rfl,hI⟩,aL⟩)
   | (refine wpList_store_row rfl 47 _ _ rfl w1.heap.size 47 _ (aG L q).toArray rfl rfl (bz _) iX rfl (pz L q) ?_)
   | (go_at_call 54;refine(bL _ _).mono ?_;rintro e wn ⟨he,rfl⟩;replace he:e=_:=he;subst he))
  refine⟨rfl,.inr ⟨rfl,rfl⟩,ag cK (ag aL ?_)⟩;exact((Below.refl _ _).alloc (Nat.le_refl _) _).trans ((aX _ w1.heap.size _).below (by simp) fun q hq e=>by unfold aJ at e;omega)
theorem vZ{O:Nat->Prop}{w:World}{p:Option Addr}{c:Nat}{l:List Kn}(h:pM O w p c l)(hO:∀b,O b->b<w.heap.size)(hz:l.length<=100000)(kind key:ByteArray):
    Calls Tryz.prog 21 #[.slice p l.length c,.string kind,.string key] w fun e w'=>MX O w' (aW l kind key) e/\Below w.heap.size w w':=by
 obtain⟨W0,cO⟩:∃W0,W0=w.alloc (.cells (az zK Pt.zero).toArray 41):=⟨_,rfl⟩;have cK:Below w.heap.size w W0:=by rw[cO];exact(Below.refl _ _).alloc (Nat.le_refl _) _
 have kU:W0.heap[w.heap.size]?=some (.cells (az zK Pt.zero).toArray 41 (0,0)):=by rw[cO];exact bz _
 have HR:Hid (∀X,Below W0.heap.size W0 X->X.heap[w.heap.size]?=some (.cells (az zK Pt.zero).toArray 41 (0,0))):=fun X hX=>(hX.block _ (aP kU)).trans kU;have Ua:Hid (∀X,Below W0.heap.size W0 X->∀cs:Array Value,Below w.heap.size w (X.setRow w.heap.size cs)):=fun X hX cs=>(ag cK hX).trans ((aX X w.heap.size cs).below (ag cK hX).size fun q hq e=>by unfold aJ at e;omega);have MN:Hid (w.heap.size<W0.heap.size):=aP kU;obtain⟨n,hn⟩:∃n,l.length=n:=⟨_,rfl⟩;have HN:Hid (l.length=n):=hn;have hc:=h.1;rw[hn]at hz hc ⊢;clear hn kU;go_enter Tryz.func21,Tryz.ntmps21
 go_upto_region 1 with fail
 change Code.wp _ _ _ _ (w.alloc (.cells (az zK Pt.zero).toArray 41));rw[<-cO];clear cO;go_wp2
 go_loopw [8] (fun i wr=>∃k:Nat,i=.int .i64 k/\k<=n/\Hid (aW (l.take k) kind key=none)/\Below W0.heap.size W0 wr) (fun i _=>n - (intOf i).toNat)
 case atStart=>exact⟨0,rfl,Nat.zero_le _,rfl,Below.refl _ _⟩
 case round=>
  obtain⟨k,rfl,hk,HF,dM⟩:=hrel
  by_cases bQ:k<n
  ·have TS:(k:Int)<(n:Int):=by omega
   have eQ:k<l.length:=by rw[HN.out];exact bQ
   obtain⟨b,o,q,rfl,lY,bC,hE⟩:=h.2 k eQ;have Oh:=hO b lY;have HM:Hid (Dh kind key (l.getD k zK)=false->aW (l.take (k+1)) kind key=none):=qJ HF.out eQ;have HH:Hid (Dh kind key (l.getD k zK)=true->aW l kind key=some (l.getD k zK)):=tV HF.out eQ;generalize l.getD k zK=x at bC hE HM HH;have ny:=ag cK dM;have MP:Hid (∀X,Below w.heap.size w X->X.rangeAt b (o+k*17) (az x q)):=fun X hX m v hv=>(hX.cell (p:=⟨b,o+k*17+m,none⟩) Oh).trans (bC m v hv);have pq:Hid (wr.rangeAt b (o+k*17+1) (aA x.2 q)):=fun m v hv=>by
    rw[show o+k*17+1+m=o+k*17+(m+1) by omega];exact MP.out wr ny (m+1) v hv
   clear bC;have HX:Hid (∀e w',e=Ending.returned (.tuple #[l8 x q,.bool true])->Below w.heap.size w w'->aW l kind key=some x->MX O w' (aW l kind key) e/\Below w.heap.size w w'):=fun e w' he hb hf=>⟨by rw[hf];exact⟨q,he,hE.carry fun y hy=>⟨hy,hb.block y (hO y hy)⟩⟩,hb⟩;clear hE;simp only[Dh]at HM HH
   go_upto_region 5 with(first
    | (refine wpList_load_mid rfl 28 _ rfl b (o+k*17+1) rfl (aA x.2 q) _ pq.out Tryz.underlying28 rfl dX ?_)
    | (refine wpList_store_row rfl 28 _ _ rfl wr.heap.size 28 _ (aA x.2 q).toArray rfl rfl (bz _) dX rfl (Cg _ _) ?_))
   have bM:Below wr.heap.size wr ((wr.alloc (.cells (aA Ev.zero Pt.zero).toArray 28)).setRow wr.heap.size (aA x.2 q).toArray):=((Below.refl _ _).alloc (Nat.le_refl _) _).trans ((aX _ wr.heap.size _).below (by simp) fun q hq e=>by unfold aJ at e;omega);have Er:((wr.alloc (.cells (aA Ev.zero Pt.zero).toArray 28)).setRow wr.heap.size (aA x.2 q).toArray).heap[wr.heap.size]?=some (.cells (aA x.2 q).toArray 28 (0,0)):=setRow_heap _ _ _ _ _ _ (bz _);change Code.wp _ _ _ _ ((wr.alloc (.cells (aA Ev.zero Pt.zero).toArray 28)).setRow wr.heap.size (aA x.2 q).toArray);generalize (wr.alloc (.cells (aA Ev.zero Pt.zero).toArray 28)).setRow wr.heap.size (aA x.2 q).toArray=W1 at bM Er;have tQ:=ag dM bM;have HCK:=(show Hid _ from MP.out W1 (ag cK tQ));have d1:W1.cell? ⟨wr.heap.size,1,none⟩=some (.string x.2.aR):=ai Er 1 _ rfl;have d3:W1.cell? ⟨wr.heap.size,3,none⟩=some (.bool x.2.st):=ai Er 3 _ rfl;have d4:W1.cell? ⟨wr.heap.size,4,none⟩=some (.string x.2.key):=ai Er 4 _ rfl;clear Er bM pq MP ny dM;generalize x.2.st=st at d3 HM HH;generalize x.2.aR=aR at d1 HM HH;generalize x.2.key=ke at d4 HM HH
   cases st with
   | false=>
    have RB:=(show Hid _ from HM.out (by simp));go_wp2;go_roundw
    case rel=>exact⟨k+1,by go_num,bQ,RB,tQ⟩
    case measure=>simp[intOf];omega
   | true=>
    cases h1:(aR.toList==kind.toList)with
    | false=>
     have RB:=(show Hid _ from HM.out (by simp[h1]));go_wp2;go_roundw
     case rel=>exact⟨k+1,by go_num,bQ,RB,tQ⟩
     case measure=>simp[intOf];omega
    | true=>
     cases h2:(ke.toList==key.toList)with
     | false=>
      have RB:=(show Hid _ from HM.out (by simp[h1,h2]));go_wp2;go_roundw
      case rel=>exact⟨k+1,by go_num,bQ,RB,tQ⟩
      case measure=>simp[intOf];omega
     | true=>
      have HHH:=(show Hid _ from HH.out (by simp[h1,h2]));have Hg:=(show Hid _ from HR.out W1 tQ);clear HM HH;go_wp2_with(first
       | (refine wpList_load_mid rfl 41 _ rfl b (o+k*17) rfl (az x q) _ HCK.out Tryz.underlying41 rfl gV ?_)
       | (refine wpList_store_row rfl 41 _ _ rfl w.heap.size 41 _ (az x q).toArray rfl rfl Hg.out gV rfl (iW x q) ?_))
      refine bodyPost_ret (aK rfl _ _ _ rfl (uO (dY (setRow_heap _ _ _ _ _ _ Hg.out)))) rfl ?_;exact HX.out _ _ rfl (Ua.out _ tQ _) HHH.out
  ·obtain rfl:k=n:=by omega
   have JK:Hid (aW l kind key=none):=by
    have:=HF.out;rw[List.take_of_length_le (by rw[HN.out];omega)]at this;exact this
   have Hg:=(show Hid _ from HR.out wr dM);go_wp2_with(refine wpList_store_row rfl 41 _ _ rfl w.heap.size 41 _ (az zK Pt.zero).toArray rfl rfl Hg.out gV rfl (iW zK Pt.zero) ?_);refine bodyPost_ret (aK rfl _ _ _ rfl (uO (dY (setRow_heap _ _ _ _ _ _ Hg.out)))) rfl ?_;refine⟨?_,Ua.out _ dM _⟩;rw[JK.out]
   rfl
theorem nR{O:Nat->Prop}{w:World}{p:Option Addr}{c:Nat}{l:List Kn}(h:pM O w p c l)(hO:∀b,O b->b<w.heap.size)(hz:l.length<=100000)(kind key:ByteArray):
    Calls Tryz.prog 21 #[.slice p l.length c,.string kind,.string key] w fun e w'=>(∃q,e=.returned (.tuple #[l8 ((aW l kind key).getD zK) q,.bool (aW l kind key).isSome])/\ji O w' ((aW l kind key).getD zK).2 q)/\Below w.heap.size w w':=by
 refine(vZ h hO hz kind key).mono fun e w' hh=> ?_;generalize aW l kind key=o at hh
 cases o with
 | none=>exact⟨⟨Pt.zero,hh.1,EJ _ _⟩,hh.2⟩
 | some k=>
  obtain⟨⟨q,he,hi⟩,hb⟩:=hh;exact⟨⟨q,he,hi⟩,hb⟩
theorem lH{O:Nat->Prop}{w:World}{e:Ev}{p:Pt}(h:ji O w e p)(hO:∀b,O b->b<w.heap.size)(hz:szJ 13 e.content=true)(s:ByteArray):
    Calls Tryz.prog 19 #[eF e p,.string s] w fun x w'=>x=.returned (.string (dW e.content s))/\Below w.heap.size w w':=by
 obtain⟨W0,cO⟩:∃W0,W0=w.alloc (.cells (aA e p).toArray 28):=⟨_,rfl⟩;have cK:Below w.heap.size w W0:=by rw[cO];exact(Below.refl _ _).alloc (Nat.le_refl _) _
 have kU:W0.heap[w.heap.size]?=some (.cells (aA e p).toArray 28 (0,0)):=by rw[cO];exact bz _
 have hV:=iI h hO cK kU;have BK:=(show Hid _ from hV.qo);have hG:=yB (O:=(· <W0.heap.size)) (w:=W0) (j:=e.content) hV.ev.cont (fun _ h=>h) (fH hz) s;have HT:Hid (dW e.content s=txtT (dI e.content s)):=rfl;clear h hV kU hz;unfold eF;generalize dI e.content s=g at hG HT
 cases g with
 | none=>
  unfold C9 zJP at hG;go_enter Tryz.func19,Tryz.ntmps19
  go_upto_region 1 with fail
  rw[<-cO];clear cO;go_wp2_with(first
   | (refine wpList_load_mid rfl 25 _ rfl w.heap.size 5 rfl _ _ BK.out Tryz.underlying25 rfl (by kernel_rfl) ?_)
   | (go_at_call 43;refine hG.mono ?_;rintro x w1 ⟨rfl,aL⟩))
  go_ret;exact⟨by rw[HT.out];rfl,ag cK (ag aL ((Below.refl _ _).alloc (Nat.le_refl _) _))⟩
 | some v=>
  obtain⟨vk,vi,vt,vks,vls⟩:=v;unfold C9 at hG;have hG2:Calls Tryz.prog 43 #[.agg #[.int .i64 e.content.kind,.int .i64 e.content.int,.string e.content.text,.slice p.pk e.content.keys.length p.ck,.slice p.pl e.content.list.length p.cl],.string s] W0 fun x w'=>(∃i p n c q m d,x=.returned (.tuple #[.agg #[.int .i64 vk,.int .i64 i,.string vt,.slice p n c,.slice q m d],.bool true]))/\Below W0.heap.size W0 w':=by
   refine hG.mono fun x w' hh=>⟨?_,hh.2⟩;obtain⟨k,i,t,p',n,c,q,m,d,hx,hj⟩:=hh.1;obtain⟨rfl,rfl,rfl,_⟩:=bU hj;exact⟨_,_,_,_,_,_,_,hx⟩
  clear hG
  cases h3:decide (vk=3)with
  | true=>
   obtain rfl:vk=3:=by simpa using h3
   go_enter Tryz.func19,Tryz.ntmps19
   go_upto_region 1 with fail
   rw[<-cO];clear cO;go_wp2_with(first
    | (refine wpList_load_mid rfl 25 _ rfl w.heap.size 5 rfl _ _ BK.out Tryz.underlying25 rfl (by kernel_rfl) ?_)
    | (go_at_call 43;refine hG2.mono ?_;rintro x w1 ⟨⟨i,p',n,c,q,m,d,rfl⟩,aL⟩))
   go_ret;exact⟨by rw[HT.out];rfl,ag cK (ag aL ((Below.refl _ _).alloc (Nat.le_refl _) _))⟩
  | false=>
   have h4:¬vk=3:=by simpa using h3
   have h5:(vk==3)=false:=by simpa using h3
   go_enter Tryz.func19,Tryz.ntmps19
   go_upto_region 1 with fail
   rw[<-cO];clear cO;go_wp2_with(first
    | (refine wpList_load_mid rfl 25 _ rfl w.heap.size 5 rfl _ _ BK.out Tryz.underlying25 rfl (by kernel_rfl) ?_)
    | (go_at_call 43;refine hG2.mono ?_;rintro x w1 ⟨⟨i,p',n,c,q,m,d,rfl⟩,aL⟩))
   go_ret;exact⟨by rw[HT.out];exact congrArg (fun b=>Ending.returned (.string b)) (if_neg h4).symm,ag cK (ag aL ((Below.refl _ _).alloc (Nat.le_refl _) _))⟩
theorem qp{O:Nat->Prop}{w:World}{p:Option Addr}{c:Nat}{l:List Kn}(h:pM O w p c l)(hO:∀b,O b->b<w.heap.size)(hz:FE l)(u:ByteArray):
    Calls Tryz.prog 18 #[.slice p l.length c,.string u] w fun e w'=>e=.returned (.string (jK l u))/\Below w.heap.size w w':=by
 have hF:=vZ h hO hz.len bg u;have xB:Hid (szJ 13 ((aW l bg u).getD zK).2.content=true):=yD hz bg u;have HT:Hid (jK l u=dW ((aW l bg u).getD zK).2.content dG):=rfl;clear h hz;generalize aW l bg u=f at hF xB HT
 cases f with
 | none=>
  have Zj:Calls Tryz.prog 21 #[.slice p l.length c,.string bg,.string u] w fun e w'=>e=.returned (.tuple #[.agg (az zK Pt.zero).toArray,.bool false])/\Below w.heap.size w w':=hF;clear hF;go_enter Tryz.func18,Tryz.ntmps18;go_wp2_with(first
   | (go_at_call 21;refine Zj.mono ?_;rintro e w1 ⟨rfl,aL⟩)
   | (refine wpList_store_row rfl 41 _ _ rfl w1.heap.size 41 _ (az zK Pt.zero).toArray rfl rfl (bz _) gV rfl (iW zK Pt.zero) ?_))
  go_ret;refine⟨by rw[HT.out];rfl,ag aL ?_⟩;exact((Below.refl _ _).alloc (Nat.le_refl _) _).trans ((aX _ w1.heap.size _).below (by simp) fun q hq e=>by unfold aJ at e;omega)
 | some k=>
  have Zj:Calls Tryz.prog 21 #[.slice p l.length c,.string bg,.string u] w fun e w'=>(∃q,e=.returned (.tuple #[.agg (az k q).toArray,.bool true])/\ji O w' k.2 q)/\Below w.heap.size w w':=hF;clear hF;go_enter Tryz.func18,Tryz.ntmps18
  go_upto_region 2 with(first
   | (go_at_call 21;refine Zj.mono ?_;rintro e w1 ⟨⟨q,rfl,hq⟩,aL⟩)
   | (refine wpList_store_row rfl 41 _ _ rfl w1.heap.size 41 _ (az k q).toArray rfl rfl (bz _) gV rfl (iW k q) ?_))
  have bM:Below w1.heap.size w1 ((w1.alloc (.cells (az zK Pt.zero).toArray 41)).setRow w1.heap.size (az k q).toArray):=
   ((Below.refl _ _).alloc (Nat.le_refl _) _).trans ((aX _ w1.heap.size _).below (by simp) fun q hq e=>by unfold aJ at e;omega)
  have hX:((w1.alloc (.cells (az zK Pt.zero).toArray 41)).setRow w1.heap.size (az k q).toArray).heap[w1.heap.size]?=some (.cells (az k q).toArray 41 (0,0)):=setRow_heap _ _ _ _ _ _ (bz _);change Code.wp _ _ _ _ ((w1.alloc (.cells (az zK Pt.zero).toArray 41)).setRow w1.heap.size (az k q).toArray);generalize (w1.alloc (.cells (az zK Pt.zero).toArray 41)).setRow w1.heap.size (az k q).toArray=W1 at bM hX;have HR:Hid (W1.rangeAt w1.heap.size 1 (aA k.2 q)):=fC hX 1 rfl;have JL:=lH (O:=O) (w:=W1) (e:=k.2) (p:=q) (hq.carry fun x hx=>⟨hx,bM.block x (Nat.lt_of_lt_of_le (hO x hx) aL.size)⟩) (fun b hb=>Nat.lt_of_lt_of_le (hO b hb) (Nat.le_trans aL.size bM.size)) xB.out dG;unfold eF at JL;clear hX hq;go_wp2_with(first
   | (refine wpList_load_mid rfl 28 _ rfl w1.heap.size 1 rfl (aA k.2 q) _ HR.out Tryz.underlying28 rfl dX ?_)
   | (go_at_call 19;refine JL.mono ?_;rintro e w2 ⟨rfl,aY⟩))
  go_ret;exact⟨by rw[HT.out];rfl,ag aL (ag bM aY)⟩
open Go.RowKit Go.Maps
theorem v_{t k e:TypeId}(ht:Tryz.prog.underlying t=some (.map k e))(n:Int)(w:World):(Instr.makeMap t (some (.int .i64 n))).run Tryz.prog w=.ok (.map (some w.heap.size)) (w.alloc (.map #[] 0)):=by
 simp[Instr.makeMap,run_underlying ht,asInt,asIntOf,Result.andThen]
def zV(w:World)(M:Nat)(ks:List ByteArray):Prop:=
 ∃D:DataW Unit,w.ownsMap Tryz.prog 9 (unitElem (H:=Unit)) M ks.length D/\(∀s,Yw s->Maps.has D (QI s)=zh ks s)/\Maps.size D<=ks.length/\(Maps.size D=ks.length↔noKeyTwice ks=true)
theorem zV.made(w:World):zV (w.alloc (.map #[] 0)) w.heap.size []:=
 ⟨.map [],World.ownsMap_made _ _ _ _,fun _ _=>rfl,Nat.le_refl _,⟨fun _=>rfl,fun _=>rfl⟩⟩
theorem FO{ks:List ByteArray}{s:ByteArray}:zh ks s=true↔s∈ks:=by
 unfold zh;rw[List.any_eq_true]
 constructor
 ·rintro⟨x,hx,h⟩;have:x=s:=by
   have h:=of_decide_eq_true h
   cases x;cases s
   simp only at h;rw[h]
  exact this ▸ hx
 ·exact fun h=>⟨s,h,by simp⟩
theorem Dn(ks:List ByteArray)(s:ByteArray):noKeyTwice (ks++ [s])=true↔noKeyTwice ks=true/\zh ks s=false:=by
 constructor
 ·intro h;have h:=List.pairwise_append.1 (gM h);refine⟨fE h.1, ?_⟩
  cases e:zh ks s with
  | false=>rfl
  | true=>exact absurd rfl (h.2.2 s (FO.1 e) s (by simp))
 ·rintro⟨h1,h2⟩;refine fE (List.pairwise_append.2 ⟨gM h1,List.pairwise_singleton _ _,fun a ha b hb e=> ?_⟩);rw[List.mem_singleton.1 hb]at e;rw[FO.2 (e ▸ ha)]at h2
  cases h2
theorem zV.put{w w2:World}{M:Nat}{ks:List ByteArray}{D:DataW Unit}{s:ByteArray}(h0:w.ownsMap Tryz.prog 9 (unitElem (H:=Unit)) M ks.length D)(aN:w2.ownsMap Tryz.prog 9 (unitElem (H:=Unit)) M (ks.length+1) (D.put (QI s) (.agg [])))
    (hh:∀s,Yw s->Maps.has D (QI s)=zh ks s) (h1:Maps.size D<=ks.length) (h2:Maps.size D=ks.length↔noKeyTwice ks=true) (hs:Yw s):zV w2 M (ks++ [s]):=by
 have hm:=h0.isMap;have fK:=size_put (k:=QI s) (h0.tidy zdF) (.agg []);rw[hh s hs]at fK;refine⟨D.put (QI s) (.agg []),by rw[List.length_append];exact aN,fun x hx=> ?_, ?_, ?_⟩
 ·rw[NT]
  by_cases e:x=s
  ·subst e;rw[has_put_same hm (show WideAt.IsKeyLit (QI x)from trivial)];simp
  ·rw[has_put_other (fun h'=>e (UW h')),hh x hx];have:decide (s.data=x.data)=false:=by
    apply decide_eq_false
    intro h'
    apply e
    cases x;cases s
    simp only at h';rw[h']
   rw[this,Bool.or_false]
 ·rw[fK,List.length_append]
  split<;>simp<;>omega
 ·rw[fK,List.length_append,Dn,<-h2]
  cases e:zh ks s with
  | true=>simp;omega
  | false=>simp
theorem RN{O:Nat->Prop}{ks:List ByteArray}{p:Option Addr}{c:Nat}{w:World}(iK:jP O w p c ks)(hO:∀k,O k->k<w.heap.size)(hl:ks.length<=100000)(CZ:∀k∈ks,k.size<=1000000000):
    Calls Tryz.prog 132 #[.slice p ks.length c] w fun x w'=>x=.returned (.bool (noKeyTwice ks))/\Below w.heap.size w w':=by
 obtain⟨n,hn⟩:∃n,ks.length=n:=⟨_,rfl⟩;have HN:Hid (ks.length=n):=hn;have Oz:=iK.1;rw[hn]at hl Oz ⊢;clear hn;have hmm:=v_ Tryz.underlying171;go_enter Tryz.func132,Tryz.ntmps132;go_wp2;clear hmm
 go_loopw [11] (fun i wr=>∃k:Nat,i=.int .i64 k/\k<=n/\Below w.heap.size w wr/\zV wr w.heap.size (ks.take k)) (fun i _=>n - (intOf i).toNat)
 case atStart=>exact⟨0,rfl,Nat.zero_le _,(Below.refl _ _).alloc (Nat.le_refl _) _,zV.made w⟩
 case round=>
  obtain⟨k,rfl,hk,hb,D,aN,zex,Xn,Y7⟩:=hrel;have HH:Hid (∀s,Yw s->Maps.has D (QI s)=zh (ks.take k) s):=zex;have HS2:Hid (Maps.size D=(ks.take k).length↔noKeyTwice (ks.take k)=true):=Y7;have HS1:Hid (Maps.size D<=(ks.take k).length):=Xn;have HTL:Hid ((ks.take k).length=k):=by show _=_;rw[List.length_take,HN.out];omega
  clear zex Xn Y7
  by_cases bQ:k<n
  ·have TS:(k:Int)<(n:Int):=by omega
   obtain⟨a,Zk,qR,y_⟩:=iK.2 k (by rw[HN.out];exact bQ);subst Zk;have gu:wr.cell? (a.add k)=some (.string (ks.getD k aT)):=(World.cell?_of_block (by rw[bK];exact hb.block _ (hO _ qR))).trans y_;have hTS:ks.take (k+1)=ks.take k++ [ks.getD k aT]:=by
    have eQ:k<ks.length:=by rw[HN.out];exact bQ
    rw[List.take_add_one,List.getElem?_eq_getElem eQ,List.getD_eq_getElem?_getD,List.getElem?_eq_getElem eQ];rfl
   have QP:(ks.getD k aT).size<=1000000000:=CZ _ (by
    have eQ:k<ks.length:=by rw[HN.out];exact bQ
    rw[List.getD_eq_getElem?_getD,List.getElem?_eq_getElem eQ];exact List.getElem_mem _)
   obtain⟨u,hu⟩:∃u,ks.getD k aT=u:=⟨_,rfl⟩;rw[hu]at gu hTS QP;have Hl:Hid (ks.take (k+1)=ks.take k++ [u]):=hTS;clear hTS hu y_;have jv:Yw u:=by unfold Yw maxLen;omega
   have A9:=zgr jv;have Uk:Hid ((ks.take k).length<maxLen):=by show _<_;rw[HTL.out];unfold maxLen;omega
   have HV:Hid (unitElem (H:=Unit) (.agg #[])=some (.agg [], [])):=unitElem_mk;go_wp2_with(at_mapUpdate;refine wpList_mapUpdate_own _ rfl _ _ _ 171 rfl 9 172 zdF Tryz.underlying171 _ w.heap.size (ks.take k).length D rfl aN Uk.out _ _ _ rfl rfl A9 (.agg []) [] HV.out ?_;intro w2 fe pU);go_roundw
   case rel=>exact⟨k+1,by go_num,bQ,hb.trans ((ay.gQ (S:=fun k=>k=w.heap.size) pU fun _ _ e=>(Option.some.inj e).symm).below hb.size fun k hk=>by omega),by rw[Hl.out];exact zV.put aN fe HH.out HS1.out HS2.out jv⟩
   case measure=>simp[intOf];omega
  ·obtain rfl:k=n:=by omega
   have hTA:ks.take k=ks:=List.take_of_length_le (by rw[HN.out];omega);have hr:decide ((Maps.size D:Int)=(k:Int))=noKeyTwice ks:=by
    have h:=HS2.out;rw[hTA,HN.out]at h;rw[Bool.eq_iff_iff,<-h,decide_eq_true_eq];omega
   have HR:Hid (decide ((Maps.size D:Int)=(k:Int))=noKeyTwice ks):=hr;clear hr hTA;go_wp2_with(at_len;refine wpList_len_own _ rfl _ 171 rfl 9 172 Tryz.underlying171 _ w.heap.size (ks.take k).length D rfl aN ?_);go_ret;exact⟨aj (by first| exact HR.out| simpa using HR.out),hb⟩
open Go.RowKit
def FP(O:Nat->Prop)(B:Nat)(vk vl:Value)(w:World):Nat->Prop:=fun k=>O k\/ (B<=k/\k<w.heap.size/\vk.ownBlock≠some k/\vl.ownBlock≠some k)
structure TI(O:Nat->Prop)(B g:Nat)(kd:Int)(WB:World)(ks:List ByteArray)(js:List J)(vk vl:Value)(w:World):Prop where
 obj:w.heap[g]?=some (.cells #[.int .i64 kd,.int .i64 0,.string ⟨#[]⟩,vk,vl] 25 (0,0))
 keys:w.ownsRow B 9 1 vk ks.length (ks.map Value.string)
 fq:∃xs,w.ownsRow B 25 5 vl js.length xs/\isRow (FP O B vk vl w) w js xs
 ne:∀i,vk.ownBlock=some i->vl.ownBlock≠some i
 jo:ay (One g) WB w
 JQ:WB.heap.size=B
 lt:g<B
 low:∀k,O k->k<B/\k≠g
theorem dZ{w:World}{B e size n:Nat}{v:Value}{xs:List Value}(h:w.ownsRow B e size v n xs):∃q c,v=.slice q n c:=by
 rcases h.2 with⟨h',h0⟩| ⟨g',oK,cur,h',_⟩
 ·exact⟨none,0,by rw[h',h0]⟩
 ·exact⟨_,_,h'⟩
section
variable {O : Nat -> Prop} {B g : Nat} {kd : Int} {WB W W2 W5 : World} {ks : List ByteArray} {js : List J} {vk vl kP jd : Value}
theorem TI.size(h:TI O B g kd WB ks js vk vl W):B<=W.heap.size:=by have:=h.jo.size;have:=h.JQ;omega
theorem TI.start(fK:WB.heap.size=B)(hg:g<B)(JR:∀k,O k->k<B/\k≠g)(Zl:WB.heap[g]?=some (.cells #[.int .i64 kd,.int .i64 0,.string ⟨#[]⟩,.slice none 0 0,.slice none 0 0] 25 (0,0))):TI O B g kd WB [] [] (.slice none 0 0) (.slice none 0 0) WB:=
 ⟨Zl,World.ownsRow_nil _ _ _ _,⟨[],World.ownsRow_nil _ _ _ _,rfl⟩,(fun i h=>by cases h),ay.refl _ _,fK,hg,JR⟩
theorem TI.more(h:TI O B g kd WB ks js vk vl W)(hb:Below W.heap.size W W2):TI O B g kd WB ks js vk vl W2:=by
 have hs:=h.size;have bQ:=h.lt;obtain⟨xs,h1,h2⟩:=h.fq;have kp:ay (fun _=>False) W W2:=ay.bq hb;refine⟨(hb.block g (by omega)).trans h.obj,bf h.keys kp fun _ _ h=>h,⟨xs,bf h1 kp fun _ _ h=>h,h2.carry fun k hk=> ?_⟩,h.ne,h.jo.trans kp fun _ _ h=>h.elim,h.JQ,bQ,h.low⟩
 rcases hk with hk| hk
 ·have:=h.low k hk;exact⟨.inl hk,hb.block k (by omega)⟩
 ·exact⟨.inr ⟨hk.1,by have:=hk.2.1;have:=hb.size;omega,hk.2.2⟩,hb.block k hk.2.1⟩
theorem TI.drew(h:TI O B g kd WB ks js vk vl W):TI O B g kd WB ks js vk vl W.drew:=h.more ⟨rfl,rfl,rfl,Nat.le_refl _,fun _ _=>rfl⟩
theorem TI.alloc(h:TI O B g kd WB ks js vk vl W)(o:Obj):TI O B g kd WB ks js vk vl (W.alloc o):=h.more ((Below.refl _ _).alloc (Nat.le_refl _) o)
theorem TI.fresh(h:TI O B g kd WB ks js vk vl W)(_hb:Below W.heap.size W W2){y:J}{cs:List Value}(hy:isJ (fun k=>O k\/ tN W W2 k) W2 y cs):isJ (FP O B vk vl W2) W2 y cs:=by
 have hs:=h.size;obtain⟨xs,h1,_⟩:=h.fq;refine hy.carry fun k hk=>⟨?_,rfl⟩
 rcases hk with hk| hk
 ·exact .inl hk
 ·have e1:=hk.1;have e2:=hk.2;exact .inr ⟨by omega,e2,fun e=>by have:=(aO h.keys k e).2;omega,fun e=>by have:=(aO h1 k e).2;omega⟩
theorem FQ(hb:Below W.heap.size W W2)(hO:∀k,O k->k<W.heap.size){y:J}{cs:List Value}(hy:isJ (FP O B vk vl W) W y cs):isJ (FP O B vk vl W2) W2 y cs:=by
 refine hy.carry fun k hk=> ?_
 rcases hk with hk| hk
 ·exact⟨.inl hk,hb.block k (hO k hk)⟩
 ·exact⟨.inr ⟨hk.1,by have:=hk.2.1;have:=hb.size;omega,hk.2.2⟩,hb.block k hk.2.1⟩
theorem TI.key(h:TI O B g kd WB ks js vk vl W){x:ByteArray}(aN:W2.ownsRow B 9 1 kP (ks.length+1) (ks.map Value.string++ [.string x]))(hg:W.grownBy W2 vk.ownBlock)(iR:kP.ownBlock=vk.ownBlock\/ kP.ownBlock=some W.heap.size):
    W2.cell? ⟨g,3,none⟩=some vk/\W2.frozen? ⟨g,3,none⟩=false/\TI O B g kd WB (ks++ [x]) js kP vl (W2.setCell ⟨g,3,none⟩ kP)/\∀k,FP O B vk vl W k->FP O B kP vl (W2.setCell ⟨g,3,none⟩ kP) k/\(W2.setCell ⟨g,3,none⟩ kP).heap[k]?=W.heap[k]?:=by
 have hs:=h.size;have bQ:=h.lt;have Q3:=hg.size;have qO:=aO h.keys;obtain⟨xs,bV,eZ⟩:=h.fq;have qc:=aO bV;have low:∀k,k<B->W2.heap[k]?=W.heap[k]?:=fun k hk=>hg.block k (by omega) fun e=>by have:=(qO k e.symm).1;omega
 have ob:W2.heap[g]?=some (.cells #[.int .i64 kd,.int .i64 0,.string ⟨#[]⟩,vk,vl] 25 (0,0)):=(low g bQ).trans h.obj;have K3:ay (One g) W2 (W2.setCell ⟨g,3,none⟩ kP):=ay.setCell (ay.refl _ _) (fun _=>(rfl:g=g)) _;have QC:=aO aN;have carry:∀k,FP O B vk vl W k->FP O B kP vl (W2.setCell ⟨g,3,none⟩ kP) k/\(W2.setCell ⟨g,3,none⟩ kP).heap[k]?=W.heap[k]?:=fun k hk=>by
  rcases hk with hk| hk
  ·have:=h.low k hk;exact⟨.inl hk,by rw[K3.block k (by omega) (by unfold One;omega),low k this.1]⟩
  ·have e1:=hk.1;have e2:=hk.2.1;refine⟨.inr ⟨e1,by have:=K3.size;omega,fun e=> ?_,hk.2.2.2⟩,by rw[K3.block k (by omega) (by unfold One;omega),hg.block k e2 fun e=>hk.2.2.1 e.symm]⟩
   rcases iR with h'| h'
   ·exact hk.2.2.1 (h' ▸ e)
   ·rw[h']at e;have:=Option.some.inj e;omega
 refine⟨fV ob,gN ob 3,⟨?_, ?_,⟨xs, ?_,eZ.carry carry⟩, ?_, ?_,h.JQ,bQ,h.low⟩,carry⟩
 ·rw[heap_setCell_same _ g 3 _ _ _ ob];rfl
 ·rw[List.length_append,List.map_append];exact bf aN K3 fun k e=>by have:=(QC k e).1;unfold One;omega
 ·refine bf (bf bV (S:=fun k=>vk.ownBlock=some k) (ay.gQ hg fun _ _ e=>e) fun k e e'=>h.ne k e' e) K3 fun k e=>by have:=(qc k e).1;unfold One;omega
 ·intro i e e'
  rcases iR with h1| h1
  ·exact h.ne i (h1 ▸ e) e'
  ·rw[h1]at e;have h2:=(qc i e').2;have h3:=Option.some.inj e;omega
 ·exact(h.jo.trans (S':=fun k=>vk.ownBlock=some k) (ay.gQ hg fun _ _ e=>e) fun k hk e=>by have:=(qO k e).1;have:=h.JQ;omega).then K3
theorem TI.val(h:TI O B g kd WB ks js vk vl W){y:J}{cs xs:List Value}(bV:W.ownsRow B 25 5 vl js.length xs)(eZ:isRow (FP O B vk vl W) W js xs)(hy:isJ (FP O B vk vl W) W y cs)(hg:W.grownBy W2 vl.ownBlock)(iR:jd.ownBlock=vl.ownBlock\/ jd.ownBlock=some W.heap.size)
    (Zl:W5.heap[g]?=some (.cells #[.int .i64 kd,.int .i64 0,.string ⟨#[]⟩,vk,jd] 25 (0,0))) (aN:W5.ownsRow B 25 5 jd (js.length+1) (xs++cs)) (Cb:ay (fun k=>k=g\/ jd.ownBlock=some k) W2 W5):TI O B g kd WB ks (js++ [y]) vk jd W5:=by
 have hs:=h.size;have bQ:=h.lt;have Q3:=hg.size;have qO:=aO h.keys;have qc:=aO bV;have NQ:=aO aN;have carry:∀k,FP O B vk vl W k->FP O B vk jd W5 k/\W5.heap[k]?=W.heap[k]?:=by
  intro k hk
  rcases hk with hk| hk
  ·have:=h.low k hk;exact⟨.inl hk,by rw[Cb.block k (by omega) (fun e=>e.elim (fun e=>this.2 e) fun e=>by have:=(NQ k e).1;omega),hg.block k (by omega) fun e=>by have:=(qc k e.symm).1;omega]⟩
  ·have e1:=hk.1;have e2:=hk.2.1;have e3:jd.ownBlock≠some k:=fun e=>by
    rcases iR with h'| h'
    ·exact hk.2.2.2 (h' ▸ e)
    ·rw[h']at e;have:=Option.some.inj e;omega
   exact⟨.inr ⟨e1,by have:=Cb.size;omega,hk.2.2.1,e3⟩,by rw[Cb.block k (by omega) (fun e=>e.elim (fun e=>by omega) e3),hg.block k e2 fun e=>hk.2.2.2 e.symm]⟩
 refine⟨Zl, ?_,⟨xs++cs,by rw[List.length_append];exact aN,isRow.snoc hy.AP (hy.carry carry) js xs (eZ.carry carry)⟩, ?_, ?_,h.JQ,bQ,h.low⟩
 ·refine bf (bf h.keys (S:=fun k=>vl.ownBlock=some k) (ay.gQ hg fun _ _ e=>e) fun k e e'=>h.ne k e e') Cb fun k e e'=> ?_
  rcases e' with e'| e'
  ·have:=(qO k e).1;omega
  ·rcases iR with h'| h'
   ·exact h.ne k e (h' ▸ e')
   ·rw[h']at e';have:=Option.some.inj e';have:=(qO k e).2;omega
 ·intro i e e'
  rcases iR with h'| h'
  ·exact h.ne i e (h' ▸ e')
  ·rw[h']at e';have:=Option.some.inj e';have:=(qO i e).2;omega
 ·refine(h.jo.trans (S':=fun k=>vl.ownBlock=some k) (ay.gQ hg fun _ _ e=>e) fun k hk e=>by have:=(qc k e).1;have:=h.JQ;omega).trans Cb fun k hk e=> ?_
  rcases e with e| e
  ·exact e
  ·have:=(NQ k e).1;have:=h.JQ;omega
end
def Xv(w:World)(b o:Nat)(v0 v1 v2 v3 v4:Value):World:=((((w.setCell ⟨b,o,none⟩ v0).setCell ⟨b,o+1,none⟩ v1).setCell ⟨b,o+2,none⟩ v2).setCell ⟨b,o+3,none⟩ v3).setCell ⟨b,o+4,none⟩ v4
theorem uT(w:World)(b o:Nat)(v0 v1 v2 v3 v4:Value):ay (One b) w (Xv w b o v0 v1 v2 v3 v4):=by
 have K:∀(W:World) (o:Nat) (v:Value),ay (One b) W (W.setCell ⟨b,o,none⟩ v):=fun W o v=>ay.setCell (ay.refl _ _) (fun _=>(rfl:b=b)) _;exact((((K _ _ _).then (K _ _ _)).then (K _ _ _)).then (K _ _ _)).then (K _ _ _)
theorem yF{w:World}{B e b m cap:Nat}{xs:List Value}{z0 z1 z2 z3 z4:Value}(h:w.ownsRow B e 5 (.slice (some ⟨b,0,none⟩) (m+1) cap) (m+1) (xs++ [z0,z1,z2,z3,z4]))(hx:xs.length=m*5)(v0 v1 v2 v3 v4:Value):
    (Xv w b (m*5) v0 v1 v2 v3 v4).ownsRow B e 5 (.slice (some ⟨b,0,none⟩) (m+1) cap) (m+1) (xs++ [v0,v1,v2,v3,v4]):=by
 have h1:=(((((h.stored (m*5) v0).1.stored (m*5+1) v1).1.stored (m*5+2) v2).1.stored (m*5+3) v3).1.stored (m*5+4) v4).1;have e:(((((xs++ [z0,z1,z2,z3,z4]).set (m*5) v0).set (m*5+1) v1).set (m*5+2) v2).set (m*5+3) v3).set (m*5+4) v4=xs++ [v0,v1,v2,v3,v4]:=by
  rw[<-hx];simp
 rw[e]at h1;exact h1
end Go.Proofs.YtldegjjaknelgaaGreatDoor

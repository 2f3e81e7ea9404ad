/- A part. -/
import Derived.Test.YtldegjjaknelgaaGreatDoorAJ23
set_option maxRecDepth 100000
set_option maxHeartbeats 64000000
namespace Go.Proofs.YtldegjjaknelgaaGreatDoor
open Go.RowKit
theorem qD{w:World}(k i:Int)(t:ByteArray)(p q:Option Addr)(n c m d:Nat):
    Calls Tryz.prog 102 #[.agg #[.int .i64 k,.int .i64 i,.string t,.slice p n c,.slice q m d]] w fun e w'=>e=.returned (.tuple #[.int .i64 i,.bool (lu k i)])/\Below w.heap.size w w':=by
 obtain⟨wA,g_⟩:∃wA,wA=w.alloc (.cells #[.int .i64 k,.int .i64 i,.string t,.slice p n c,.slice q m d] 25):=⟨_,rfl⟩;have bM:Below w.heap.size w wA:=by rw[g_];exact(Below.refl _ _).alloc (Nat.le_refl _) _
 have hA:wA.heap[w.heap.size]?=some (.cells #[.int .i64 k,.int .i64 i,.string t,.slice p n c,.slice q m d] 25 (0,0)):=by rw[g_];exact bz _
 have i0:=ai hA 0 _ rfl;have i1:=ai hA 1 _ rfl;have HE:Hid (∀n,Below w.heap.size w (wA.drewN n)):=fun n=>ag bM (qj wA n);clear hA bM;have HL:Hid (lu k i=(decide (k=2)&&(decide (-1073741824<=i)&&decide (i<=1073741824)))):=rfl
 by_cases h2:k=2
 ·subst h2
  by_cases ha: -1073741824<=i
  ·by_cases hb:i<=1073741824
   ·have hd1:decide (-1073741824<=i)=true:=decide_eq_true ha;have JJ:decide (i<=1073741824)=true:=decide_eq_true hb;rw[HL.out];simp only[ha,hb,decide_true,Bool.and_self];go_enter Tryz.func102,Tryz.ntmps102;go_wp2;rw[<-g_];clear g_;go_quiet (fail);go_wp2;go_ret2;exact⟨rfl,HE.out _⟩
   ·have hd1:decide (-1073741824<=i)=true:=decide_eq_true ha;have JJ:decide (i<=1073741824)=false:=decide_eq_false hb;rw[HL.out];simp only[ha,hb,decide_true,decide_false,Bool.and_false];go_enter Tryz.func102,Tryz.ntmps102;go_wp2;rw[<-g_];clear g_;go_quiet (fail);go_wp2;go_ret2;exact⟨rfl,HE.out _⟩
  ·have hd:decide (-1073741824<=i)=false:=decide_eq_false ha;rw[HL.out];simp only[ha,decide_true,decide_false,Bool.false_and,Bool.and_false];go_enter Tryz.func102,Tryz.ntmps102;go_wp2;rw[<-g_];clear g_;go_quiet (fail);go_wp2;go_ret2;exact⟨rfl,HE.out _⟩
 ·have hd:(k==2)=false:=by simp[h2]
  have hd':decide (k=2)=false:=decide_eq_false h2;rw[HL.out];simp only[h2,decide_false,Bool.false_and];go_enter Tryz.func102,Tryz.ntmps102;go_wp2;rw[<-g_];clear g_;go_quiet (fail);go_wp2;go_ret2;exact⟨rfl,HE.out _⟩
theorem kg{O:Nat->Prop}{w:World}{j:J}{k i:Int}{t:ByteArray}{pk pl:Option Addr}{nk ck nl cl:Nat}(hj:isJ O w j [.int .i64 k,.int .i64 i,.string t,.slice pk nk ck,.slice pl nl cl])(hO:∀b,O b->b<w.heap.size)(hz:j.ks.length<=100000)(s:ByteArray)(z:Int):
    Calls Tryz.prog 75 #[.agg #[.int .i64 k,.int .i64 i,.string t,.slice pk nk ck,.slice pl nl cl],.string s,.int .i64 z] w fun e w'=>e=.returned (.tuple #[.int .i64 (numT z (dI j s)).1,.bool (!(numT z (dI j s)).2)])/\Below w.heap.size w w':=by
 obtain⟨wA,g_⟩:∃wA,wA=w.alloc (.cells #[.int .i64 k,.int .i64 i,.string t,.slice pk nk ck,.slice pl nl cl] 25):=⟨_,rfl⟩;have bM:Below w.heap.size w wA:=by rw[g_];exact(Below.refl _ _).alloc (Nat.le_refl _) _
 have hA:wA.heap[w.heap.size]?=some (.cells #[.int .i64 k,.int .i64 i,.string t,.slice pk nk ck,.slice pl nl cl] 25 (0,0)):=by rw[g_];exact bz _
 have hG:=yB (hj.carry (O':=O) (w':=wA) fun x hx=>⟨hx,bM.block x (hO x hx)⟩) (fun b hb=>Nat.lt_of_lt_of_le (hO b hb) bM.size) hz s;have i0:=ai hA 0 _ rfl;have i1:=ai hA 1 _ rfl;have i2:=ai hA 2 _ rfl;have i3:=ai hA 3 _ rfl;have i4:=ai hA 4 _ rfl;clear hj hO hA;generalize dI j s=o at hG
 cases o with
 | none=>
  go_enter Tryz.func75,Tryz.ntmps75
  go_upto_region 1 with fail
  rw[<-g_];clear g_;go_wp2_with(go_at_call 43;refine hG.mono ?_;rintro e w1 ⟨he,aL⟩;replace he:e=_:=he;subst he);go_ret2;exact⟨rfl,ag bM (ag aL ((Below.refl _ _).alloc (Nat.le_refl _) _))⟩
 | some v=>
  have HV:Hid (∀O w' (k i:Int) (t:ByteArray) (p q:Option Addr) (n c m d:Nat),isJ O w' v [.int .i64 k,.int .i64 i,.string t,.slice p n c,.slice q m d]->v.kd=k/\v.nm=i):=fun O w' k i t p q n c m d h=>by
   obtain⟨_,_,_,_,_⟩:=v;obtain⟨rfl,rfl,_⟩:=bU h;exact⟨rfl,rfl⟩
  go_enter Tryz.func75,Tryz.ntmps75
  go_upto_region 1 with fail
  rw[<-g_];clear g_;go_wp2_with(first
   | (go_at_call 43;refine hG.mono ?_;rintro e w1 ⟨⟨kv,iv,tv,pv,nv,cv,qv,mv,dv,rfl,hv⟩,aL⟩;have HVV:=(show Hid _ from HV.out _ _ _ _ _ _ _ _ _ _ _ hv);clear hv)
   | (go_at_call 102;refine(qD _ _ _ _ _ _ _ _ _).mono ?_;rintro e w2 ⟨rfl,aY⟩))
  go_ret2;have HNT:Hid (numT z (some v)=(iv, !lu kv iv)):=by show _=_;simp only[numT,HVV.out.1,HVV.out.2]
  refine⟨?_,ag bM (ag aL (ag ((Below.refl _ _).alloc (Nat.le_refl _) _) aY))⟩;rw[HNT.out];simp only[Bool.not_not]
  rfl
theorem xV{ks:List ByteArray}{l:List J}{n:Nat}{fit:ByteArray->Bool}(h:((ks.zip l).take n).any (fG fit)=true):(ks.zip l).any (fG fit)=true:=by
 rw[List.any_eq_true]at h ⊢;obtain⟨x,hx,hb⟩:=h;exact⟨x,List.mem_of_mem_take hx,hb⟩
def qE(fit:ByteArray->Bool)(w w':World)(o:Option J)(e:Ending):Prop:=(∃p c,e=.returned (.tuple #[.slice p (namT fit o).1.length c,.bool (!(namT fit o).2)])/\ib (fun b=>w.heap.size<=b/\b<w'.heap.size) w' p c (namT fit o).1)/\Below w.heap.size w w'
theorem qE.off{fit:ByteArray->Bool}{w w':World}{o:Option J}{b:Bool}(h1:(namT fit o).1= [])(h2:(namT fit o).2= !b)(hb:Below w.heap.size w w'):qE fit w w' o (.returned (.tuple #[.slice none 0 0,.bool b])):=
 ⟨⟨none,0,by rw[h1,h2,Bool.not_not];rfl,by rw[h1];exact ib.nil _ _ _ _ fun _=>rfl⟩,hb⟩
theorem D5{O:Nat->Prop}{w:World}{j:J}{k i:Int}{t:ByteArray}{pk pl:Option Addr}{nk ck nl cl:Nat}(hj:isJ O w j [.int .i64 k,.int .i64 i,.string t,.slice pk nk ck,.slice pl nl cl])(hO:∀b,O b->b<w.heap.size)(hz:szJ 13 j=true)(s:ByteArray):
    Calls Tryz.prog 76 #[.agg #[.int .i64 k,.int .i64 i,.string t,.slice pk nk ck,.slice pl nl cl],.string s,.bool true] w fun e w'=>qE kH w w' (dI j s) e:=by
 obtain⟨wA,g_⟩:∃wA,wA=w.alloc (.cells #[.int .i64 k,.int .i64 i,.string t,.slice pk nk ck,.slice pl nl cl] 25):=⟨_,rfl⟩;have bM:Below w.heap.size w wA:=by rw[g_];exact(Below.refl _ _).alloc (Nat.le_refl _) _
 have hA:wA.heap[w.heap.size]?=some (.cells #[.int .i64 k,.int .i64 i,.string t,.slice pk nk ck,.slice pl nl cl] 25 (0,0)):=by rw[g_];exact bz _
 have Af:∀b,O b->b<wA.heap.size:=fun b hb=>Nat.lt_of_lt_of_le (hO b hb) bM.size;have hG:=yB (hj.carry (O':=O) (w':=wA) fun x hx=>⟨hx,bM.block x (hO x hx)⟩) Af (fH hz) s;have i0:=ai hA 0 _ rfl;have i1:=ai hA 1 _ rfl;have i2:=ai hA 2 _ rfl;have i3:=ai hA 3 _ rfl;have i4:=ai hA 4 _ rfl;have HZ:Hid (∀v,dI j s=some v->szJ 12 v=true):=fun v hv=>Rx hz (FC hv);clear hj hO hA hz;generalize dI j s=o at hG HZ
 cases o with
 | none=>
  go_enter Tryz.func76,Tryz.ntmps76
  go_upto_region 1 with fail
  rw[<-g_];clear g_;go_wp2_with(go_at_call 43;refine hG.mono ?_;rintro e w1 ⟨he,aL⟩;replace he:e=_:=he;subst he);go_ret2;exact qE.off rfl rfl (ag bM (ag aL ((Below.refl _ _).alloc (Nat.le_refl _) _)))
 | some v=>
  have hzv:=HZ.out v rfl;have HV:Hid (∀O w' (k i:Int) (t:ByteArray) (p q:Option Addr) (n c m d:Nat),isJ O w' v [.int .i64 k,.int .i64 i,.string t,.slice p n c,.slice q m d]->v.kd=k):=fun O w' k i t p q n c m d h=>by
   obtain⟨_,_,_,_,_⟩:=v;obtain⟨rfl,_⟩:=bU h
   rfl
  by_cases k5:v.kd=5
  ·have HOR:Hid (∀X kv iv tv pv nv cv qv mv dv,(∀b,O b->b<X.heap.size)->isJ O X v [.int .i64 kv,.int .i64 iv,.string tv,.slice pv nv cv,.slice qv mv dv]->Calls Tryz.prog 45 #[.agg #[.int .i64 kv,.int .i64 iv,.string tv,.slice pv nv cv,.slice qv mv dv]] X fun x w'=>(∃kr ir tr pr nr cr qr mr dr,x=.returned (.agg #[.int .i64 kr,.int .i64 ir,.string tr,.slice pr nr cr,.slice qr mr dr])/\isJ (fun b=>O b\/ (X.heap.size<=b/\b<w'.heap.size)) w' (eG v) [.int .i64 kr,.int .i64 ir,.string tr,.slice pr nr cr,.slice qr mr dr])/\Below X.heap.size X w'):=fun X _ _ _ _ _ _ _ _ _ hO hv=>Ap hO hzv hv;have jv:=uG hzv;have HT:Hid ((((eG v).ks.zip (eG v).ls).any (fG kH)=true->namT kH (some v)=([],true))/\(((eG v).ks.zip (eG v).ls).any (fG kH)=false->namT kH (some v)=(rowsOf (eG v),false))):=by
    show _/\_
    unfold namT;simp only[];rw[if_pos k5];exact⟨fun h=>by rw[if_pos h],fun h=>by rw[if_neg (by rw[h];decide)]⟩
   generalize eG v=r at HOR jv HT;obtain⟨kr,ir,tr,ks,ls⟩:=r;simp only[rowsOf,J.ks,J.ls]at HT;have mW:=jv.parts.2.2.2.1;have Vg:Hid (∀x∈ks,x.size<=1000000000):=jv.parts.2.2.2.2.1;have Fs:Hid (ks.length<=ls.length):=jv.lens;clear jv;go_enter Tryz.func76,Tryz.ntmps76
   go_upto_region 1 with fail
   rw[<-g_];clear g_
   go_upto_region 7 with(first
    | (go_at_call 43;refine hG.mono ?_;rintro e w1 ⟨⟨kv,iv,tv,pv,nv,cv,qv,mv,dv,rfl,hv⟩,aL⟩
       obtain⟨rfl⟩:kv=5:=(HV.out _ _ _ _ _ _ _ _ _ _ _ hv).symm.trans k5;obtain⟨W1,pW⟩:∃W1,W1=w1.alloc (.cells #[.int .i64 5,.int .i64 iv,.string tv,.slice pv nv cv,.slice qv mv dv] 25):=⟨_,rfl⟩;have aY:Below w1.heap.size w1 W1:=by rw[pW];exact(Below.refl _ _).alloc (Nat.le_refl _) _
       have WM:=HOR.out W1 5 iv tv pv nv cv qv mv dv (fun b hb=>Nat.lt_of_lt_of_le (Af b hb) (Nat.le_trans aL.size aY.size)) (hv.carry fun x hx=>⟨hx,aY.block x (Nat.lt_of_lt_of_le (Af x hx) aL.size)⟩);have qz:Hid (W1.heap[w1.heap.size]?=some (.cells #[.int .i64 5,.int .i64 iv,.string tv,.slice pv nv cv,.slice qv mv dv] 25 (0,0))):=by show _=_;rw[pW];exact bz _
       have sN:Hid (Below w1.heap.size w1 W1):=aY;have HW1:=(show Hid _ from pW);clear hv aY pW)
    | (rw[<-HW1.out];go_at_call 45;refine WM.mono ?_;rintro e w3 ⟨⟨kr',ir',tr',pr,nr,cr,qr,mr,dr,rfl,hr⟩,df⟩
       have ve:=(df.block w1.heap.size (aP qz.out)).trans qz.out;have o0:=ai ve 0 _ rfl;have o1:=ai ve 1 _ rfl;have o2:=ai ve 2 _ rfl;have o3:=ai ve 3 _ rfl;have o4:=ai ve 4 _ rfl;have z0:=gB ve 0;have z1:=gB ve 1;have z2:=gB ve 2;have z3:=gB ve 3;have z4:=gB ve 4;have HX3:=(show Hid _ from ve);clear ve))
   clear WM HOR hG i0 i1 i2 i3 i4;obtain⟨rfl,rfl,rfl,rfl,rfl,oJ,hrc,pE⟩:=bU hr;clear hr;obtain⟨W4,Tm⟩:∃W4,W4=setL w3 w1.heap.size 0 [.int .i64 kr',.int .i64 ir',.string tr',.slice pr ks.length cr,.slice qr ls.length dr]:=⟨_,rfl⟩;have Gx:W4.heap[w1.heap.size]?=some (.cells #[.int .i64 kr',.int .i64 ir',.string tr',.slice pr ks.length cr,.slice qr ls.length dr] 25 (0,0)):=by rw[Tm];exact cZ (b:=w1.heap.size) _ HX3.out rfl
   have En:ay (aJ w1.heap.size) w3 W4:=by rw[Tm];exact bS _ _ _ _
   have dF:Below w.heap.size w W4:=by
    have YN:Below w.heap.size w w3:=ag bM (ag aL (ag sN.out df));refine YN.trans (En.below YN.size fun q hq e=> ?_);unfold aJ at e;have:=bM.size;have:=aL.size;omega
   simp only[setL,Nat.zero_add,Nat.reduceAdd]at Tm;rw[<-Tm];obtain⟨nv,zI⟩:∃n,ks.length=n:=⟨_,rfl⟩;obtain⟨Vh,JD⟩:∃n,ls.length=n:=⟨_,rfl⟩;have Bc:Hid (ks.length=nv):=zI;have JE:Hid (ls.length=Vh):=JD;have CU:=oJ.1;rw[zI]at mW Gx CU;rw[JD]at Gx hrc;have rF:=aP Gx;have Jn:∀x,(O x\/ (W1.heap.size<=x/\x<w3.heap.size))->x<W4.heap.size/\W4.heap[x]?=w3.heap[x]?:=fun x hx=>by
    have s1:=aL.size;have s3:=df.size;have sx:=aP qz.out;have s4:=En.size;have sB:=sN.out.size;have TU:x<w3.heap.size/\x≠w1.heap.size:=hx.elim (fun h=>by have:=Af x h;omega) (fun h=>by omega);exact⟨by omega,En.block x TU.1 (by unfold aJ;exact TU.2)⟩
   have Y2:Hid (jP (fun b=>b<W4.heap.size) W4 pr cr ks):=oJ.carry Jn;have Y3:Hid (isJs (fun b=>b<W4.heap.size) W4 qr 0 ls):=isJs.carry Jn qr 0 ls pE;clear zI JD oJ pE Tm;have HX4:=(show Hid _ from Gx);have Wj:Hid (Below w.heap.size w W4):=dF;have x3:=ai Gx 3 _ rfl;clear o0 o1 o2 o3 o4 z0 z1 z2 z3 z4 HX3 qz sN aL df En Jn Af bM dF Gx HW1;go_wp2_with fail
   go_loopw [10,11] (fun v x wx=>∃n:Nat,x=.int .i64 n/\n<=nv/\wx.ownsRow W4.heap.size 109 2 v (((ks.zip ls).take n).map fun q=>(q.1,q.2.nm)).length (flatN (((ks.zip ls).take n).map fun q=>(q.1,q.2.nm)))/\Hid (((ks.zip ls).take n).any (fG kH)=false)/\Below W4.heap.size W4 wx) (fun _ x _=>nv - (intOf x).toNat)
   case atStart=>exact⟨0,rfl,Nat.zero_le _,World.ownsRow_nil _ _ _ _,rfl,Below.refl _ _⟩
   case round=>
    obtain⟨n,rfl,hn,aN,D6,ed⟩:=hrel;have hxr:=fun j v hj=>(ed.cell (p:=⟨w1.heap.size,j,none⟩) rF).trans (ai HX4.out j v hj);have r3:=hxr 3 _ rfl;have hsr:=ed.size
    by_cases zI:n<nv
    ·have kX:n<ks.length:=by rw[Bc.out];exact zI
     have Xd:n<Vh:=by have:=Fs.out;rw[Bc.out,JE.out]at this;omega
     have fD:Hid ((ks.zip ls).take (n+1)=(ks.zip ls).take n++ [(ks.getD n aT,ls.getD n J.zero)]):=Dc kX Fs.out;obtain⟨ad,rfl,qR,zL⟩:=Y2.out.2 n kX;have HKY:Hid (∀X,Below W4.heap.size W4 X->X.cell? (ad.add n)=some (.string (ks.getD n aT))):=fun X hX=>(World.cell?_of_block (by rw[bK];exact hX.block _ qR)).trans zL;have zM:(ks.getD n aT).size<=1000000000:=by rw[List.getD_eq_getElem?_getD,List.getElem?_eq_getElem kX];exact Vg.out _ (List.getElem_mem kX)
     obtain⟨lb,lo,cs,tO,lY,bC,iL⟩:=isJs.at ls 0 n Y3.out (by rw[JE.out];exact Xd);subst tO;obtain⟨ke,ie,te,pe,ne,ce,qe,me,de,rfl⟩:=dw iL;have HE:Hid ((ls.getD n J.zero).kd=ke/\(ls.getD n J.zero).nm=ie):=by
      generalize ls.getD n J.zero=y at iL;obtain⟨_,_,_,_,_⟩:=y;obtain⟨rfl,rfl,_⟩:=bU iL;exact⟨rfl,rfl⟩
     have cc:∀m v, [Value.int .i64 ke,.int .i64 ie,.string te,.slice pe ne ce,.slice qe me de][m]?=some v->wr.cell? ⟨lb,lo+n*5+m,none⟩=some v:=fun m v h=>by
      have:=bC m v h;rw[Nat.zero_add]at this;exact(ed.cell (p:=⟨lb,lo+n*5+m,none⟩) lY).trans this
     have y0:wr.cell? ⟨lb,lo+n*5,none⟩=some (.int .i64 ke):=cc 0 _ rfl;have y1:=cc 1 _ rfl;have y2:=cc 2 _ rfl;have y3:=cc 3 _ rfl;have y4:=cc 4 _ rfl;have r4:=hxr 4 _ rfl;have Wl:Hid (∀X,Below wr.heap.size wr X->X.cell? ⟨w1.heap.size,3,none⟩=some (.slice (some ad) nv cr)/\X.cell? (ad.add n)=some (.string (ks.getD n aT))):=fun X hX=>⟨((ag ed hX).cell (p:=⟨w1.heap.size,3,none⟩) rF).trans (ai HX4.out 3 _ rfl),HKY.out X (ag ed hX)⟩;have LZ:Hid (fG kH (ks.getD n aT,ls.getD n J.zero)=(!kH (ks.getD n aT) || !lu ke ie)):=by show _=_;simp only[fG,HE.out.1,HE.out.2]
     have om:Hid ((!kH (ks.getD n aT) || !lu ke ie)=true->(ks.zip ls).any (fG kH)=true):=fun h=>xV (n:=n+1) (by rw[fD.out,List.any_append,List.any_cons,LZ.out,h];simp);have vg:Hid ((!kH (ks.getD n aT) || !lu ke ie)=false->((ks.zip ls).take (n+1)).any (fG kH)=false):=fun h=>by rw[fD.out,List.any_append,D6.out,List.any_cons,LZ.out,h];rfl
     have HL:Hid ((((ks.zip ls).take (n+1)).map fun q=>(q.1,q.2.nm))=(((ks.zip ls).take n).map fun q=>(q.1,q.2.nm))++ [(ks.getD n aT,ie)]):=by
      show _=_
      rw[fD.out,List.map_append];simp only[List.map_cons,List.map_nil,HE.out.2]
     have vB:Hid ((((ks.zip ls).take n).map fun q=>(q.1,q.2.nm)).length<=100000):=by
      show _<=_
      simp only[List.length_map,List.length_take];omega
     generalize (((ks.zip ls).take n).map fun q=>(q.1,q.2.nm))=L at aN HL vB;have mY:Hid (wr.ownsRow W4.heap.size 109 2 _ L.length (flatN L)):=aN;have HBr:Hid (Below W4.heap.size W4 wr):=ed;clear cc bC iL zL hxr HKY LZ HE aN D6 fD x3;generalize ks.getD n aT=K at zM Wl om vg HL;have Tn:=qD (w:=wr) ke ie te pe qe ne ce me de;have hni:(n:Int)<(nv:Int):=by omega
     have zjN:(n:Int)<(Vh:Int):=by omega
     cases Wm:lu ke ie with
     | false=>
      rw[Wm]at Tn om;have Cz:Hid ((namT kH (some v)).1= []/\(namT kH (some v)).2= !false):=by
       show _/\_
       rw[HT.out.1 (om.out (by simp))];exact⟨rfl,rfl⟩
      go_wp2_with(go_at_call 102;refine Tn.mono ?_;rintro e w5 ⟨rfl,iJ⟩);go_ret2;exact qE.off Cz.out.1 Cz.out.2 (ag Wj.out (ag HBr.out iJ))
     | true=>
      rw[Wm]at Tn om vg;have Wn:Hid (∀X,Calls Tryz.prog 35 #[.string K] X fun x w'=>x=.returned (.bool (kH K))/\Below X.heap.size X w'):=fun X=>FL K X zM
      cases hft:kH K with
      | false=>
       rw[hft]at Wn om;have Cz:Hid ((namT kH (some v)).1= []/\(namT kH (some v)).2= !false):=by
        show _/\_
        rw[HT.out.1 (om.out (by simp))];exact⟨rfl,rfl⟩
       go_wp2_with(first
        | (go_at_call 102;refine Tn.mono ?_;rintro e w5 ⟨rfl,iJ⟩;obtain⟨s3,sk⟩:=Wl.out w5 iJ)
        | (go_at_call 35;refine(Wn.out _).mono ?_;rintro e w6 ⟨rfl,jy⟩))
       go_ret2;exact qE.off Cz.out.1 Cz.out.2 (ag Wj.out (ag HBr.out (ag iJ jy)))
      | true=>
       rw[hft]at Wn vg;have HA3:=(show Hid _ from vg.out (by simp));go_wp2_with(first
        | (go_at_call 102;refine Tn.mono ?_;rintro e w5 ⟨rfl,iJ⟩;obtain⟨s3,sk⟩:=Wl.out w5 iJ)
        | (go_at_call 35;refine(Wn.out _).mono ?_;rintro e w6 ⟨rfl,jy⟩
           have wT:=ag iJ jy;obtain⟨t3,tk⟩:=Wl.out w6 wT;have iV:=(bf mY.out (ay.bq (S:=fun _=>False) wT) (fun _ _ h=>h)).alloc (.cells #[.string K,.int .i64 ie] 109);have uM:ib (fun _=>True) (w6.alloc (.cells #[.string K,.int .i64 ie] 109)) (some ⟨w6.heap.size,0,none⟩) 1 [(K,ie)]:=jI (l:= [(K,ie)]) trivial (bz _);have Tp:W4.heap.size<=(w6.alloc (.cells #[.string K,.int .i64 ie] 109)).heap.size:=by have:=wT.size;simp;omega
           have HB6:Hid (Below W4.heap.size W4 (w6.alloc (.cells #[.string K,.int .i64 ie] 109))):=(ag HBr.out wT).alloc (by have:=wT.size;omega) _;clear wT s3 sk)
        | (refine bT rfl _ _ rfl W4.heap.size _ L rfl iV uM rfl (by have:=vB.out;omega) (by simp) Tp ?_;intro v5 w7 Tq XN))
       go_roundw
       case rel=>exact⟨n+1,by go_num,by omega,by rw[HL.out];exact Tq,HA3,HB6.out.grown XN Tp (fun q hq=>(iV.lt q hq).1)⟩
       case measure=>simp[intOf];omega
    ·obtain rfl:n=nv:=by omega
     have Nw:(ks.zip ls).take n=ks.zip ls:=List.take_of_length_le (by rw[List.length_zip,Bc.out];omega);rw[Nw]at aN D6;have mY:=(show Hid _ from aN);have Cz:Hid (namT kH (some v)=((ks.zip ls).map (fun q=>(q.1,q.2.nm)),false)):=by
      exact HT.out.2 D6.out
     clear aN Nw x3;go_wp2;go_ret2;obtain⟨p',c',Ru,CQ⟩:=qW mY.out;unfold qE;rw[Cz.out];refine⟨⟨p',c',by first| (rw[Ru];rfl)| (simp only[];rw[<-Ru];rfl),CQ.carry fun q hq=>⟨⟨by have:=Wj.out.size;omega,hq.2⟩,rfl⟩⟩,ag Wj.out ed⟩
  ·have HT:Hid ((namT kH (some v)).1= []/\(namT kH (some v)).2= !false):=by
     show _/\_
     unfold namT;simp only[];rw[if_neg k5];exact⟨rfl,rfl⟩
   go_enter Tryz.func76,Tryz.ntmps76
   go_upto_region 1 with fail
   rw[<-g_];clear g_;go_wp2_with(go_at_call 43;refine hG.mono ?_;rintro e w1 ⟨⟨kv,iv,tv,pv,nv,cv,qv,mv,dv,rfl,hv⟩,aL⟩;have Cb:¬kv=5:=fun h=>k5 ((HV.out _ _ _ _ _ _ _ _ _ _ _ hv).trans h);clear hv);go_ret2;exact qE.off HT.out.1 HT.out.2 (ag bM (ag aL ((Below.refl _ _).alloc (Nat.le_refl _) _)))
theorem D7{O:Nat->Prop}{w:World}{j:J}{k i:Int}{t:ByteArray}{pk pl:Option Addr}{nk ck nl cl:Nat}(hj:isJ O w j [.int .i64 k,.int .i64 i,.string t,.slice pk nk ck,.slice pl nl cl])(hO:∀b,O b->b<w.heap.size)(hz:szJ 13 j=true)(s:ByteArray):
    Calls Tryz.prog 76 #[.agg #[.int .i64 k,.int .i64 i,.string t,.slice pk nk ck,.slice pl nl cl],.string s,.bool false] w fun e w'=>qE lZ w w' (dI j s) e:=by
 obtain⟨wA,g_⟩:∃wA,wA=w.alloc (.cells #[.int .i64 k,.int .i64 i,.string t,.slice pk nk ck,.slice pl nl cl] 25):=⟨_,rfl⟩;have bM:Below w.heap.size w wA:=by rw[g_];exact(Below.refl _ _).alloc (Nat.le_refl _) _
 have hA:wA.heap[w.heap.size]?=some (.cells #[.int .i64 k,.int .i64 i,.string t,.slice pk nk ck,.slice pl nl cl] 25 (0,0)):=by rw[g_];exact bz _
 have Af:∀b,O b->b<wA.heap.size:=fun b hb=>Nat.lt_of_lt_of_le (hO b hb) bM.size;have hG:=yB (hj.carry (O':=O) (w':=wA) fun x hx=>⟨hx,bM.block x (hO x hx)⟩) Af (fH hz) s;have i0:=ai hA 0 _ rfl;have i1:=ai hA 1 _ rfl;have i2:=ai hA 2 _ rfl;have i3:=ai hA 3 _ rfl;have i4:=ai hA 4 _ rfl;have HZ:Hid (∀v,dI j s=some v->szJ 12 v=true):=fun v hv=>Rx hz (FC hv);clear hj hO hA hz;generalize dI j s=o at hG HZ
 cases o with
 | none=>
  go_enter Tryz.func76,Tryz.ntmps76
  go_upto_region 1 with fail
  rw[<-g_];clear g_;go_wp2_with(go_at_call 43;refine hG.mono ?_;rintro e w1 ⟨he,aL⟩;replace he:e=_:=he;subst he);go_ret2;exact qE.off rfl rfl (ag bM (ag aL ((Below.refl _ _).alloc (Nat.le_refl _) _)))
 | some v=>
  have hzv:=HZ.out v rfl;have HV:Hid (∀O w' (k i:Int) (t:ByteArray) (p q:Option Addr) (n c m d:Nat),isJ O w' v [.int .i64 k,.int .i64 i,.string t,.slice p n c,.slice q m d]->v.kd=k):=fun O w' k i t p q n c m d h=>by
   obtain⟨_,_,_,_,_⟩:=v;obtain⟨rfl,_⟩:=bU h
   rfl
  by_cases k5:v.kd=5
  ·have HOR:Hid (∀X kv iv tv pv nv cv qv mv dv,(∀b,O b->b<X.heap.size)->isJ O X v [.int .i64 kv,.int .i64 iv,.string tv,.slice pv nv cv,.slice qv mv dv]->Calls Tryz.prog 45 #[.agg #[.int .i64 kv,.int .i64 iv,.string tv,.slice pv nv cv,.slice qv mv dv]] X fun x w'=>(∃kr ir tr pr nr cr qr mr dr,x=.returned (.agg #[.int .i64 kr,.int .i64 ir,.string tr,.slice pr nr cr,.slice qr mr dr])/\isJ (fun b=>O b\/ (X.heap.size<=b/\b<w'.heap.size)) w' (eG v) [.int .i64 kr,.int .i64 ir,.string tr,.slice pr nr cr,.slice qr mr dr])/\Below X.heap.size X w'):=fun X _ _ _ _ _ _ _ _ _ hO hv=>Ap hO hzv hv;have jv:=uG hzv;have HT:Hid ((((eG v).ks.zip (eG v).ls).any (fG lZ)=true->namT lZ (some v)=([],true))/\(((eG v).ks.zip (eG v).ls).any (fG lZ)=false->namT lZ (some v)=(rowsOf (eG v),false))):=by
    show _/\_
    unfold namT;simp only[];rw[if_pos k5];exact⟨fun h=>by rw[if_pos h],fun h=>by rw[if_neg (by rw[h];decide)]⟩
   generalize eG v=r at HOR jv HT;obtain⟨kr,ir,tr,ks,ls⟩:=r;simp only[rowsOf,J.ks,J.ls]at HT;have mW:=jv.parts.2.2.2.1;have Vg:Hid (∀x∈ks,x.size<=1000000000):=jv.parts.2.2.2.2.1;have Fs:Hid (ks.length<=ls.length):=jv.lens;clear jv;go_enter Tryz.func76,Tryz.ntmps76
   go_upto_region 1 with fail
   rw[<-g_];clear g_
   go_upto_region 7 with(first
    | (go_at_call 43;refine hG.mono ?_;rintro e w1 ⟨⟨kv,iv,tv,pv,nv,cv,qv,mv,dv,rfl,hv⟩,aL⟩
       obtain⟨rfl⟩:kv=5:=(HV.out _ _ _ _ _ _ _ _ _ _ _ hv).symm.trans k5;obtain⟨W1,pW⟩:∃W1,W1=w1.alloc (.cells #[.int .i64 5,.int .i64 iv,.string tv,.slice pv nv cv,.slice qv mv dv] 25):=⟨_,rfl⟩;have aY:Below w1.heap.size w1 W1:=by rw[pW];exact(Below.refl _ _).alloc (Nat.le_refl _) _
       have WM:=HOR.out W1 5 iv tv pv nv cv qv mv dv (fun b hb=>Nat.lt_of_lt_of_le (Af b hb) (Nat.le_trans aL.size aY.size)) (hv.carry fun x hx=>⟨hx,aY.block x (Nat.lt_of_lt_of_le (Af x hx) aL.size)⟩);have qz:Hid (W1.heap[w1.heap.size]?=some (.cells #[.int .i64 5,.int .i64 iv,.string tv,.slice pv nv cv,.slice qv mv dv] 25 (0,0))):=by show _=_;rw[pW];exact bz _
       have sN:Hid (Below w1.heap.size w1 W1):=aY;have HW1:=(show Hid _ from pW);clear hv aY pW)
    | (rw[<-HW1.out];go_at_call 45;refine WM.mono ?_;rintro e w3 ⟨⟨kr',ir',tr',pr,nr,cr,qr,mr,dr,rfl,hr⟩,df⟩
       have ve:=(df.block w1.heap.size (aP qz.out)).trans qz.out;have o0:=ai ve 0 _ rfl;have o1:=ai ve 1 _ rfl;have o2:=ai ve 2 _ rfl;have o3:=ai ve 3 _ rfl;have o4:=ai ve 4 _ rfl;have z0:=gB ve 0;have z1:=gB ve 1;have z2:=gB ve 2;have z3:=gB ve 3;have z4:=gB ve 4;have HX3:=(show Hid _ from ve);clear ve))
   clear WM HOR hG i0 i1 i2 i3 i4;obtain⟨rfl,rfl,rfl,rfl,rfl,oJ,hrc,pE⟩:=bU hr;clear hr;obtain⟨W4,Tm⟩:∃W4,W4=setL w3 w1.heap.size 0 [.int .i64 kr',.int .i64 ir',.string tr',.slice pr ks.length cr,.slice qr ls.length dr]:=⟨_,rfl⟩;have Gx:W4.heap[w1.heap.size]?=some (.cells #[.int .i64 kr',.int .i64 ir',.string tr',.slice pr ks.length cr,.slice qr ls.length dr] 25 (0,0)):=by rw[Tm];exact cZ (b:=w1.heap.size) _ HX3.out rfl
   have En:ay (aJ w1.heap.size) w3 W4:=by rw[Tm];exact bS _ _ _ _
   have dF:Below w.heap.size w W4:=by
    have YN:Below w.heap.size w w3:=ag bM (ag aL (ag sN.out df));refine YN.trans (En.below YN.size fun q hq e=> ?_);unfold aJ at e;have:=bM.size;have:=aL.size;omega
   simp only[setL,Nat.zero_add,Nat.reduceAdd]at Tm;rw[<-Tm];obtain⟨nv,zI⟩:∃n,ks.length=n:=⟨_,rfl⟩;obtain⟨Vh,JD⟩:∃n,ls.length=n:=⟨_,rfl⟩;have Bc:Hid (ks.length=nv):=zI;have JE:Hid (ls.length=Vh):=JD;have CU:=oJ.1;rw[zI]at mW Gx CU;rw[JD]at Gx hrc;have rF:=aP Gx;have Jn:∀x,(O x\/ (W1.heap.size<=x/\x<w3.heap.size))->x<W4.heap.size/\W4.heap[x]?=w3.heap[x]?:=fun x hx=>by
    have s1:=aL.size;have s3:=df.size;have sx:=aP qz.out;have s4:=En.size;have sB:=sN.out.size;have TU:x<w3.heap.size/\x≠w1.heap.size:=hx.elim (fun h=>by have:=Af x h;omega) (fun h=>by omega);exact⟨by omega,En.block x TU.1 (by unfold aJ;exact TU.2)⟩
   have Y2:Hid (jP (fun b=>b<W4.heap.size) W4 pr cr ks):=oJ.carry Jn;have Y3:Hid (isJs (fun b=>b<W4.heap.size) W4 qr 0 ls):=isJs.carry Jn qr 0 ls pE;clear zI JD oJ pE Tm;have HX4:=(show Hid _ from Gx);have Wj:Hid (Below w.heap.size w W4):=dF;have x3:=ai Gx 3 _ rfl;clear o0 o1 o2 o3 o4 z0 z1 z2 z3 z4 HX3 qz sN aL df En Jn Af bM dF Gx HW1;go_wp2_with fail
   go_loopw [10,11] (fun v x wx=>∃n:Nat,x=.int .i64 n/\n<=nv/\wx.ownsRow W4.heap.size 109 2 v (((ks.zip ls).take n).map fun q=>(q.1,q.2.nm)).length (flatN (((ks.zip ls).take n).map fun q=>(q.1,q.2.nm)))/\Hid (((ks.zip ls).take n).any (fG lZ)=false)/\Below W4.heap.size W4 wx) (fun _ x _=>nv - (intOf x).toNat)
   case atStart=>exact⟨0,rfl,Nat.zero_le _,World.ownsRow_nil _ _ _ _,rfl,Below.refl _ _⟩
   case round=>
    obtain⟨n,rfl,hn,aN,D6,ed⟩:=hrel;have hxr:=fun j v hj=>(ed.cell (p:=⟨w1.heap.size,j,none⟩) rF).trans (ai HX4.out j v hj);have r3:=hxr 3 _ rfl;have hsr:=ed.size
    by_cases zI:n<nv
    ·have kX:n<ks.length:=by rw[Bc.out];exact zI
     have Xd:n<Vh:=by have:=Fs.out;rw[Bc.out,JE.out]at this;omega
     have fD:Hid ((ks.zip ls).take (n+1)=(ks.zip ls).take n++ [(ks.getD n aT,ls.getD n J.zero)]):=Dc kX Fs.out;obtain⟨ad,rfl,qR,zL⟩:=Y2.out.2 n kX;have HKY:Hid (∀X,Below W4.heap.size W4 X->X.cell? (ad.add n)=some (.string (ks.getD n aT))):=fun X hX=>(World.cell?_of_block (by rw[bK];exact hX.block _ qR)).trans zL;have zM:(ks.getD n aT).size<=1000000000:=by rw[List.getD_eq_getElem?_getD,List.getElem?_eq_getElem kX];exact Vg.out _ (List.getElem_mem kX)
     obtain⟨lb,lo,cs,tO,lY,bC,iL⟩:=isJs.at ls 0 n Y3.out (by rw[JE.out];exact Xd);subst tO;obtain⟨ke,ie,te,pe,ne,ce,qe,me,de,rfl⟩:=dw iL;have HE:Hid ((ls.getD n J.zero).kd=ke/\(ls.getD n J.zero).nm=ie):=by
      generalize ls.getD n J.zero=y at iL;obtain⟨_,_,_,_,_⟩:=y;obtain⟨rfl,rfl,_⟩:=bU iL;exact⟨rfl,rfl⟩
     have cc:∀m v, [Value.int .i64 ke,.int .i64 ie,.string te,.slice pe ne ce,.slice qe me de][m]?=some v->wr.cell? ⟨lb,lo+n*5+m,none⟩=some v:=fun m v h=>by
      have:=bC m v h;rw[Nat.zero_add]at this;exact(ed.cell (p:=⟨lb,lo+n*5+m,none⟩) lY).trans this
     have y0:wr.cell? ⟨lb,lo+n*5,none⟩=some (.int .i64 ke):=cc 0 _ rfl;have y1:=cc 1 _ rfl;have y2:=cc 2 _ rfl;have y3:=cc 3 _ rfl;have y4:=cc 4 _ rfl;have r4:=hxr 4 _ rfl;have Wl:Hid (∀X,Below wr.heap.size wr X->X.cell? ⟨w1.heap.size,3,none⟩=some (.slice (some ad) nv cr)/\X.cell? (ad.add n)=some (.string (ks.getD n aT))):=fun X hX=>⟨((ag ed hX).cell (p:=⟨w1.heap.size,3,none⟩) rF).trans (ai HX4.out 3 _ rfl),HKY.out X (ag ed hX)⟩;have LZ:Hid (fG lZ (ks.getD n aT,ls.getD n J.zero)=(!lZ (ks.getD n aT) || !lu ke ie)):=by show _=_;simp only[fG,HE.out.1,HE.out.2]
     have om:Hid ((!lZ (ks.getD n aT) || !lu ke ie)=true->(ks.zip ls).any (fG lZ)=true):=fun h=>xV (n:=n+1) (by rw[fD.out,List.any_append,List.any_cons,LZ.out,h];simp);have vg:Hid ((!lZ (ks.getD n aT) || !lu ke ie)=false->((ks.zip ls).take (n+1)).any (fG lZ)=false):=fun h=>by rw[fD.out,List.any_append,D6.out,List.any_cons,LZ.out,h];rfl
     have HL:Hid ((((ks.zip ls).take (n+1)).map fun q=>(q.1,q.2.nm))=(((ks.zip ls).take n).map fun q=>(q.1,q.2.nm))++ [(ks.getD n aT,ie)]):=by
      show _=_
      rw[fD.out,List.map_append];simp only[List.map_cons,List.map_nil,HE.out.2]
     have vB:Hid ((((ks.zip ls).take n).map fun q=>(q.1,q.2.nm)).length<=100000):=by
      show _<=_
      simp only[List.length_map,List.length_take];omega
     generalize (((ks.zip ls).take n).map fun q=>(q.1,q.2.nm))=L at aN HL vB;have mY:Hid (wr.ownsRow W4.heap.size 109 2 _ L.length (flatN L)):=aN;have HBr:Hid (Below W4.heap.size W4 wr):=ed;clear cc bC iL zL hxr HKY LZ HE aN D6 fD x3;generalize ks.getD n aT=K at zM Wl om vg HL;have Tn:=qD (w:=wr) ke ie te pe qe ne ce me de;have hni:(n:Int)<(nv:Int):=by omega
     have zjN:(n:Int)<(Vh:Int):=by omega
     cases Wm:lu ke ie with
     | false=>
      rw[Wm]at Tn om;have Cz:Hid ((namT lZ (some v)).1= []/\(namT lZ (some v)).2= !false):=by
       show _/\_
       rw[HT.out.1 (om.out (by simp))];exact⟨rfl,rfl⟩
      go_wp2_with(go_at_call 102;refine Tn.mono ?_;rintro e w5 ⟨rfl,iJ⟩);go_ret2;exact qE.off Cz.out.1 Cz.out.2 (ag Wj.out (ag HBr.out iJ))
     | true=>
      rw[Wm]at Tn om vg;have Wn:Hid (∀X,Calls Tryz.prog 34 #[.string K] X fun x w'=>x=.returned (.bool (lZ K))/\Below X.heap.size X w'):=fun X=>RG K X zM
      cases hft:lZ K with
      | false=>
       rw[hft]at Wn om;have Cz:Hid ((namT lZ (some v)).1= []/\(namT lZ (some v)).2= !false):=by
        show _/\_
        rw[HT.out.1 (om.out (by simp))];exact⟨rfl,rfl⟩
       go_wp2_with(first
        | (go_at_call 102;refine Tn.mono ?_;rintro e w5 ⟨rfl,iJ⟩;obtain⟨s3,sk⟩:=Wl.out w5 iJ)
        | (go_at_call 34;refine(Wn.out _).mono ?_;rintro e w6 ⟨rfl,jy⟩))
       go_ret2;exact qE.off Cz.out.1 Cz.out.2 (ag Wj.out (ag HBr.out (ag iJ jy)))
      | true=>
       rw[hft]at Wn vg;have HA3:=(show Hid _ from vg.out (by simp));go_wp2_with(first
        | (go_at_call 102;refine Tn.mono ?_;rintro e w5 ⟨rfl,iJ⟩;obtain⟨s3,sk⟩:=Wl.out w5 iJ)
        | (go_at_call 34;refine(Wn.out _).mono ?_;rintro e w6 ⟨rfl,jy⟩
           have wT:=ag iJ jy;obtain⟨t3,tk⟩:=Wl.out w6 wT;have iV:=(bf mY.out (ay.bq (S:=fun _=>False) wT) (fun _ _ h=>h)).alloc (.cells #[.string K,.int .i64 ie] 109);have uM:ib (fun _=>True) (w6.alloc (.cells #[.string K,.int .i64 ie] 109)) (some ⟨w6.heap.size,0,none⟩) 1 [(K,ie)]:=jI (l:= [(K,ie)]) trivial (bz _);have Tp:W4.heap.size<=(w6.alloc (.cells #[.string K,.int .i64 ie] 109)).heap.size:=by have:=wT.size;simp;omega
           have HB6:Hid (Below W4.heap.size W4 (w6.alloc (.cells #[.string K,.int .i64 ie] 109))):=(ag HBr.out wT).alloc (by have:=wT.size;omega) _;clear wT s3 sk)
        | (refine bT rfl _ _ rfl W4.heap.size _ L rfl iV uM rfl (by have:=vB.out;omega) (by simp) Tp ?_;intro v5 w7 Tq XN))
       go_roundw
       case rel=>exact⟨n+1,by go_num,by omega,by rw[HL.out];exact Tq,HA3,HB6.out.grown XN Tp (fun q hq=>(iV.lt q hq).1)⟩
       case measure=>simp[intOf];omega
    ·obtain rfl:n=nv:=by omega
     have Nw:(ks.zip ls).take n=ks.zip ls:=List.take_of_length_le (by rw[List.length_zip,Bc.out];omega);rw[Nw]at aN D6;have mY:=(show Hid _ from aN);have Cz:Hid (namT lZ (some v)=((ks.zip ls).map (fun q=>(q.1,q.2.nm)),false)):=by
      exact HT.out.2 D6.out
     clear aN Nw x3;go_wp2;go_ret2;obtain⟨p',c',Ru,CQ⟩:=qW mY.out;unfold qE;rw[Cz.out];refine⟨⟨p',c',by first| (rw[Ru];rfl)| (simp only[];rw[<-Ru];rfl),CQ.carry fun q hq=>⟨⟨by have:=Wj.out.size;omega,hq.2⟩,rfl⟩⟩,ag Wj.out ed⟩
  ·have HT:Hid ((namT lZ (some v)).1= []/\(namT lZ (some v)).2= !false):=by
     show _/\_
     unfold namT;simp only[];rw[if_neg k5];exact⟨rfl,rfl⟩
   go_enter Tryz.func76,Tryz.ntmps76
   go_upto_region 1 with fail
   rw[<-g_];clear g_;go_wp2_with(go_at_call 43;refine hG.mono ?_;rintro e w1 ⟨⟨kv,iv,tv,pv,nv,cv,qv,mv,dv,rfl,hv⟩,aL⟩;have Cb:¬kv=5:=fun h=>k5 ((HV.out _ _ _ _ _ _ _ _ _ _ _ hv).trans h);clear hv);go_ret2;exact qE.off HT.out.1 HT.out.2 (ag bM (ag aL ((Below.refl _ _).alloc (Nat.le_refl _) _)))
theorem GQ{c:J}(h:(decide (c.kd=5)&&goodJ 12 c)=false):bY c=(qh,1):=by
 unfold bY;rw[if_neg (by rw[h];decide)]
theorem Tt{c:J}(h:(decide (c.kd=5)&&goodJ 12 c)=true)(hb:xG c=true):bY c=(qh,1):=by
 unfold bY;rw[if_pos h,if_pos hb]
theorem Wo{c:J}(h:(decide (c.kd=5)&&goodJ 12 c)=true)(hb:xG c=false):bY c=(MU c,0):=by
 unfold bY;rw[if_pos h,if_neg (by rw[hb];decide)]
def qF(w w':World)(r:Lv×Int)(e:Ending):Prop:=(∃p,e=.returned (.tuple #[fA r.1 p,.int .i64 r.2])/\qV (fun b=>w.heap.size<=b/\b<w'.heap.size) w' r.1 p)/\Below w.heap.size w w'
theorem qF.off{w w':World}{r:Lv×Int}(h:r=(qh,1))(hb:Below w.heap.size w w'):qF w w' r (.returned (.tuple #[.agg #[.int .i64 0,.int .i64 0,.int .i64 0,.int .i64 0,.int .i64 0,.int .i64 0,.int .i64 0,.slice none 0 0,.slice none 0 0],.int .i64 1])):=by
 subst h;exact⟨⟨⟨none,0,none,0⟩,rfl,ib.nil _ _ _ _ fun _=>rfl,ib.nil _ _ _ _ fun _=>rfl⟩,hb⟩
theorem Av{O:Nat->Prop}{w:World}{c:J}{k i:Int}{t:ByteArray}{pk pl:Option Addr}{nk ck nl cl:Nat}(hj:isJ O w c [.int .i64 k,.int .i64 i,.string t,.slice pk nk ck,.slice pl nl cl])(hO:∀b,O b->b<w.heap.size)(hz:szJ 13 c=true):
    Calls Tryz.prog 46 #[.agg #[.int .i64 k,.int .i64 i,.string t,.slice pk nk ck,.slice pl nl cl]] w fun e w'=>qF w w' (bY c) e:=by
 obtain⟨W0,cO⟩:∃W0,W0=(w.alloc (.cells #[.int .i64 k,.int .i64 i,.string t,.slice pk nk ck,.slice pl nl cl] 25)).alloc (.cells #[.int .i64 0,.int .i64 0,.int .i64 0,.int .i64 0,.int .i64 0,.int .i64 0,.int .i64 0,.slice none 0 0,.slice none 0 0] 47):=⟨_,rfl⟩;have cK:Below w.heap.size w W0:=by rw[cO];exact((Below.refl _ _).alloc (Nat.le_refl _) _).alloc (by simp) _
 have Zb:W0.heap.size=w.heap.size+2:=by rw[cO];simp
 have kU:W0.heap[w.heap.size]?=some (.cells #[.int .i64 k,.int .i64 i,.string t,.slice pk nk ck,.slice pl nl cl] 25 (0,0)):=by rw[cO,Below.heap_alloc _ _ _ (by simp)];exact bz _
 have JP:W0.heap[w.heap.size+1]?=some (.cells #[.int .i64 0,.int .i64 0,.int .i64 0,.int .i64 0,.int .i64 0,.int .i64 0,.int .i64 0,.slice none 0 0,.slice none 0 0] 47 (0,0)):=by
  rw[cO];have:=bz (w:=w.alloc (.cells #[.int .i64 k,.int .i64 i,.string t,.slice pk nk ck,.slice pl nl cl] 25)) (.cells #[.int .i64 0,.int .i64 0,.int .i64 0,.int .i64 0,.int .i64 0,.int .i64 0,.int .i64 0,.slice none 0 0,.slice none 0 0] 47);rw[World.size_alloc]at this;exact this
 have HX:Hid (∀X,Below W0.heap.size W0 X->X.heap[w.heap.size]?=some (.cells #[.int .i64 k,.int .i64 i,.string t,.slice pk nk ck,.slice pl nl cl] 25 (0,0))/\X.heap[w.heap.size+1]?=some (.cells #[.int .i64 0,.int .i64 0,.int .i64 0,.int .i64 0,.int .i64 0,.int .i64 0,.int .i64 0,.slice none 0 0,.slice none 0 0] 47 (0,0))):=fun X hX=>⟨(hX.block _ (aP kU)).trans kU,(hX.block _ (aP JP)).trans JP⟩;have HJ:Hid (∀X,(∀b,b<w.heap.size->X.heap[b]?=w.heap[b]?)->isJ O X c [.int .i64 k,.int .i64 i,.string t,.slice pk nk ck,.slice pl nl cl]):=fun X hX=>hj.carry fun b hb=>⟨hb,hX b (hO b hb)⟩;have zfT:szJ 12 c=true:=ky 12 13 c (by decide) hz;have hG:=qZ (w:=W0) (fun b hb=>Nat.lt_of_lt_of_le (hO b hb) cK.size) zfT (HJ.out W0 fun b hb=>cK.block b hb);have HKD:Hid (c.kd=k):=by
  obtain⟨_,_,_,_,_⟩:=c;obtain⟨rfl,_⟩:=bU hj
  rfl
 have HW0:=(show Hid _ from Zb);clear hj kU JP Zb;obtain⟨q0,yJ⟩:=HX.out W0 (Below.refl _ _)
 by_cases k5:k=5
 case neg=>
  have HT:Hid (bY c=(qh,1)):=GQ (by rw[HKD.out];simp[k5]);have r0:=ai yJ 0 _ rfl;have r1:=ai yJ 1 _ rfl;have r2:=ai yJ 2 _ rfl;have r3:=ai yJ 3 _ rfl;have r4:=ai yJ 4 _ rfl;have r5:=ai yJ 5 _ rfl;have r6:=ai yJ 6 _ rfl;have r7:=ai yJ 7 _ rfl;have r8:=ai yJ 8 _ rfl;have z0:=gB yJ 0;have z1:=gB yJ 1;have z2:=gB yJ 2;have z3:=gB yJ 3;have z4:=gB yJ 4;have z5:=gB yJ 5;have z6:=gB yJ 6;have z7:=gB yJ 7;have z8:=gB yJ 8;have c0:=ai q0 0 _ rfl;have HZ:=(show Hid _ from yJ);clear q0 yJ;go_enter Tryz.func46,Tryz.ntmps46
  go_upto_region 1 with fail
  rw[<-cO];clear cO;go_wp2;have yJ:=HZ.out;have h9:=cZ (b:=w.heap.size+1) [.int .i64 0,.int .i64 0,.int .i64 0,.int .i64 0,.int .i64 0,.int .i64 0,.int .i64 0,.slice none 0 0,.slice none 0 0] yJ rfl;have HK:=bS (w.heap.size+1) [.int .i64 0,.int .i64 0,.int .i64 0,.int .i64 0,.int .i64 0,.int .i64 0,.int .i64 0,.slice none 0 0,.slice none 0 0] W0 0;simp only[setL,Nat.zero_add,Nat.reduceAdd]at h9 HK;refine bodyPost_ret (aK rfl _ _ _ rfl (iM h9)) rfl ?_;exact qF.off HT.out (cK.trans (HK.below cK.size fun q hq e=>by unfold aJ at e;omega))
 subst k5;have c0:=ai q0 0 _ rfl;have c1:=ai q0 1 _ rfl;have c2:=ai q0 2 _ rfl;have c3:=ai q0 3 _ rfl;have c4:=ai q0 4 _ rfl
 cases hg:goodJ 12 c with
 | false=>
  have HT:Hid (bY c=(qh,1)):=GQ (by rw[hg,Bool.and_false]);rw[hg]at hG;clear q0 yJ;go_enter Tryz.func46,Tryz.ntmps46
  go_upto_region 1 with fail
  rw[<-cO];clear cO;go_wp2_with(go_at_call 37;refine hG.mono ?_;rintro e w1 ⟨rfl,aL⟩;obtain⟨q1,AO⟩:=HX.out w1 aL;have r0:=ai AO 0 _ rfl;have r1:=ai AO 1 _ rfl;have r2:=ai AO 2 _ rfl;have r3:=ai AO 3 _ rfl;have r4:=ai AO 4 _ rfl;have r5:=ai AO 5 _ rfl;have r6:=ai AO 6 _ rfl;have r7:=ai AO 7 _ rfl;have r8:=ai AO 8 _ rfl;have z0:=gB AO 0;have z1:=gB AO 1;have z2:=gB AO 2;have z3:=gB AO 3;have z4:=gB AO 4;have z5:=gB AO 5;have z6:=gB AO 6;have z7:=gB AO 7;have z8:=gB AO 8;have HZ:=(show Hid _ from AO);clear q1 AO);have AO:=HZ.out;have h9:=cZ (b:=w.heap.size+1) [.int .i64 0,.int .i64 0,.int .i64 0,.int .i64 0,.int .i64 0,.int .i64 0,.int .i64 0,.slice none 0 0,.slice none 0 0] AO rfl;have HK:=bS (w.heap.size+1) [.int .i64 0,.int .i64 0,.int .i64 0,.int .i64 0,.int .i64 0,.int .i64 0,.int .i64 0,.slice none 0 0,.slice none 0 0] w1 0;simp only[setL,Nat.zero_add,Nat.reduceAdd]at h9 HK;refine bodyPost_ret (aK rfl _ _ _ rfl (iM h9)) rfl ?_;have gU:=ag cK aL;exact qF.off HT.out (gU.trans (HK.below gU.size fun q hq e=>by unfold aJ at e;omega))
 | true=>
  rw[hg]at hG;have HGD:Hid ((decide (c.kd=5)&&goodJ 12 c)=true):=by show _=_;rw[HKD.out,hg];rfl
  clear q0 yJ;go_enter Tryz.func46,Tryz.ntmps46
  go_upto_region 1 with fail
  rw[<-cO];clear cO
  go_upto_region 3 with(go_at_call 37;refine hG.mono ?_;rintro e w1 ⟨rfl,aL⟩)
  clear c0 c1 c2 c3 c4 hG
  go_upto_region 5 with fail
  obtain⟨W1,pW⟩:∃W1,W1=w1.alloc (.cells #[.int .i64 0,.int .i64 0,.int .i64 0,.int .i64 0,.int .i64 0,.int .i64 0,.int .i64 0,.slice none 0 0,.slice none 0 0] 47):=⟨_,rfl⟩;have ny:Below w1.heap.size w1 W1:=by rw[pW];exact(Below.refl _ _).alloc (Nat.le_refl _) _
  have D8:W1.heap[w1.heap.size]?=some (.cells #[.int .i64 0,.int .i64 0,.int .i64 0,.int .i64 0,.int .i64 0,.int .i64 0,.int .i64 0,.slice none 0 0,.slice none 0 0] 47 (0,0)):=by rw[pW];exact bz _
  have Wp:Below w.heap.size w W1:=ag cK (ag aL ny);have Xn:w.heap.size+2<=w1.heap.size:=by have:=aL.size;have:=HW0.out;omega
  have qz:Hid (∀X,ay (aJ w1.heap.size) W1 X->X.heap[w.heap.size]?=some (.cells #[.int .i64 5,.int .i64 i,.string t,.slice pk nk ck,.slice pl nl cl] 25 (0,0))/\X.heap[w.heap.size+1]?=some (.cells #[.int .i64 0,.int .i64 0,.int .i64 0,.int .i64 0,.int .i64 0,.int .i64 0,.int .i64 0,.slice none 0 0,.slice none 0 0] 47 (0,0))):=fun X hX=>by
   have s1:=ny.size;obtain⟨a,b⟩:=HX.out W1 (ag aL ny);exact⟨(hX.block _ (by omega) (by unfold aJ;omega)).trans a,(hX.block _ (by omega) (by unfold aJ;omega)).trans b⟩
  have D9:Hid (∀X,ay (aJ w1.heap.size) W1 X->isJ O X c [.int .i64 5,.int .i64 i,.string t,.slice pk nk ck,.slice pl nl cl]/\∀b,O b->b<X.heap.size):=fun X hX=>⟨HJ.out X fun b hb=>(hX.block b (by have:=ny.size;omega) (by unfold aJ;omega)).trans (Wp.block b hb),fun b hb=>by have:=hO b hb;have:=ny.size;have:=hX.size;omega⟩;have yc:Hid (∀X,ay (aJ w1.heap.size) W1 X->Below w.heap.size w X):=fun X hX=>Wp.trans (hX.below Wp.size fun q hq e=>by unfold aJ at e;omega);rw[<-pW];clear pW HX HJ ny Wp aL;have Qe:Hid (∀X,ay (aJ w1.heap.size) W1 X->Calls Tryz.prog 75 #[.agg #[.int .i64 5,.int .i64 i,.string t,.slice pk nk ck,.slice pl nl cl],.string uE,.int .i64 50] X fun e w'=>e=.returned (.tuple #[.int .i64 (numT 50 (dI c uE)).1,.bool (!(numT 50 (dI c uE)).2)])/\Below X.heap.size X w'):=fun X hX=>kg (D9.out X hX).1 (D9.out X hX).2 (fH hz) uE 50;have HT1:Hid (∀X,ay (aJ w1.heap.size) W1 X->Calls Tryz.prog 75 #[.agg #[.int .i64 5,.int .i64 i,.string t,.slice pk nk ck,.slice pl nl cl],.string mI,.int .i64 50] X fun e w'=>e=.returned (.tuple #[.int .i64 (numT 50 (dI c mI)).1,.bool (!(numT 50 (dI c mI)).2)])/\Below X.heap.size X w'):=fun X hX=>kg (D9.out X hX).1 (D9.out X hX).2 (fH hz) mI 50;have fD:Hid (∀X,ay (aJ w1.heap.size) W1 X->Calls Tryz.prog 75 #[.agg #[.int .i64 5,.int .i64 i,.string t,.slice pk nk ck,.slice pl nl cl],.string ic,.int .i64 0] X fun e w'=>e=.returned (.tuple #[.int .i64 (numT 0 (dI c ic)).1,.bool (!(numT 0 (dI c ic)).2)])/\Below X.heap.size X w'):=fun X hX=>kg (D9.out X hX).1 (D9.out X hX).2 (fH hz) ic 0;have Bv:Hid (∀X,ay (aJ w1.heap.size) W1 X->Calls Tryz.prog 75 #[.agg #[.int .i64 5,.int .i64 i,.string t,.slice pk nk ck,.slice pl nl cl],.string ig,.int .i64 50] X fun e w'=>e=.returned (.tuple #[.int .i64 (numT 50 (dI c ig)).1,.bool (!(numT 50 (dI c ig)).2)])/\Below X.heap.size X w'):=fun X hX=>kg (D9.out X hX).1 (D9.out X hX).2 (fH hz) ig 50;have HT4:Hid (∀X,ay (aJ w1.heap.size) W1 X->Calls Tryz.prog 75 #[.agg #[.int .i64 5,.int .i64 i,.string t,.slice pk nk ck,.slice pl nl cl],.string jG,.int .i64 50] X fun e w'=>e=.returned (.tuple #[.int .i64 (numT 50 (dI c jG)).1,.bool (!(numT 50 (dI c jG)).2)])/\Below X.heap.size X w'):=fun X hX=>kg (D9.out X hX).1 (D9.out X hX).2 (fH hz) jG 50;have HT5:Hid (∀X,ay (aJ w1.heap.size) W1 X->Calls Tryz.prog 75 #[.agg #[.int .i64 5,.int .i64 i,.string t,.slice pk nk ck,.slice pl nl cl],.string il,.int .i64 0] X fun e w'=>e=.returned (.tuple #[.int .i64 (numT 0 (dI c il)).1,.bool (!(numT 0 (dI c il)).2)])/\Below X.heap.size X w'):=fun X hX=>kg (D9.out X hX).1 (D9.out X hX).2 (fH hz) il 0;have HT6:Hid (∀X,ay (aJ w1.heap.size) W1 X->Calls Tryz.prog 75 #[.agg #[.int .i64 5,.int .i64 i,.string t,.slice pk nk ck,.slice pl nl cl],.string jH,.int .i64 0] X fun e w'=>e=.returned (.tuple #[.int .i64 (numT 0 (dI c jH)).1,.bool (!(numT 0 (dI c jH)).2)])/\Below X.heap.size X w'):=fun X hX=>kg (D9.out X hX).1 (D9.out X hX).2 (fH hz) jH 0;have HT7:Hid (∀X,ay (aJ w1.heap.size) W1 X->Calls Tryz.prog 76 #[.agg #[.int .i64 5,.int .i64 i,.string t,.slice pk nk ck,.slice pl nl cl],.string gp,.bool true] X fun e w'=>qE kH X w' (dI c gp) e):=fun X hX=>D5 (D9.out X hX).1 (D9.out X hX).2 hz gp;have HT8:Hid (∀X,ay (aJ w1.heap.size) W1 X->Calls Tryz.prog 76 #[.agg #[.int .i64 5,.int .i64 i,.string t,.slice pk nk ck,.slice pl nl cl],.string gq,.bool false] X fun e w'=>qE lZ X w' (dI c gq) e):=fun X hX=>D7 (D9.out X hX).1 (D9.out X hX).2 hz gq;have yf:=(show Hid _ from fun h=>Tt (c:=c) HGD.out h);have PN:=(show Hid _ from fun h=>Wo (c:=c) HGD.out h);unfold xG at yf PN;unfold MU at PN;unfold qE at HT7 HT8;clear HGD D9 hO hz zfT HKD;generalize numT 50 (dI c uE)=q0 at Qe yf PN;generalize numT 50 (dI c mI)=q1 at HT1 yf PN;generalize numT 0 (dI c ic)=q2 at fD yf PN;generalize numT 50 (dI c ig)=q3 at Bv yf PN;generalize numT 50 (dI c jG)=q4 at HT4 yf PN;generalize numT 0 (dI c il)=q5 at HT5 yf PN;generalize numT 0 (dI c jH)=q6 at HT6 yf PN;generalize namT kH (dI c gp)=q7 at HT7 yf PN;generalize namT lZ (dI c gq)=q8 at HT8 yf PN;obtain⟨v0,b0⟩:=q0;obtain⟨v1,b1⟩:=q1;obtain⟨v2,b2⟩:=q2;obtain⟨v3,b3⟩:=q3;obtain⟨v4,b4⟩:=q4;obtain⟨v5,b5⟩:=q5;obtain⟨v6,b6⟩:=q6;obtain⟨v7,b7⟩:=q7;obtain⟨v8,b8⟩:=q8;simp only at Qe HT1 fD Bv HT4 HT5 HT6 HT7 HT8 yf PN;have hK0:ay (aJ w1.heap.size) W1 W1:=ay.refl _ _;have Wq:w1.heap.size<W1.heap.size:=aP D8;have zjO:=(show Hid _ from D8);clear D8;obtain⟨qx,_⟩:=qz.out W1 hK0;have c0:=ai qx 0 _ rfl;have c1:=ai qx 1 _ rfl;have c2:=ai qx 2 _ rfl;have c3:=ai qx 3 _ rfl;have c4:=ai qx 4 _ rfl;have hT:=Qe.out W1 hK0;clear qx
  go_upto_region 6 with(go_at_call 75;refine hT.mono ?_;rintro e y0 ⟨rfl,cK⟩;have mP:y0.heap[w1.heap.size]?=some (.cells #[.int .i64 0,.int .i64 0,.int .i64 0,.int .i64 0,.int .i64 0,.int .i64 0,.int .i64 0,.slice none 0 0,.slice none 0 0] 47 (0,0)):=(cK.block _ (Nat.lt_of_lt_of_le Wq hK0.size)).trans zjO.out;have g0:=ai mP 0 _ rfl;have gz:=gB mP 0;have xW:=(show Hid _ from mP);clear mP)
  obtain⟨X1,hX⟩:∃X,X=y0.setCell ⟨w1.heap.size,0,none⟩ (.int .i64 v0):=⟨_,rfl⟩;have xX:ay (aJ w1.heap.size) W1 y0:=hK0.then (ay.bq cK);have Xu:ay (aJ w1.heap.size) W1 X1:=by rw[hX];exact ay.setCell (S:=aJ w1.heap.size) (p:=⟨w1.heap.size,0,none⟩) xX (fun _=>(rfl:w1.heap.size=w1.heap.size)) _
  have zjP:Hid (X1.heap[w1.heap.size]?=some (.cells #[.int .i64 v0,.int .i64 0,.int .i64 0,.int .i64 0,.int .i64 0,.int .i64 0,.int .i64 0,.slice none 0 0,.slice none 0 0] 47 (0,0))):=by
   show _=_
   rw[hX,heap_setCell_same _ w1.heap.size 0 _ _ _ xW.out]
   rfl
  rw[<-hX];clear hX hT g0 gz xW c0 c1 c2 c3 c4 xX;obtain⟨qx,_⟩:=qz.out X1 Xu;have c0:=ai qx 0 _ rfl;have c1:=ai qx 1 _ rfl;have c2:=ai qx 2 _ rfl;have c3:=ai qx 3 _ rfl;have c4:=ai qx 4 _ rfl;have hT:=HT1.out X1 Xu;clear qx
  go_upto_region 7 with(go_at_call 75;refine hT.mono ?_;rintro e y1 ⟨rfl,aL⟩;have mP:y1.heap[w1.heap.size]?=some (.cells #[.int .i64 v0,.int .i64 0,.int .i64 0,.int .i64 0,.int .i64 0,.int .i64 0,.int .i64 0,.slice none 0 0,.slice none 0 0] 47 (0,0)):=(aL.block _ (Nat.lt_of_lt_of_le Wq Xu.size)).trans zjP.out;have g0:=ai mP 1 _ rfl;have gz:=gB mP 1;have xW:=(show Hid _ from mP);clear mP)
  obtain⟨X2,hX⟩:∃X,X=y1.setCell ⟨w1.heap.size,1,none⟩ (.int .i64 v1):=⟨_,rfl⟩;have xX:ay (aJ w1.heap.size) W1 y1:=Xu.then (ay.bq aL);have P7:ay (aJ w1.heap.size) W1 X2:=by rw[hX];exact ay.setCell (S:=aJ w1.heap.size) (p:=⟨w1.heap.size,1,none⟩) xX (fun _=>(rfl:w1.heap.size=w1.heap.size)) _
  have zjQ:Hid (X2.heap[w1.heap.size]?=some (.cells #[.int .i64 v0,.int .i64 v1,.int .i64 0,.int .i64 0,.int .i64 0,.int .i64 0,.int .i64 0,.slice none 0 0,.slice none 0 0] 47 (0,0))):=by
   show _=_
   rw[hX,heap_setCell_same _ w1.heap.size 1 _ _ _ xW.out]
   rfl
  rw[<-hX];clear hX hT g0 gz xW c0 c1 c2 c3 c4 xX;obtain⟨qx,_⟩:=qz.out X2 P7;have c0:=ai qx 0 _ rfl;have c1:=ai qx 1 _ rfl;have c2:=ai qx 2 _ rfl;have c3:=ai qx 3 _ rfl;have c4:=ai qx 4 _ rfl;have hT:=fD.out X2 P7;clear qx
  go_upto_region 8 with(go_at_call 75;refine hT.mono ?_;rintro e y2 ⟨rfl,aY⟩;have mP:y2.heap[w1.heap.size]?=some (.cells #[.int .i64 v0,.int .i64 v1,.int .i64 0,.int .i64 0,.int .i64 0,.int .i64 0,.int .i64 0,.slice none 0 0,.slice none 0 0] 47 (0,0)):=(aY.block _ (Nat.lt_of_lt_of_le Wq P7.size)).trans zjQ.out;have g0:=ai mP 2 _ rfl;have gz:=gB mP 2;have xW:=(show Hid _ from mP);clear mP)
  obtain⟨X3,hX⟩:∃X,X=y2.setCell ⟨w1.heap.size,2,none⟩ (.int .i64 v2):=⟨_,rfl⟩;have xX:ay (aJ w1.heap.size) W1 y2:=P7.then (ay.bq aY);have Zd:ay (aJ w1.heap.size) W1 X3:=by rw[hX];exact ay.setCell (S:=aJ w1.heap.size) (p:=⟨w1.heap.size,2,none⟩) xX (fun _=>(rfl:w1.heap.size=w1.heap.size)) _
  have zjR:Hid (X3.heap[w1.heap.size]?=some (.cells #[.int .i64 v0,.int .i64 v1,.int .i64 v2,.int .i64 0,.int .i64 0,.int .i64 0,.int .i64 0,.slice none 0 0,.slice none 0 0] 47 (0,0))):=by
   show _=_
   rw[hX,heap_setCell_same _ w1.heap.size 2 _ _ _ xW.out]
   rfl
  rw[<-hX];clear hX hT g0 gz xW c0 c1 c2 c3 c4 xX;obtain⟨qx,_⟩:=qz.out X3 Zd;have c0:=ai qx 0 _ rfl;have c1:=ai qx 1 _ rfl;have c2:=ai qx 2 _ rfl;have c3:=ai qx 3 _ rfl;have c4:=ai qx 4 _ rfl;have hT:=Bv.out X3 Zd;clear qx
  go_upto_region 9 with(go_at_call 75;refine hT.mono ?_;rintro e y3 ⟨rfl,df⟩;have mP:y3.heap[w1.heap.size]?=some (.cells #[.int .i64 v0,.int .i64 v1,.int .i64 v2,.int .i64 0,.int .i64 0,.int .i64 0,.int .i64 0,.slice none 0 0,.slice none 0 0] 47 (0,0)):=(df.block _ (Nat.lt_of_lt_of_le Wq Zd.size)).trans zjR.out;have g0:=ai mP 3 _ rfl;have gz:=gB mP 3;have xW:=(show Hid _ from mP);clear mP)
  obtain⟨X4,hX⟩:∃X,X=y3.setCell ⟨w1.heap.size,3,none⟩ (.int .i64 v3):=⟨_,rfl⟩;have xX:ay (aJ w1.heap.size) W1 y3:=Zd.then (ay.bq df);have En:ay (aJ w1.heap.size) W1 X4:=by rw[hX];exact ay.setCell (S:=aJ w1.heap.size) (p:=⟨w1.heap.size,3,none⟩) xX (fun _=>(rfl:w1.heap.size=w1.heap.size)) _
  have zjS:Hid (X4.heap[w1.heap.size]?=some (.cells #[.int .i64 v0,.int .i64 v1,.int .i64 v2,.int .i64 v3,.int .i64 0,.int .i64 0,.int .i64 0,.slice none 0 0,.slice none 0 0] 47 (0,0))):=by
   show _=_
   rw[hX,heap_setCell_same _ w1.heap.size 3 _ _ _ xW.out]
   rfl
  rw[<-hX];clear hX hT g0 gz xW c0 c1 c2 c3 c4 xX;obtain⟨qx,_⟩:=qz.out X4 En;have c0:=ai qx 0 _ rfl;have c1:=ai qx 1 _ rfl;have c2:=ai qx 2 _ rfl;have c3:=ai qx 3 _ rfl;have c4:=ai qx 4 _ rfl;have hT:=HT4.out X4 En;clear qx
  go_upto_region 10 with(go_at_call 75;refine hT.mono ?_;rintro e y4 ⟨rfl,dF⟩;have mP:y4.heap[w1.heap.size]?=some (.cells #[.int .i64 v0,.int .i64 v1,.int .i64 v2,.int .i64 v3,.int .i64 0,.int .i64 0,.int .i64 0,.slice none 0 0,.slice none 0 0] 47 (0,0)):=(dF.block _ (Nat.lt_of_lt_of_le Wq En.size)).trans zjS.out;have g0:=ai mP 4 _ rfl;have gz:=gB mP 4;have xW:=(show Hid _ from mP);clear mP)
  obtain⟨X5,hX⟩:∃X,X=y4.setCell ⟨w1.heap.size,4,none⟩ (.int .i64 v4):=⟨_,rfl⟩;have xX:ay (aJ w1.heap.size) W1 y4:=En.then (ay.bq dF);have hK5:ay (aJ w1.heap.size) W1 X5:=by rw[hX];exact ay.setCell (S:=aJ w1.heap.size) (p:=⟨w1.heap.size,4,none⟩) xX (fun _=>(rfl:w1.heap.size=w1.heap.size)) _
  have zjT:Hid (X5.heap[w1.heap.size]?=some (.cells #[.int .i64 v0,.int .i64 v1,.int .i64 v2,.int .i64 v3,.int .i64 v4,.int .i64 0,.int .i64 0,.slice none 0 0,.slice none 0 0] 47 (0,0))):=by
   show _=_
   rw[hX,heap_setCell_same _ w1.heap.size 4 _ _ _ xW.out]
   rfl
  rw[<-hX];clear hX hT g0 gz xW c0 c1 c2 c3 c4 xX;obtain⟨qx,_⟩:=qz.out X5 hK5;have c0:=ai qx 0 _ rfl;have c1:=ai qx 1 _ rfl;have c2:=ai qx 2 _ rfl;have c3:=ai qx 3 _ rfl;have c4:=ai qx 4 _ rfl;have hT:=HT5.out X5 hK5;clear qx
  go_upto_region 11 with(go_at_call 75;refine hT.mono ?_;rintro e y5 ⟨rfl,iJ⟩;have mP:y5.heap[w1.heap.size]?=some (.cells #[.int .i64 v0,.int .i64 v1,.int .i64 v2,.int .i64 v3,.int .i64 v4,.int .i64 0,.int .i64 0,.slice none 0 0,.slice none 0 0] 47 (0,0)):=(iJ.block _ (Nat.lt_of_lt_of_le Wq hK5.size)).trans zjT.out;have g0:=ai mP 5 _ rfl;have gz:=gB mP 5;have xW:=(show Hid _ from mP);clear mP)
  obtain⟨X6,hX⟩:∃X,X=y5.setCell ⟨w1.heap.size,5,none⟩ (.int .i64 v5):=⟨_,rfl⟩;have xX:ay (aJ w1.heap.size) W1 y5:=hK5.then (ay.bq iJ);have hK6:ay (aJ w1.heap.size) W1 X6:=by rw[hX];exact ay.setCell (S:=aJ w1.heap.size) (p:=⟨w1.heap.size,5,none⟩) xX (fun _=>(rfl:w1.heap.size=w1.heap.size)) _
  have zjU:Hid (X6.heap[w1.heap.size]?=some (.cells #[.int .i64 v0,.int .i64 v1,.int .i64 v2,.int .i64 v3,.int .i64 v4,.int .i64 v5,.int .i64 0,.slice none 0 0,.slice none 0 0] 47 (0,0))):=by
   show _=_
   rw[hX,heap_setCell_same _ w1.heap.size 5 _ _ _ xW.out]
   rfl
  rw[<-hX];clear hX hT g0 gz xW c0 c1 c2 c3 c4 xX;obtain⟨qx,_⟩:=qz.out X6 hK6;have c0:=ai qx 0 _ rfl;have c1:=ai qx 1 _ rfl;have c2:=ai qx 2 _ rfl;have c3:=ai qx 3 _ rfl;have c4:=ai qx 4 _ rfl;have hT:=HT6.out X6 hK6;clear qx
  go_upto_region 12 with(go_at_call 75;refine hT.mono ?_;rintro e y6 ⟨rfl,jy⟩;have mP:y6.heap[w1.heap.size]?=some (.cells #[.int .i64 v0,.int .i64 v1,.int .i64 v2,.int .i64 v3,.int .i64 v4,.int .i64 v5,.int .i64 0,.slice none 0 0,.slice none 0 0] 47 (0,0)):=(jy.block _ (Nat.lt_of_lt_of_le Wq hK6.size)).trans zjU.out;have g0:=ai mP 6 _ rfl;have gz:=gB mP 6;have xW:=(show Hid _ from mP);clear mP)
  obtain⟨X7,hX⟩:∃X,X=y6.setCell ⟨w1.heap.size,6,none⟩ (.int .i64 v6):=⟨_,rfl⟩;have xX:ay (aJ w1.heap.size) W1 y6:=hK6.then (ay.bq jy);have hK7:ay (aJ w1.heap.size) W1 X7:=by rw[hX];exact ay.setCell (S:=aJ w1.heap.size) (p:=⟨w1.heap.size,6,none⟩) xX (fun _=>(rfl:w1.heap.size=w1.heap.size)) _
  have zjV:Hid (X7.heap[w1.heap.size]?=some (.cells #[.int .i64 v0,.int .i64 v1,.int .i64 v2,.int .i64 v3,.int .i64 v4,.int .i64 v5,.int .i64 v6,.slice none 0 0,.slice none 0 0] 47 (0,0))):=by
   show _=_
   rw[hX,heap_setCell_same _ w1.heap.size 6 _ _ _ xW.out]
   rfl
  rw[<-hX];clear hX hT g0 gz xW c0 c1 c2 c3 c4 xX;obtain⟨qx,_⟩:=qz.out X7 hK7;have c0:=ai qx 0 _ rfl;have c1:=ai qx 1 _ rfl;have c2:=ai qx 2 _ rfl;have c3:=ai qx 3 _ rfl;have c4:=ai qx 4 _ rfl;have hT:=HT7.out X7 hK7;clear qx
  go_upto_region 13 with(go_at_call 76;refine hT.mono ?_;rintro e y7 ⟨⟨p7,d7,rfl,hr7⟩,vI⟩;have mP:y7.heap[w1.heap.size]?=some (.cells #[.int .i64 v0,.int .i64 v1,.int .i64 v2,.int .i64 v3,.int .i64 v4,.int .i64 v5,.int .i64 v6,.slice none 0 0,.slice none 0 0] 47 (0,0)):=(vI.block _ (Nat.lt_of_lt_of_le Wq hK7.size)).trans zjV.out;have g0:=ai mP 7 _ rfl;have gz:=gB mP 7;have xW:=(show Hid _ from mP);clear mP)
  obtain⟨X8,hX⟩:∃X,X=y7.setCell ⟨w1.heap.size,7,none⟩ (.slice p7 v7.length d7):=⟨_,rfl⟩;have xX:ay (aJ w1.heap.size) W1 y7:=hK7.then (ay.bq vI);have hK8:ay (aJ w1.heap.size) W1 X8:=by rw[hX];exact ay.setCell (S:=aJ w1.heap.size) (p:=⟨w1.heap.size,7,none⟩) xX (fun _=>(rfl:w1.heap.size=w1.heap.size)) _
  have zjW:Hid (X8.heap[w1.heap.size]?=some (.cells #[.int .i64 v0,.int .i64 v1,.int .i64 v2,.int .i64 v3,.int .i64 v4,.int .i64 v5,.int .i64 v6,.slice p7 v7.length d7,.slice none 0 0] 47 (0,0))):=by
   show _=_
   rw[hX,heap_setCell_same _ w1.heap.size 7 _ _ _ xW.out]
   rfl
  have HR7:Hid (∀X,ay (aJ w1.heap.size) X8 X->ib (fun b=>w1.heap.size<=b/\b<X.heap.size) X p7 d7 v7):=fun X Qd=>hr7.carry fun b hb=>by
   have s1:=hK7.size;have s2:=Qd.size;have e0:X8.heap.size=y7.heap.size:=by rw[hX];simp
   have xk:b≠w1.heap.size:=by have:=hb.1;omega
   refine⟨⟨by have:=hb.1;omega,by have:=hb.2;omega⟩,(Qd.block b (by have:=hb.2;omega) (by unfold aJ;exact xk)).trans ?_⟩;rw[hX];exact(ay.setCell (S:=aJ w1.heap.size) (p:=⟨w1.heap.size,7,none⟩) (ay.refl _ y7) (fun _=>(rfl:w1.heap.size=w1.heap.size)) _).block b hb.2 (by unfold aJ;exact xk)
  rw[<-hX];clear hX hT g0 gz xW c0 c1 c2 c3 c4 xX hr7;obtain⟨qx,_⟩:=qz.out X8 hK8;have c0:=ai qx 0 _ rfl;have c1:=ai qx 1 _ rfl;have c2:=ai qx 2 _ rfl;have c3:=ai qx 3 _ rfl;have c4:=ai qx 4 _ rfl;have hT:=HT8.out X8 hK8;clear qx
  go_upto_region 14 with(go_at_call 76;refine hT.mono ?_;rintro e y8 ⟨⟨p8,d8,rfl,hr8⟩,uC⟩;have mP:y8.heap[w1.heap.size]?=some (.cells #[.int .i64 v0,.int .i64 v1,.int .i64 v2,.int .i64 v3,.int .i64 v4,.int .i64 v5,.int .i64 v6,.slice p7 v7.length d7,.slice none 0 0] 47 (0,0)):=(uC.block _ (Nat.lt_of_lt_of_le Wq hK8.size)).trans zjW.out;have g0:=ai mP 8 _ rfl;have gz:=gB mP 8;have xW:=(show Hid _ from mP);clear mP)
  obtain⟨X9,hX⟩:∃X,X=y8.setCell ⟨w1.heap.size,8,none⟩ (.slice p8 v8.length d8):=⟨_,rfl⟩;have xX:ay (aJ w1.heap.size) W1 y8:=hK8.then (ay.bq uC);have Tu:ay (aJ w1.heap.size) W1 X9:=by rw[hX];exact ay.setCell (S:=aJ w1.heap.size) (p:=⟨w1.heap.size,8,none⟩) xX (fun _=>(rfl:w1.heap.size=w1.heap.size)) _
  have zjX:Hid (X9.heap[w1.heap.size]?=some (.cells #[.int .i64 v0,.int .i64 v1,.int .i64 v2,.int .i64 v3,.int .i64 v4,.int .i64 v5,.int .i64 v6,.slice p7 v7.length d7,.slice p8 v8.length d8] 47 (0,0))):=by
   show _=_
   rw[hX,heap_setCell_same _ w1.heap.size 8 _ _ _ xW.out]
   rfl
  have HR8:Hid (∀X,ay (aJ w1.heap.size) X9 X->ib (fun b=>w1.heap.size<=b/\b<X.heap.size) X p8 d8 v8/\ib (fun b=>w1.heap.size<=b/\b<X.heap.size) X p7 d7 v7):=fun X Qd=>⟨hr8.carry fun b hb=>(by
   have s1:=hK8.size;have s2:=Qd.size;have e0:X9.heap.size=y8.heap.size:=by rw[hX];simp
   have xk:b≠w1.heap.size:=by have:=hb.1;omega
   refine⟨⟨by have:=hb.1;omega,by have:=hb.2;omega⟩,(Qd.block b (by have:=hb.2;omega) (by unfold aJ;exact xk)).trans ?_⟩;rw[hX];exact(ay.setCell (S:=aJ w1.heap.size) (p:=⟨w1.heap.size,8,none⟩) (ay.refl _ y8) (fun _=>(rfl:w1.heap.size=w1.heap.size)) _).block b hb.2 (by unfold aJ;exact xk)),HR7.out X ((ay.bq uC).then (by
    have:ay (aJ w1.heap.size) y8 X9:=by rw[hX];exact ay.setCell (S:=aJ w1.heap.size) (p:=⟨w1.heap.size,8,none⟩) (ay.refl _ y8) (fun _=>(rfl:w1.heap.size=w1.heap.size)) _
    exact this.then Qd))⟩
  rw[<-hX];clear hX hT g0 gz xW c0 c1 c2 c3 c4 xX hr8;obtain⟨_,oq⟩:=qz.out X9 Tu;have r0:=ai oq 0 _ rfl;have r1:=ai oq 1 _ rfl;have r2:=ai oq 2 _ rfl;have r3:=ai oq 3 _ rfl;have r4:=ai oq 4 _ rfl;have r5:=ai oq 5 _ rfl;have r6:=ai oq 6 _ rfl;have r7:=ai oq 7 _ rfl;have r8:=ai oq 8 _ rfl;have z0:=gB oq 0;have z1:=gB oq 1;have z2:=gB oq 2;have z3:=gB oq 3;have z4:=gB oq 4;have z5:=gB oq 5;have z6:=gB oq 6;have z7:=gB oq 7;have z8:=gB oq 8;have HZ:=(show Hid _ from oq);have Uw:=zjX.out;have f0:=ai Uw 0 _ rfl;have f1:=ai Uw 1 _ rfl;have f2:=ai Uw 2 _ rfl;have f3:=ai Uw 3 _ rfl;have f4:=ai Uw 4 _ rfl;have f5:=ai Uw 5 _ rfl;have f6:=ai Uw 6 _ rfl;have f7:=ai Uw 7 _ rfl;have f8:=ai Uw 8 _ rfl;clear oq Uw Qe HT1 fD Bv HT4 HT5 HT6 HT7 HT8
  cases b0 with
  | true=>
   have HT:=(show Hid _ from yf.out (by simp));go_wp2;have oq:=HZ.out;have h9:=cZ (b:=w.heap.size+1) [.int .i64 0,.int .i64 0,.int .i64 0,.int .i64 0,.int .i64 0,.int .i64 0,.int .i64 0,.slice none 0 0,.slice none 0 0] oq rfl;have HK:=bS (w.heap.size+1) [.int .i64 0,.int .i64 0,.int .i64 0,.int .i64 0,.int .i64 0,.int .i64 0,.int .i64 0,.slice none 0 0,.slice none 0 0] X9 0;simp only[setL,Nat.zero_add,Nat.reduceAdd]at h9 HK;refine bodyPost_ret (aK rfl _ _ _ rfl (iM h9)) rfl ?_;have gU:=yc.out X9 Tu;exact qF.off HT.out (gU.trans (HK.below gU.size fun q hq e=>by unfold aJ at e;omega))
  | false=>
   cases b1 with
   | true=>
    have HT:=(show Hid _ from yf.out (by simp));go_wp2;have oq:=HZ.out;have h9:=cZ (b:=w.heap.size+1) [.int .i64 0,.int .i64 0,.int .i64 0,.int .i64 0,.int .i64 0,.int .i64 0,.int .i64 0,.slice none 0 0,.slice none 0 0] oq rfl;have HK:=bS (w.heap.size+1) [.int .i64 0,.int .i64 0,.int .i64 0,.int .i64 0,.int .i64 0,.int .i64 0,.int .i64 0,.slice none 0 0,.slice none 0 0] X9 0;simp only[setL,Nat.zero_add,Nat.reduceAdd]at h9 HK;refine bodyPost_ret (aK rfl _ _ _ rfl (iM h9)) rfl ?_;have gU:=yc.out X9 Tu;exact qF.off HT.out (gU.trans (HK.below gU.size fun q hq e=>by unfold aJ at e;omega))
   | false=>
    cases b2 with
    | true=>
     have HT:=(show Hid _ from yf.out (by simp));go_wp2;have oq:=HZ.out;have h9:=cZ (b:=w.heap.size+1) [.int .i64 0,.int .i64 0,.int .i64 0,.int .i64 0,.int .i64 0,.int .i64 0,.int .i64 0,.slice none 0 0,.slice none 0 0] oq rfl;have HK:=bS (w.heap.size+1) [.int .i64 0,.int .i64 0,.int .i64 0,.int .i64 0,.int .i64 0,.int .i64 0,.int .i64 0,.slice none 0 0,.slice none 0 0] X9 0;simp only[setL,Nat.zero_add,Nat.reduceAdd]at h9 HK;refine bodyPost_ret (aK rfl _ _ _ rfl (iM h9)) rfl ?_;have gU:=yc.out X9 Tu;exact qF.off HT.out (gU.trans (HK.below gU.size fun q hq e=>by unfold aJ at e;omega))
    | false=>
     cases b3 with
     | true=>
      have HT:=(show Hid _ from yf.out (by simp));go_wp2;have oq:=HZ.out;have h9:=cZ (b:=w.heap.size+1) [.int .i64 0,.int .i64 0,.int .i64 0,.int .i64 0,.int .i64 0,.int .i64 0,.int .i64 0,.slice none 0 0,.slice none 0 0] oq rfl;have HK:=bS (w.heap.size+1) [.int .i64 0,.int .i64 0,.int .i64 0,.int .i64 0,.int .i64 0,.int .i64 0,.int .i64 0,.slice none 0 0,.slice none 0 0] X9 0;simp only[setL,Nat.zero_add,Nat.reduceAdd]at h9 HK;refine bodyPost_ret (aK rfl _ _ _ rfl (iM h9)) rfl ?_;have gU:=yc.out X9 Tu;exact qF.off HT.out (gU.trans (HK.below gU.size fun q hq e=>by unfold aJ at e;omega))
     | false=>
      cases b4 with
      | true=>
       have HT:=(show Hid _ from yf.out (by simp));go_wp2;have oq:=HZ.out;have h9:=cZ (b:=w.heap.size+1) [.int .i64 0,.int .i64 0,.int .i64 0,.int .i64 0,.int .i64 0,.int .i64 0,.int .i64 0,.slice none 0 0,.slice none 0 0] oq rfl;have HK:=bS (w.heap.size+1) [.int .i64 0,.int .i64 0,.int .i64 0,.int .i64 0,.int .i64 0,.int .i64 0,.int .i64 0,.slice none 0 0,.slice none 0 0] X9 0;simp only[setL,Nat.zero_add,Nat.reduceAdd]at h9 HK;refine bodyPost_ret (aK rfl _ _ _ rfl (iM h9)) rfl ?_;have gU:=yc.out X9 Tu;exact qF.off HT.out (gU.trans (HK.below gU.size fun q hq e=>by unfold aJ at e;omega))
      | false=>
       cases b5 with
       | true=>
        have HT:=(show Hid _ from yf.out (by simp));go_wp2;have oq:=HZ.out;have h9:=cZ (b:=w.heap.size+1) [.int .i64 0,.int .i64 0,.int .i64 0,.int .i64 0,.int .i64 0,.int .i64 0,.int .i64 0,.slice none 0 0,.slice none 0 0] oq rfl;have HK:=bS (w.heap.size+1) [.int .i64 0,.int .i64 0,.int .i64 0,.int .i64 0,.int .i64 0,.int .i64 0,.int .i64 0,.slice none 0 0,.slice none 0 0] X9 0;simp only[setL,Nat.zero_add,Nat.reduceAdd]at h9 HK;refine bodyPost_ret (aK rfl _ _ _ rfl (iM h9)) rfl ?_;have gU:=yc.out X9 Tu;exact qF.off HT.out (gU.trans (HK.below gU.size fun q hq e=>by unfold aJ at e;omega))
       | false=>
        cases b6 with
        | true=>
         have HT:=(show Hid _ from yf.out (by simp));go_wp2;have oq:=HZ.out;have h9:=cZ (b:=w.heap.size+1) [.int .i64 0,.int .i64 0,.int .i64 0,.int .i64 0,.int .i64 0,.int .i64 0,.int .i64 0,.slice none 0 0,.slice none 0 0] oq rfl;have HK:=bS (w.heap.size+1) [.int .i64 0,.int .i64 0,.int .i64 0,.int .i64 0,.int .i64 0,.int .i64 0,.int .i64 0,.slice none 0 0,.slice none 0 0] X9 0;simp only[setL,Nat.zero_add,Nat.reduceAdd]at h9 HK;refine bodyPost_ret (aK rfl _ _ _ rfl (iM h9)) rfl ?_;have gU:=yc.out X9 Tu;exact qF.off HT.out (gU.trans (HK.below gU.size fun q hq e=>by unfold aJ at e;omega))
        | false=>
         cases b7 with
         | true=>
          have HT:=(show Hid _ from yf.out (by simp));go_wp2;have oq:=HZ.out;have h9:=cZ (b:=w.heap.size+1) [.int .i64 0,.int .i64 0,.int .i64 0,.int .i64 0,.int .i64 0,.int .i64 0,.int .i64 0,.slice none 0 0,.slice none 0 0] oq rfl;have HK:=bS (w.heap.size+1) [.int .i64 0,.int .i64 0,.int .i64 0,.int .i64 0,.int .i64 0,.int .i64 0,.int .i64 0,.slice none 0 0,.slice none 0 0] X9 0;simp only[setL,Nat.zero_add,Nat.reduceAdd]at h9 HK;refine bodyPost_ret (aK rfl _ _ _ rfl (iM h9)) rfl ?_;have gU:=yc.out X9 Tu;exact qF.off HT.out (gU.trans (HK.below gU.size fun q hq e=>by unfold aJ at e;omega))
         | false=>
          cases b8 with
          | true=>
           have HT:=(show Hid _ from yf.out (by simp));go_wp2;have oq:=HZ.out;have h9:=cZ (b:=w.heap.size+1) [.int .i64 0,.int .i64 0,.int .i64 0,.int .i64 0,.int .i64 0,.int .i64 0,.int .i64 0,.slice none 0 0,.slice none 0 0] oq rfl;have HK:=bS (w.heap.size+1) [.int .i64 0,.int .i64 0,.int .i64 0,.int .i64 0,.int .i64 0,.int .i64 0,.int .i64 0,.slice none 0 0,.slice none 0 0] X9 0;simp only[setL,Nat.zero_add,Nat.reduceAdd]at h9 HK;refine bodyPost_ret (aK rfl _ _ _ rfl (iM h9)) rfl ?_;have gU:=yc.out X9 Tu;exact qF.off HT.out (gU.trans (HK.below gU.size fun q hq e=>by unfold aJ at e;omega))
          | false=>
           have HT:=(show Hid _ from PN.out (by simp));go_wp2;have oq:=HZ.out;have h9:=cZ (b:=w.heap.size+1) [.int .i64 v0,.int .i64 v1,.int .i64 v2,.int .i64 v3,.int .i64 v4,.int .i64 v5,.int .i64 v6,.slice p7 v7.length d7,.slice p8 v8.length d8] oq rfl;have HK:=bS (w.heap.size+1) [.int .i64 v0,.int .i64 v1,.int .i64 v2,.int .i64 v3,.int .i64 v4,.int .i64 v5,.int .i64 v6,.slice p7 v7.length d7,.slice p8 v8.length d8] X9 0;simp only[setL,Nat.zero_add,Nat.reduceAdd]at h9 HK;refine bodyPost_ret (aK rfl _ _ _ rfl (iM h9)) rfl ?_;have gU:=yc.out X9 Tu;obtain⟨r8,r7⟩:=HR8.out X9 (ay.refl _ _);unfold qF;rw[HT.out];refine⟨⟨⟨p7,d7,p8,d8⟩,rfl, ?_, ?_⟩,gU.trans (HK.below gU.size fun q hq e=>by unfold aJ at e;omega)⟩
           ·exact r7.carry fun b hb=>⟨⟨by have:=hb.1;omega,Nat.lt_of_lt_of_le hb.2 HK.size⟩,HK.block b hb.2 (by unfold aJ;have:=hb.1;omega)⟩
           ·exact r8.carry fun b hb=>⟨⟨by have:=hb.1;omega,Nat.lt_of_lt_of_le hb.2 HK.size⟩,HK.block b hb.2 (by unfold aJ;have:=hb.1;omega)⟩
theorem PO{l:jl}{k:Nat}(hk:k<l.length)(f:ByteArray×Int->Bool):(l.take (k+1)).all f=((l.take k).all f&&f (l.getD k zN)):=by
 rw[jZ (z:=zN) hk,List.all_append];simp
theorem Tv{l:jl}{k:Nat}(hk:k<l.length){f:ByteArray×Int->Bool}(h:f (l.getD k zN)=false):l.all f=false:=by
 cases ha:l.all f with
 | false=>rfl
 | true=>
  have:=List.all_eq_true.1 ha (l.getD k zN) (by rw[List.getD_eq_getElem?_getD,List.getElem?_eq_getElem hk];exact List.getElem_mem hk);rw[this]at h;cases h
end Go.Proofs.YtldegjjaknelgaaGreatDoor

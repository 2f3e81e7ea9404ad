/- A part. -/
import Derived.Test.YtldegjjaknelgaaGreatDoorAJ09
import Derived.Deep.MidRow
import Derived.Laws.Tables
set_option maxRecDepth 100000
set_option maxHeartbeats 64000000
namespace Go.Proofs.YtldegjjaknelgaaGreatDoor
open Go.RowKit
theorem sP:∀(ks:List ByteArray) (l:List J) (s:ByteArray),lookV ks l s=((ks.zip l).find? fun q=>q.1.toList==s.toList).map (·.2)
 | [],_,_=>by simp[lookV]
 | _::_, [],_=>by simp[lookV]
 | k::ks,v::l,s=>by
  unfold lookV;rw[List.zip_cons_cons,List.find?_cons]
  cases k.toList==s.toList with
  | true=>rfl
  | false=>exact sP ks l s
theorem OH{q r:List (ByteArray×J)}(h:q.Perm r)(s:ByteArray)(hp:q.Pairwise fun a b=>a.1≠b.1):q.find? (fun x=>x.1.toList==s.toList)=r.find? (fun x=>x.1.toList==s.toList):=by
 induction h with
 | nil=>rfl
 | cons x _ ih=>rw[List.find?_cons,List.find?_cons,ih (List.pairwise_cons.1 hp).2]
 | swap x y l=>
  simp only[List.find?_cons]
  cases hy:y.1.toList==s.toList<;>cases hx:x.1.toList==s.toList<;>try rfl
  exact absurd ((iU.1 hy).trans (iU.1 hx).symm) ((List.pairwise_cons.1 hp).1 x (by simp))
 | trans h1 _ ih1 ih2=>exact(ih1 hp).trans (ih2 (h1.pairwise hp fun h=>h.symm))
theorem Ce:∀q:List (ByteArray×J),(q.map (·.1)).zip (q.map (·.2))=q
 | []=>rfl
 | x::q=>by rw[List.map_cons,List.map_cons,List.zip_cons_cons,Ce q]
theorem Cf:∀(ks:List ByteArray) (l:List J) (s:ByteArray),lookV ks (ordL l) s=(lookV ks l s).map ord
 | [],_,_=>by unfold lookV;rfl
 | _::_, [],_=>by rw[ordL];unfold lookV;rfl
 | k::ks,v::l,s=>by
  rw[ordL];unfold lookV
  split
  ·rfl
  ·exact Cf ks l s
theorem Fy{d:Nat}{j:J}(hg:goodJ (d+1) j=true)(s:ByteArray):lookV (ord j).ks (ord j).ls s=(lookV j.ks j.ls s).map ord:=by
 obtain⟨k,i,t,ks,l⟩:=j;obtain⟨_,jr,Jr⟩:=iT hg;rw[ord]
 by_cases k5:k=5
 ·obtain⟨fw,hp⟩:=jr k5;rw[if_pos k5];unfold mapOf;simp only[J.ks,J.ls];have hpz:(ks.zip (ordL l)).Pairwise fun a b=>a.1≠b.1:=by
   have:((ks.zip (ordL l)).map (·.1)).Pairwise (· ≠ ·):=by rw[List.map_fst_zip (by rw[b_];omega)];exact hp
   exact List.pairwise_map.1 this
  rw[sP,Ce,<-OH (jX (ks.zip (ordL l))).symm s hpz,<-sP,Cf]
 ·rw[if_neg k5,Jr k5];simp only[J.ks,J.ls];unfold lookV
  rfl
theorem Df(v:J):(ord v).kd=v.kd:=by
 obtain⟨k,i,t,ks,l⟩:=v;rw[ord]
 split
 ·rename_i h;simp only[mapOf,J.kd,h]
 ·rfl
theorem Y9{d:Nat}{v:J}(hg:goodJ (d+1) v=true):(ord v).nm=v.nm:=by
 obtain⟨k,i,t,ks,l⟩:=v;rw[ord]
 split
 ·rename_i h;rw[goodJ,Bool.and_eq_true]at hg;have hb:=hg.1;unfold bare at hb;simp only[Bool.and_eq_true,Bool.or_eq_true,decide_eq_true_eq]at hb;simp only[mapOf,J.nm];omega
 ·rfl
theorem MR:∀(d:Nat) (j:J),goodJ d j=true->goodJ (d+1) j=true
 | 0,_,h=>by unfold goodJ at h;cases h
 | d+1,.mk k i t ks l,h=>by
  have hl:l.all (goodJ d)=true->l.all (goodJ (d+1))=true:=fun h=>List.all_eq_true.2 fun x hx=>MR d x (List.all_eq_true.1 h x hx);rw[goodJ,Bool.and_eq_true]at h;rw[goodJ,Bool.and_eq_true];refine⟨h.1, ?_⟩;have h2:=h.2
  by_cases k0:k=0
  ·rw[if_pos k0]
  rw[if_neg k0]at h2 ⊢
  by_cases k1:k=1
  ·rw[if_pos k1]at h2 ⊢;exact h2
  rw[if_neg k1]at h2 ⊢
  by_cases k2:k=2
  ·rw[if_pos k2]at h2 ⊢;exact h2
  rw[if_neg k2]at h2 ⊢
  by_cases k3:k=3
  ·rw[if_pos k3]at h2 ⊢;exact h2
  rw[if_neg k3]at h2 ⊢
  by_cases k4:k=4
  ·rw[if_pos k4]at h2 ⊢;exact hl h2
  rw[if_neg k4]at h2 ⊢
  by_cases k5:k=5
  ·rw[if_pos k5,Bool.and_eq_true]at h2 ⊢;exact⟨h2.1,hl h2.2⟩
  rw[if_neg k5]at h2
  cases h2
theorem MS{d:Nat}{j v:J}(hg:goodJ (d+1) j=true)(h:v∈j.ls):goodJ d v=true:=by
 obtain⟨k,i,t,ks,l⟩:=j;exact List.all_eq_true.1 (iT hg).1 v h
theorem Fz{d:Nat}{j:J}(hg:goodJ (d+2) j=true)(z:Int)(s:ByteArray):numT z (lookV (ord j).ks (ord j).ls s)=numT z (lookV j.ks j.ls s):=by
 rw[Fy hg]
 cases h:lookV j.ks j.ls s with
 | none=>rfl
 | some v=>
  have hv:=MS hg (j5 h);simp only[Option.map_some,numT,Df,Y9 hv]
def dI(j:J)(s:ByteArray):Option J:=if j.kd=5 then lookV j.ks j.ls s else none
def namT(fit:ByteArray->Bool):Option J->jl×Bool
 | none=>([],false)
 | some v=>if v.kd=5 then(if((eG v).ks.zip (eG v).ls).any (fG fit)then([],true)else(rowsOf (eG v),false))else([],true)
theorem FB(fit:ByteArray->Bool){j:J}(hg:goodJ 12 j=true)(s:ByteArray):(namT fit (lookV j.ks j.ls s)).2=(rowT fit (lookV (ord j).ks (ord j).ls s)).2/\((namT fit (lookV j.ks j.ls s)).2=false->(namT fit (lookV j.ks j.ls s)).1=(rowT fit (lookV (ord j).ks (ord j).ls s)).1):=by
 rw[Fy hg]
 cases h:lookV j.ks j.ls s with
 | none=>exact⟨rfl,fun _=>rfl⟩
 | some v=>
  have hv:goodJ 12 v=true:=MR 11 v (MS hg (j5 h));have e:eG v=ord v:=by unfold eG;rw[if_pos hv]
  simp only[Option.map_some,namT,rowT,Df,e]
  by_cases k5:v.kd=5
  ·rw[if_pos k5]
   cases hb:((ord v).ks.zip (ord v).ls).any (fG fit)with
   | true=>exact⟨by simp,fun h=>by simp at h⟩
   | false=>exact⟨by simp[k5],fun _=>by simp⟩
  ·rw[if_neg k5];exact⟨by simp[k5],fun h=>by simp at h⟩
def xG(c:J):Bool:=((((((((numT 50 (dI c uE)).2 || (numT 50 (dI c mI)).2) || (numT 0 (dI c ic)).2) || (numT 50 (dI c ig)).2) || (numT 50 (dI c jG)).2) || (numT 0 (dI c il)).2) || (numT 0 (dI c jH)).2) || (namT kH (dI c gp)).2) || (namT lZ (dI c gq)).2
def MU(c:J):Lv:=⟨(numT 50 (dI c uE)).1,(numT 50 (dI c mI)).1,(numT 0 (dI c ic)).1,(numT 50 (dI c ig)).1,(numT 50 (dI c jG)).1,(numT 0 (dI c il)).1,(numT 0 (dI c jH)).1,(namT kH (dI c gp)).1,(namT lZ (dI c gq)).1⟩
def bY(c:J):Lv×Int:=if(decide (c.kd=5)&&goodJ 12 c)=true then(if xG c then(qh,1)else(MU c,0))else(qh,1)
theorem JH:dh J.zero=(qh,1):=by
 unfold dh;rw[show lT J.zero=true from by kernel_rfl]
 rfl
theorem OJ{j:J}(h:j.kd≠5):dh j=(qh,1):=by
 unfold dh;rw[show lT j=true from by simp[lT,h]]
 rfl
theorem lU(c:J):dh (eG c)=bY c:=by
 unfold bY eG
 cases hg:goodJ 12 c with
 | false=>simp[JH]
 | true=>
  by_cases k5:c.kd=5
  ·simp only[k5,decide_true,Bool.and_self,if_true];have gt:∀s,dI c s=lookV c.ks c.ls s:=fun s=>by unfold dI;rw[if_pos k5]
   have hu:=FB kH hg gp;have hy:=FB lZ hg gq;have hk:(ord c).kd=5:=by rw[Df,k5]
   have eb:lT (ord c)=xG c:=by
    unfold lT xG;simp only[gt,Fz (d:=10) hg,hk,decide_true,Bool.not_true,Bool.false_or,hu.1,hy.1]
   unfold dh;rw[eb]
   cases hb:xG c with
   | true=>rfl
   | false=>
    simp only[Bool.false_eq_true,if_false];unfold xG at hb;simp only[Bool.or_eq_false_iff,gt]at hb;unfold qg MU;simp only[gt,Fz (d:=10) hg,hu.2 hb.1.2,hy.2 hb.2]
  ·simp only[k5,decide_false,Bool.false_and,if_true];exact OJ (by rw[Df];exact k5)
theorem sQ:∀{ks:List ByteArray} {l:List J} {s:ByteArray} {n:Nat},n<ks.length->n<l.length->(∀m,m<n->((ks.getD m aT).toList==s.toList)=false)->((ks.getD n aT).toList==s.toList)=true->lookV ks l s=some (l.getD n J.zero)
 | [],_,_,_,h,_,_,_=>absurd h (by simp)
 | _::_, [],_,_,_,h,_,_=>absurd h (by simp)
 | k::ks,v::l,s,0,_,_,_,he=>by
  have he:(k.toList==s.toList)=true:=by simpa using he
  unfold lookV;rw[if_pos he];simp
 | k::ks,v::l,s,n+1,h1,h2,hm,he=>by
  have h0:(k.toList==s.toList)=false:=by have:=hm 0 (by omega);simpa using this
  unfold lookV;rw[h0,if_neg (by decide),sQ (n:=n) (by simpa using h1) (by simpa using h2) (fun m h=>by have:=hm (m+1) (by omega);simpa using this) (by simpa using he)];simp
theorem lV:∀{ks:List ByteArray} {l:List J} {s:ByteArray},(∀m,m<ks.length->m<l.length->((ks.getD m aT).toList==s.toList)=false)->lookV ks l s=none
 | [],_,_,_=>by unfold lookV;rfl
 | _::_, [],_,_=>by unfold lookV;rfl
 | k::ks,v::l,s,h=>by
  have h0:(k.toList==s.toList)=false:=by have:=h 0 (by simp) (by simp);simpa using this
  unfold lookV;rw[h0,if_neg (by decide)];exact lV fun m h1 h2=>by have:=h (m+1) (by simpa using h1) (by simpa using h2);simpa using this
theorem yB{O:Nat->Prop}{w:World}{j:J}{k i:Int}{t:ByteArray}{pk pl:Option Addr}{nk ck nl cl:Nat}(hj:isJ O w j [.int .i64 k,.int .i64 i,.string t,.slice pk nk ck,.slice pl nl cl])(hO:∀b,O b->b<w.heap.size)(hz:j.ks.length<=100000)(s:ByteArray):
    Calls Tryz.prog 43 #[.agg #[.int .i64 k,.int .i64 i,.string t,.slice pk nk ck,.slice pl nl cl],.string s] w fun e w'=>C9 O w' (dI j s) e/\Below w.heap.size w w':=by
 obtain⟨kx,ix,tx,ks,l⟩:=j;obtain⟨rfl,rfl,rfl,rfl,rfl,hk,BF,oo⟩:=bU hj;clear hj;obtain⟨o,ho⟩:∃o,dI (.mk k i t ks l) s=o:=⟨_,rfl⟩;rw[ho];have Xo:Hid (k=5->o=lookV ks l s):=fun h=>by rw[<-ho];unfold dI;exact if_pos h
 have Ug:Hid (¬k=5->o=none):=fun h=>by rw[<-ho];unfold dI;exact if_neg h
 clear ho;simp only[J.ks]at hz;obtain⟨W0,cO⟩:∃W0,W0=(w.alloc (.cells #[.int .i64 k,.int .i64 i,.string t,.slice pk ks.length ck,.slice pl l.length cl] 25)).alloc (.cells #[.int .i64 0,.int .i64 0,.string ⟨#[]⟩,.slice none 0 0,.slice none 0 0] 25):=⟨_,rfl⟩;have cK:Below w.heap.size w W0:=by rw[cO];exact((Below.refl _ _).alloc (Nat.le_refl _) _).alloc (by simp) _
 have AY:W0.heap[w.heap.size]?=some (.cells #[.int .i64 k,.int .i64 i,.string t,.slice pk ks.length ck,.slice pl l.length cl] 25 (0,0)):=by rw[cO,Below.heap_alloc _ _ _ (by simp)];exact bz _
 have hR:W0.heap[w.heap.size+1]?=some (.cells #[.int .i64 0,.int .i64 0,.string ⟨#[]⟩,.slice none 0 0,.slice none 0 0] 25 (0,0)):=by
  rw[cO];have:=bz (w:=w.alloc (.cells #[.int .i64 k,.int .i64 i,.string t,.slice pk ks.length ck,.slice pl l.length cl] 25)) (.cells #[.int .i64 0,.int .i64 0,.string ⟨#[]⟩,.slice none 0 0,.slice none 0 0] 25);rw[World.size_alloc]at this;exact this
 obtain⟨nk,kX⟩:∃n,ks.length=n:=⟨_,rfl⟩;obtain⟨nl,o_⟩:∃n,l.length=n:=⟨_,rfl⟩;have kG:Hid (ks.length=nk):=kX;have yX:Hid (l.length=nl):=o_;have CU:=hk.1;rw[kX]at hz CU AY cO ⊢;rw[o_]at BF AY cO ⊢;clear kX o_;have c0:=ai AY 0 _ rfl;have c3:=ai AY 3 _ rfl;have c4:=ai AY 4 _ rfl;have i0:=ai hR 0 _ rfl;have i1:=ai hR 1 _ rfl;have i2:=ai hR 2 _ rfl;have i3:=ai hR 3 _ rfl;have i4:=ai hR 4 _ rfl;have z0:=gB hR 0;have z1:=gB hR 1;have z2:=gB hR 2;have z3:=gB hR 3;have z4:=gB hR 4;have HR:Hid (W0.heap[w.heap.size+1]?=some (.cells #[.int .i64 0,.int .i64 0,.string ⟨#[]⟩,.slice none 0 0,.slice none 0 0] 25 (0,0))):=hR;have HN:Hid (∀X,ay (aJ (w.heap.size+1)) W0 X->Below w.heap.size w X):=fun X hX=>cK.trans (hX.below cK.size fun q hq e=>by unfold aJ at e;omega);clear hR AY
 by_cases k5:k=5
 ·subst k5;have TY:=(show Hid _ from Xo.out rfl);clear Xo Ug;go_enter Tryz.func43,Tryz.ntmps43
  go_upto_region 1 with fail
  rw[<-cO];clear cO;go_wp2
  go_loopw [6] (fun v wr=>∃m:Nat,v=.int .i64 m/\m<=nk/\m<=nl/\Hid (∀y,y<m->((ks.getD y aT).toList==s.toList)=false)/\wr=W0) (fun v _=>nk - (intOf v).toNat)
  case atStart=>exact⟨0,rfl,Nat.zero_le _,Nat.zero_le _,fun m hm=>absurd hm (by omega),rfl⟩
  case round=>
   obtain⟨m,rfl,hm,AX,HX,rfl⟩:=hrel
   by_cases bQ:m<nk
   ·by_cases Rw:m<nl
    ·have pK:(m:Int)<(nk:Int):=by omega
     have zlY:(m:Int)<(nl:Int):=by omega
     obtain⟨a,rfl,qR,zeq⟩:=hk.2 m (by rw[kG.out];exact bQ);have y_:wr.cell? (a.add m)=some (.string (ks.getD m aT)):=(World.cell?_of_block (by rw[bK];exact cK.block _ (hO _ qR))).trans zeq;obtain⟨lb,lo,cs,tO,lY,bC,iL⟩:=isJs.at l 0 m oo (by rw[yX.out];exact Rw);subst tO;obtain⟨kv,iv,tv,pv,nv,cv,qv,mv,dv,rfl⟩:=dw iL;have cc:∀n v, [Value.int .i64 kv,.int .i64 iv,.string tv,.slice pv nv cv,.slice qv mv dv][n]?=some v->wr.cell? ⟨lb,lo+m*5+n,none⟩=some v:=fun n v h=>by
      have:=bC n v h;rw[Nat.zero_add]at this;exact(World.cell?_of_block (a:=⟨lb,lo+m*5+n,none⟩) (cK.block lb (hO lb lY))).trans this
     have y0:wr.cell? ⟨lb,lo+m*5,none⟩=some (.int .i64 kv):=cc 0 _ rfl;have y1:=cc 1 _ rfl;have y2:=cc 2 _ rfl;have y3:=cc 3 _ rfl;have y4:=cc 4 _ rfl;have HYJ:Hid (isJ O w (l.getD m J.zero) [Value.int .i64 kv,.int .i64 iv,.string tv,.slice pv nv cv,.slice qv mv dv]):=iL;have T_:=hO lb lY;have yA:Hid (((ks.getD m aT).toList==s.toList)=true->lookV ks l s=some (l.getD m J.zero)):=fun h=>sQ (by rw[kG.out];exact bQ) (by rw[yX.out];exact Rw) HX.out h;have qa:Hid (((ks.getD m aT).toList==s.toList)=false->∀y,y<m+1->((ks.getD y aT).toList==s.toList)=false):=fun h y hy=>(Nat.lt_succ_iff_lt_or_eq.1 hy).elim (HX.out y) fun e=>by rw[e];exact h
     clear cc bC iL zeq;generalize ks.getD m aT=u at y_ yA qa
     cases he:(u.toList==s.toList)with
     | true=>
      have HL:=(show Hid _ from yA.out he);clear yA qa;go_wp2;have h5:=cZ (b:=w.heap.size+1) [.int .i64 kv,.int .i64 iv,.string tv,.slice pv nv cv,.slice qv mv dv] HR.out rfl;have eD:=bS (w.heap.size+1) [.int .i64 kv,.int .i64 iv,.string tv,.slice pv nv cv,.slice qv mv dv] wr 0;simp only[setL,Nat.zero_add,Nat.reduceAdd]at h5 eD;refine bodyPost_ret (aK rfl _ _ _ rfl (vV h5)) rfl ?_;rw[TY.out,HL.out];have gU:=HN.out _ eD;exact⟨⟨_,_,_,_,_,_,_,_,_,rfl,HYJ.out.carry fun x hx=>⟨hx,gU.block x (hO x hx)⟩⟩,gU⟩
     | false=>
      have HS:=(show Hid _ from qa.out he);clear yA qa;go_wp2;go_roundw
      case rel=>exact⟨m+1,by go_num,bQ,Rw,HS,trivial⟩
      case measure=>simp[intOf];omega
    ·obtain rfl:m=nl:=by omega
     have yA:Hid (lookV ks l s=none):=lV fun y h1 h2=>HX.out y (by rw[<-yX.out];exact h2);have pK:(m:Int)<(nk:Int):=by omega
     go_wp2;have h5:=cZ (b:=w.heap.size+1) [.int .i64 0,.int .i64 0,.string ⟨#[]⟩,.slice none 0 0,.slice none 0 0] HR.out rfl;have eD:=bS (w.heap.size+1) [.int .i64 0,.int .i64 0,.string ⟨#[]⟩,.slice none 0 0,.slice none 0 0] wr 0;simp only[setL,Nat.zero_add,Nat.reduceAdd]at h5 eD;refine bodyPost_ret (aK rfl _ _ _ rfl (vV h5)) rfl ?_;rw[TY.out,yA.out];exact⟨rfl,HN.out _ eD⟩
   ·obtain rfl:m=nk:=by omega
    have yA:Hid (lookV ks l s=none):=lV fun y h1 h2=>HX.out y (by rw[<-kG.out];exact h1);go_wp2;have h5:=cZ (b:=w.heap.size+1) [.int .i64 0,.int .i64 0,.string ⟨#[]⟩,.slice none 0 0,.slice none 0 0] HR.out rfl;have eD:=bS (w.heap.size+1) [.int .i64 0,.int .i64 0,.string ⟨#[]⟩,.slice none 0 0,.slice none 0 0] wr 0;simp only[setL,Nat.zero_add,Nat.reduceAdd]at h5 eD;refine bodyPost_ret (aK rfl _ _ _ rfl (vV h5)) rfl ?_;rw[TY.out,yA.out];exact⟨rfl,HN.out _ eD⟩
 ·have TY:=(show Hid _ from Ug.out k5);clear Xo Ug;go_enter Tryz.func43,Tryz.ntmps43
  go_upto_region 1 with fail
  rw[<-cO];clear cO;go_wp2;have h5:=cZ (b:=w.heap.size+1) [.int .i64 0,.int .i64 0,.string ⟨#[]⟩,.slice none 0 0,.slice none 0 0] HR.out rfl;have eD:=bS (w.heap.size+1) [.int .i64 0,.int .i64 0,.string ⟨#[]⟩,.slice none 0 0,.slice none 0 0] W0 0;simp only[setL,Nat.zero_add,Nat.reduceAdd]at h5 eD;refine bodyPost_ret (aK rfl _ _ _ rfl (vV h5)) rfl ?_;rw[TY.out];exact⟨rfl,HN.out _ eD⟩
theorem Rx{d:Nat}{j v:J}(h:szJ (d+1) j=true)(hv:v∈j.ls):szJ d v=true:=by
 obtain⟨k,i,t,ks,l⟩:=j;unfold szJ at h;simp only[Bool.and_eq_true]at h;exact List.all_eq_true.1 h.2.2.2.2 v hv
theorem fH{d:Nat}{j:J}(h:szJ (d+1) j=true):j.ks.length<=100000:=by
 obtain⟨k,i,t,ks,l⟩:=j;unfold szJ at h;simp only[Bool.and_eq_true,decide_eq_true_eq]at h;exact h.2.1
theorem FC{j v:J}{s:ByteArray}(h:dI j s=some v):v∈j.ls:=by
 unfold dI at h
 split at h
 ·exact j5 h
 ·cases h
theorem Ry{d:Nat}{j:J}(jv:Ju (d+2) j)(fit:ByteArray->Bool)(s:ByteArray):vU (rowT fit (lookV j.ks j.ls s)).1:=by
 cases h:lookV j.ks j.ls s with
 | none=>exact⟨by simp[rowT],fun p hp=>by simp[rowT]at hp⟩
 | some v=>
  have hv:Ju (d+1) v:=by
   obtain⟨_,_,_,_,_⟩:=j;exact jv.parts.2.2.2.2.2 v (j5 h)
  obtain⟨k,i,t,ks,l⟩:=v;have hp:=hv.parts;simp only[rowT,rowsOf,J.ks,J.ls];refine⟨by rw[List.length_map,List.length_zip];omega,fun p hm=> ?_⟩;obtain⟨q,hq,rfl⟩:=List.mem_map.1 hm;exact hp.2.2.2.2.1 q.1 (List.of_mem_zip hq).1
theorem zP{c:J}(hs:szJ 12 c=true):zy (dh (eG c)).1:=by
 have jv:=uG hs;unfold dh
 split
 ·exact⟨⟨by simp,fun p hp=>by simp at hp⟩,⟨by simp,fun p hp=>by simp at hp⟩⟩
 ·exact⟨Ry (d:=10) jv kH gp,Ry (d:=10) jv lZ gq⟩
theorem vX(j:J):(dh j).2=0\/ (dh j).2=1:=by
 unfold dh
 split
 ·exact .inr rfl
 ·exact .inl rfl
abbrev aV:ByteArray:=⟨#[109,46,114,111,111,109,46,99,114,101,97,116,101]⟩
abbrev bg:ByteArray:=⟨#[109,46,114,111,111,109,46,109,101,109,98,101,114]⟩
abbrev bF:ByteArray:=⟨#[109,46,114,111,111,109,46,112,111,119,101,114,95,108,101,118,101,108,115]⟩
abbrev dJ:ByteArray:=⟨#[109,46,114,111,111,109,46,106,111,105,110,95,114,117,108,101,115]⟩
abbrev fI:ByteArray:=⟨#[99,114,101,97,116,111,114]⟩
abbrev dG:ByteArray:=⟨#[109,101,109,98,101,114,115,104,105,112]⟩
abbrev jS:ByteArray:=⟨#[106,111,105,110,95,114,117,108,101]⟩
abbrev jT:ByteArray:=⟨#[106,111,105,110]⟩
abbrev lD:ByteArray:=⟨#[105,110,118,105,116,101]⟩
abbrev JI:ByteArray:=⟨#[108,101,97,118,101]⟩
abbrev yg:ByteArray:=⟨#[98,97,110]⟩
abbrev Dg:ByteArray:=⟨#[112,117,98,108,105,99]⟩
abbrev fT(a b:ByteArray):Bool:=a.toList==b.toList
abbrev Kn:=ByteArray×Ev
abbrev zK:Kn:=(aT,Ev.zero)
def J.tx:J->ByteArray
 | .mk _ _ t _ _=>t
def txtT:Option J->ByteArray
 | some v=>if v.kd=3 then v.tx else aT
 | none=>aT
def dW(c:J)(s:ByteArray):ByteArray:=txtT (dI c s)
def Dh(kind key:ByteArray)(k:Kn):Bool:=k.2.st&&(fT k.2.aR kind&&fT k.2.key key)
def aW(l:List Kn)(kind key:ByteArray):Option Kn:=l.find? (Dh kind key)
def iH(l:List Kn)(kind key under:ByteArray):ByteArray:=dW ((aW l kind key).getD zK).2.content under
def jK(l:List Kn)(u:ByteArray):ByteArray:=iH l bg u dG
def iZ(e:Ev):Bool:=e.st&&(fT e.key ⟨#[]⟩&&(decide (e.prev.length=0)&&(decide (e.aD.length=0)&&(fT (Id.home e.room) (Id.home e.ah)&&fT (dW e.content fI) e.ah))))
def levT(l:List Kn)(Vn:ByteArray):Option Lv:=match aW l bF ⟨#[]⟩with
 | some k=>if(dh (eG k.2.content)).2=0 then some (dh (eG k.2.content)).1 else none
 | none=>some (jJ Vn)
structure Hr where
 e:Ev
 st:List Kn
 cn:ByteArray
 ce:Ev
 l:Lv
 told:Bool
def Hr.own(h:Hr):Bool:=fT h.e.key h.e.ah
def Hr.s(h:Hr):Int:=pY h.l h.e.ah
def Hr.t(h:Hr):Int:=pY h.l h.e.key
def Hr.iN(h:Hr):Bool:=fT (jK h.st h.e.ah) jT
def Hr.target(h:Hr):ByteArray:=jK h.st h.e.key
def Hr.alone(h:Hr):Bool:=decide (h.e.prev.length=1)&&fT (h.e.prev.getD 0 aT) h.cn
def Hr.kY(h:Hr):Bool:=h.own&&((h.alone&&fT h.ce.ah h.e.ah) || (!fT h.target yg&&((fT h.target jT || fT h.target lD) || fT (iH h.st dJ ⟨#[]⟩ jS) Dg)))
def Hr.leaves(h:Hr):Bool:=if h.own then fT h.target jT || fT h.target lD else h.iN&&(!(fT h.target yg&&decide (h.s<h.l.nN))&&(decide (h.l.h_<=h.s)&&decide (h.t<h.s)))
def Hr.Vo(h:Hr):Bool:=h.iN&&(!fT h.target jT&&(!fT h.target yg&&decide (h.l.dA<=h.s)))
def Hr.zgH(h:Hr):Bool:=h.iN&&(decide (h.l.nN<=h.s)&&decide (h.t<h.s))
def Hr.fO(h:Hr):Bool:=(h.e.st&&kH h.e.key)&&
 (if fT (dW h.e.content dG) jT then h.kY else if fT (dW h.e.content dG) lD then h.Vo else if fT (dW h.e.content dG) JI then h.leaves else if fT (dW h.e.content dG) yg then h.zgH else false)
def Hr.changes(h:Hr):Bool:=decide ((dh (eG h.e.content)).2=0)&&(!h.told || Bb h.l (dh (eG h.e.content)).1 h.e.ah)
def OL(s:ByteArray):Bool:=decide (1<=s.size)&&fT (s.extract 0 1) ⟨#[64]⟩
def Hr.xH(h:Hr):Bool:=h.iN&&(decide (pg h.l h.e.aR h.e.st<=h.s)&&(!((h.e.st&&OL h.e.key)&& !h.own)&&(if(h.e.st&&fT h.e.aR bF)&&fT h.e.key ⟨#[]⟩then h.changes else true)))
def Hr.ask(h:Hr):Bool:=if fT h.e.aR bg then h.fO else h.xH
def openT(e:Ev)(l:List Kn):Option Hr:=match aW l aV ⟨#[]⟩with
 | none=>none
 | some c=>if fT c.2.room e.room then(match levT l c.2.ah with| none=>none| some v=>some ⟨e,l,c.1,c.2,v,(aW l bF ⟨#[]⟩).isSome⟩)else none
def askT(e:Ev)(l:List Kn):Bool:=if fT e.aR aV then iZ e else match openT e l with| none=>false| some h=>h.ask
def je(e:Ev)(l:List Kn):Int:=if aS e then(if askT e l then 0 else 110)else 50
structure yC(e:Ev):Prop where
 room:e.room.size<=1000000000
 aR:e.aR.size<=1000000000
 ah:e.ah.size<=1000000000
 key:e.key.size<=1000000000
 hash:e.hash.size<=1000000000
 cont:szJ 12 e.content=true
 prev:e.prev.length<=100000
 MV:∀x∈e.prev,x.size<=1000000000
 aD:e.aD.length<=100000
 MW:∀x∈e.aD,x.size<=1000000000
 sigs:e.sigs.length<=100000
 FD:∀x∈e.sigs,x.1.size<=1000000000/\x.2.size<=1000000000
def az(k:Kn)(p:Pt):List Value:=.string k.1::aA k.2 p
def l8(k:Kn)(p:Pt):Value:=.agg (az k p).toArray
def pM(O:Nat->Prop)(w:World)(p:Option Addr)(c:Nat)(l:List Kn):Prop:=
 l.length<=c/\∀j,j<l.length->∃b o q,p=some ⟨b,o,none⟩/\O b/\(∀n v,(az (l.getD j zK) q)[n]?=some v->w.cell? ⟨b,o+j*17+n,none⟩=some v)/\ji O w (l.getD j zK).2 q
theorem pM.carry{O O':Nat->Prop}{w w':World}{p:Option Addr}{c:Nat}{l:List Kn}(h:pM O w p c l)(hO:∀k,O k->O' k/\w'.heap[k]?=w.heap[k]?):pM O' w' p c l:=
 ⟨h.1,fun j hj=>by
  obtain⟨b,o,q,hp,hB,h1,h2⟩:=h.2 j hj;exact⟨b,o,q,hp,(hO _ hB).1,fun n v hv=>(World.cell?_of_block (a:=⟨b,o+j*17+n,none⟩) (hO _ hB).2).trans (h1 n v hv),h2.carry hO⟩⟩
theorem pM.nil(O:Nat->Prop)(w:World)(p:Option Addr)(c:Nat):pM O w p c []:=⟨Nat.zero_le _,fun j hj=>absurd hj (by simp)⟩
structure FE(l:List Kn):Prop where
 len:l.length<=100000
 cont:∀k∈l,szJ 13 k.2.content=true
 snd:∀k∈l,k.2.ah.size<=1000000000
theorem Rz{l:List Kn}{j:Nat}(h:j<l.length):l.getD j zK∈l:=by
 rw[List.getD_eq_getElem?_getD,List.getElem?_eq_getElem h];exact List.getElem_mem h
structure Ph where
 e:Pt
 ps:Option Addr
 cs:Nat
 ce:Pt
 l:Pl
def oP(h:Hr)(p:Ph):List Value:=aA h.e p.e++(.slice p.ps h.st.length p.cs::(az (h.cn,h.ce) p.ce++(aG h.l p.l++ [.bool h.told])))
structure jw(w:World)(hb:Nat)(h:Hr)(p:Ph):Prop where
 uw:w.heap[hb]?=some (.cells (oP h p).toArray 92 (0,0))
 ev:ji (· <w.heap.size) w h.e p.e
 st:pM (· <w.heap.size) w p.ps p.cs h.st
 lv:qV (· <w.heap.size) w h.l p.l
theorem jw.below{w w':World}{hb:Nat}{h:Hr}{p:Ph}(x:jw w hb h p)(b:Below w.heap.size w w'):jw w' hb h p:=
 ⟨(b.block hb (aP x.uw)).trans x.uw,x.ev.carry fun k hk=>⟨Nat.lt_of_lt_of_le hk b.size,b.block k hk⟩,x.st.carry fun k hk=>⟨Nat.lt_of_lt_of_le hk b.size,b.block k hk⟩,x.lv.carry fun k hk=>⟨Nat.lt_of_lt_of_le hk b.size,b.block k hk⟩⟩
structure Qa(h:Hr):Prop where
 e:yC h.e
 st:FE h.st
 l:zy h.l
section
variable {w : World} {hb : Nat} {h : Hr} {p : Ph}
theorem jw.cell(x:jw w hb h p)(n:Nat)(v:Value)(hv:(oP h p).toArray[n]?=some v):w.cell? ⟨hb,n,none⟩=some v:=ai x.uw n v hv
theorem jw.ah(x:jw w hb h p):w.cell? ⟨hb,2,none⟩=some (.string h.e.ah):=x.cell 2 _ rfl
theorem jw.l9(x:jw w hb h p):w.cell? ⟨hb,3,none⟩=some (.bool h.e.st):=x.cell 3 _ rfl
theorem jw.key(x:jw w hb h p):w.cell? ⟨hb,4,none⟩=some (.string h.e.key):=x.cell 4 _ rfl
theorem jw.prev(x:jw w hb h p):w.cell? ⟨hb,10,none⟩=some (.slice p.e.pp h.e.prev.length p.e.cp):=x.cell 10 _ rfl
theorem jw.state(x:jw w hb h p):w.cell? ⟨hb,16,none⟩=some (.slice p.ps h.st.length p.cs):=x.cell 16 _ rfl
theorem jw.zer(x:jw w hb h p):w.cell? ⟨hb,17,none⟩=some (.string h.cn):=x.cell 17 _ rfl
theorem jw.Xp(x:jw w hb h p):w.cell? ⟨hb,20,none⟩=some (.string h.ce.ah):=x.cell 20 _ rfl
theorem jw.nN(x:jw w hb h p):w.cell? ⟨hb,34,none⟩=some (.int .i64 h.l.nN):=x.cell 34 _ rfl
theorem jw.h_(x:jw w hb h p):w.cell? ⟨hb,35,none⟩=some (.int .i64 h.l.h_):=x.cell 35 _ rfl
theorem jw.dA(x:jw w hb h p):w.cell? ⟨hb,36,none⟩=some (.int .i64 h.l.dA):=x.cell 36 _ rfl
theorem jw.Y_(x:jw w hb h p):w.cell? ⟨hb,43,none⟩=some (.bool h.told):=x.cell 43 _ rfl
end
theorem uN(a b:ByteArray):(a.toList==b.toList)=(b.toList==a.toList):=by
 rw[Bool.eq_iff_iff,iU,iU];exact eq_comm
def Vp(ks:List ByteArray)(s:ByteArray)(m:Int):Prop:=(m= -1/\∀y,y<ks.length->(s.toList==(ks.getD y aT).toList)=false)\/ ∃k:Nat,m=(k:Int)/\k<ks.length/\(s.toList==(ks.getD k aT).toList)=true/\∀y,y<k->(s.toList==(ks.getD y aT).toList)=false
theorem OM{O:Nat->Prop}{w:World}{p:Option Addr}{c:Nat}{ks:List ByteArray}(hk:jP O w p c ks)(hz:ks.length<=100000)(s:ByteArray):
    Calls Tryz.prog 66 #[.slice p ks.length c,.string s] w fun e w'=>(∃m,e=.returned (.int .i64 m)/\Vp ks s m)/\w=w':=by
 obtain⟨n,hn⟩:∃n,ks.length=n:=⟨_,rfl⟩;have HN:Hid (ks.length=n):=hn;have hc:=hk.1;rw[hn]at hz hc ⊢;clear hn;go_enter Tryz.func66,Tryz.ntmps66;go_wp2
 go_loop [8] (fun i=>∃k:Nat,i=.int .i64 k/\k<=n/\Hid (∀y,y<k->(s.toList==(ks.getD y aT).toList)=false)) (fun i=>n - (intOf i).toNat)
 case atStart=>exact⟨0,rfl,Nat.zero_le _,fun y hy=>absurd hy (by omega)⟩
 case round=>
  obtain⟨k,rfl,mW,HX⟩:=hrel
  by_cases bQ:k<n
  ·have TS:(k:Int)<(n:Int):=by omega
   obtain⟨a,rfl,_,y_⟩:=hk.2 k (by rw[HN.out];exact bQ);have HS:Hid ((s.toList==(ks.getD k aT).toList)=false->∀y,y<k+1->(s.toList==(ks.getD y aT).toList)=false):=fun h y hy=>(Nat.lt_succ_iff_lt_or_eq.1 hy).elim (HX.out y) fun e=>by rw[e];exact h
   have HY:Hid ((s.toList==(ks.getD k aT).toList)=true->Vp ks s k):=fun h=>.inr ⟨k,rfl,by rw[HN.out];exact bQ,h,HX.out⟩;generalize ks.getD k aT=u at y_ HS HY
   cases he:(s.toList==u.toList)with
   | true=>
    have HZ:=(show Hid _ from HY.out he);go_wp2;go_ret;exact⟨⟨_,rfl,HZ.out⟩,rfl⟩
   | false=>
    have HZ:=(show Hid _ from HS.out he);go_wp2
    go_round
    case rel=>exact⟨k+1,by go_num,bQ,HZ⟩
    case measure=>simp[intOf];omega
  ·obtain rfl:k=n:=by omega
   go_wp2;go_ret;exact⟨⟨_,rfl,.inl ⟨rfl,fun y hy=>HX.out y (by rw[<-HN.out];exact hy)⟩⟩,rfl⟩
theorem FH{ks:List ByteArray}{l:List J}{s:ByteArray}{m:Int}(h:Vp ks s m):(m<0/\lookV ks l s=none)\/ ((l.length:Int)<=m/\lookV ks l s=none)\/ ∃k:Nat,m=(k:Int)/\k<ks.length/\k<l.length/\lookV ks l s=some (l.getD k J.zero):=by
 rcases h with⟨rfl,h⟩| ⟨k,rfl,hk,he,hb⟩
 ·exact .inl ⟨by decide,lV fun y h1 _=>by rw[uN];exact h y h1⟩
 ·by_cases hl:k<l.length
  ·exact .inr (.inr ⟨k,rfl,hk,hl,sQ hk hl (fun y hy=>by rw[uN];exact hb y hy) (by rw[uN];exact he)⟩)
  ·exact .inr (.inl ⟨by omega,lV fun y _ h2=>by rw[uN];exact hb y (by omega)⟩)
theorem qX{O:Nat->Prop}{w:World}{j:J}{k i:Int}{t:ByteArray}{pk pl:Option Addr}{nk ck nl cl:Nat}(hj:isJ O w j [.int .i64 k,.int .i64 i,.string t,.slice pk nk ck,.slice pl nl cl])(hO:∀b,O b->b<w.heap.size)(hz:j.ks.length<=100000)(s:ByteArray):
    Calls Tryz.prog 31 #[.agg #[.int .i64 k,.int .i64 i,.string t,.slice pk nk ck,.slice pl nl cl],.string s] w fun e w'=>e=.returned (.string (dW j s))/\Below w.heap.size w w':=by
 obtain⟨kx,ix,tx,ks,l⟩:=j;obtain⟨rfl,rfl,rfl,rfl,rfl,hk,BF,oo⟩:=bU hj;clear hj;obtain⟨y,hy⟩:∃y,dW (.mk k i t ks l) s=y:=⟨_,rfl⟩;rw[hy];have Xo:Hid (k=5->y=txtT (lookV ks l s)):=fun h=>by rw[<-hy];show txtT (if k=5 then lookV ks l s else none)=_;rw[if_pos h]
 have Ug:Hid (¬k=5->y=aT):=fun h=>by rw[<-hy];show txtT (if k=5 then lookV ks l s else none)=_;rw[if_neg h];rfl
 clear hy;simp only[J.ks]at hz;obtain⟨wA,g_⟩:∃wA,wA=w.alloc (.cells #[.int .i64 k,.int .i64 i,.string t,.slice pk ks.length ck,.slice pl l.length cl] 25):=⟨_,rfl⟩;have bM:Below w.heap.size w wA:=by rw[g_];exact(Below.refl _ _).alloc (Nat.le_refl _) _
 have hA:wA.heap[w.heap.size]?=some (.cells #[.int .i64 k,.int .i64 i,.string t,.slice pk ks.length ck,.slice pl l.length cl] 25 (0,0)):=by rw[g_];exact bz _
 have hI:=OM (hk.carry (O':=O) (w':=wA) fun x hx=>⟨hx,bM.block x (hO x hx)⟩) hz s;have yA:Hid (∀m,Vp ks s m->(m<0/\lookV ks l s=none)\/ ((l.length:Int)<=m/\lookV ks l s=none)\/ ∃k:Nat,m=(k:Int)/\k<ks.length/\k<l.length/\lookV ks l s=some (l.getD k J.zero)):=fun m h=>FH h;have U9:Hid (isJs O w pl 0 l):=oo;obtain⟨nk,kX⟩:∃n,ks.length=n:=⟨_,rfl⟩;obtain⟨nl,o_⟩:∃n,l.length=n:=⟨_,rfl⟩;have yX:Hid (l.length=nl):=o_;rw[kX]at hz hA hI g_ yA ⊢;rw[o_]at BF hA g_ yA ⊢;have i0:=ai hA 0 _ rfl;have i3:=ai hA 3 _ rfl;have i4:=ai hA 4 _ rfl;clear kX o_ hA hk oo;generalize lookV ks l s=o at yA Xo
 by_cases k5:k=5
 ·subst k5;have HY:=(show Hid _ from Xo.out rfl);clear Xo Ug;go_enter Tryz.func31,Tryz.ntmps31
  go_upto_region 1 with fail
  rw[<-g_];clear g_
  go_upto_region 2 with(go_at_call 66;refine hI.mono ?_;rintro e w1 ⟨⟨m,rfl,hm⟩,rfl⟩)
  rcases yA.out m hm with⟨h1,h2⟩| ⟨h1,h2⟩| ⟨n,h1,h2,h3,h4⟩
  ·subst h2;clear hI hm yA;go_wp2;go_ret;exact⟨by rw[HY.out];rfl,bM⟩
  ·subst h2;clear hI hm yA;have h0:¬m<0:=by omega
   have hd:decide (m<0)=false:=decide_eq_false h0;have JJ:decide ((nl:Int)<=m)=true:=decide_eq_true h1;go_wp2;go_ret;exact⟨by rw[HY.out];rfl,bM⟩
  ·subst h4 h1;clear hI hm yA;have hni:(n:Int)<(nl:Int):=by omega
   obtain⟨lb,lo,cs,tO,lY,bC,iL⟩:=isJs.at l 0 n U9.out (by rw[yX.out];exact h3);subst tO;obtain⟨kv,iv,tv,pv,nv,cv,qv,mv,dv,rfl⟩:=dw iL;have HV:Hid ((l.getD n J.zero).kd=kv/\(l.getD n J.zero).tx=tv):=by
    generalize l.getD n J.zero=y at iL;obtain⟨_,_,_,_,_⟩:=y;obtain⟨rfl,rfl,rfl,_⟩:=bU iL;exact⟨rfl,rfl⟩
   have cc:∀m v, [Value.int .i64 kv,.int .i64 iv,.string tv,.slice pv nv cv,.slice qv mv dv][m]?=some v->wA.cell? ⟨lb,lo+n*5+m,none⟩=some v:=fun m v h=>by
    have:=bC m v h;rw[Nat.zero_add]at this;exact(World.cell?_of_block (a:=⟨lb,lo+n*5+m,none⟩) (bM.block lb (hO lb lY))).trans this
   have y0:wA.cell? ⟨lb,lo+n*5,none⟩=some (.int .i64 kv):=cc 0 _ rfl;have y2:=cc 2 _ rfl;clear cc bC iL;have hd:decide ((n:Int)<0)=false:=decide_eq_false (by omega);have JJ:decide (nl<=n)=false:=decide_eq_false (by omega)
   by_cases k3:kv=3
   ·subst k3;have HT:Hid (txtT (some (l.getD n J.zero))=tv):=by show _=_;simp only[txtT,HV.out.1,HV.out.2,if_true]
    go_wp2;go_ret;exact⟨by rw[HY.out,HT.out];rfl,bM⟩
   ·have HT:Hid (txtT (some (l.getD n J.zero))=⟨#[]⟩):=by show _=_;simp only[txtT,HV.out.1,if_neg k3];rfl
    go_wp2;go_ret;exact⟨by rw[HY.out,HT.out];rfl,bM⟩
 ·have HY:=(show Hid _ from Ug.out k5);clear Xo Ug;go_enter Tryz.func31,Tryz.ntmps31
  go_upto_region 1 with fail
  rw[<-g_];clear g_;go_wp2_with(go_at_call 66;refine hI.mono ?_;rintro e w1 ⟨⟨m,rfl,hm⟩,rfl⟩);go_ret;exact⟨by rw[HY.out];rfl,bM⟩
theorem aX(w:World)(g:Nat)(cs:Array Value):ay (aJ g) w (w.setRow g cs):=by
 refine⟨rfl,rfl,rfl,by simp[World.setRow],fun k _ hk=> ?_⟩;unfold World.setRow;simp only[Array.getElem?_modify];rw[if_neg (fun e=>hk (by unfold aJ;exact e.symm))]
theorem dY{w:World}{b t:Nat}{fr:Nat×Nat}{cs:List Value}(h:w.heap[b]?=some (.cells cs.toArray t fr)):w.rangeAt b 0 cs:=fun j v hv=>by
 rw[Nat.zero_add];exact ai h j v (by simpa using hv)
theorem fC{w:World}{b t:Nat}{fr:Nat×Nat}{cs ds:List Value}(h:w.heap[b]?=some (.cells cs.toArray t fr))(o:Nat)(hd:(cs.drop o).take ds.length=ds):w.rangeAt b o ds:=fun j v hv=>by
 refine ai h (o+j) v ?_;rw[<-hd,List.getElem?_take]at hv
 split at hv
 ·rw[List.getElem?_drop]at hv;simpa using hv
 ·cases hv
theorem wpList_store_row{bZ:Array Oper}{rest:List Oper}{op:Oper}{a:Act}{w:World}{Q:Exit->Act->World->Prop}(tL:op.guard=none)(ty:TypeId)(x y:Operand)(ho:op.op=.store ty x y)
    (g t:Nat) (Hu cells:Array Value) (hx:a.eval x=.pointer (some ⟨g,0,none⟩)) (hy:a.eval y=.agg cells) (hg:w.heap[g]?=some (.cells Hu t (0,0)))
    (hi:(Tryz.prog.info? ty).map (·.size)=some cells.size) (hs:Hu.size=cells.size) (h1:cells.all (·.oneCell')=true)
    (h:wpList Tryz.prog bZ Q rest (a.put op.dst undef) (w.setRow g cells)):wpList Tryz.prog bZ Q (op::rest) a w:=by
 refine wpList_plain tL fun K' hK'=> ?_;unfold Oper.wp execOp;simp only[ho,hx,hy,Instr.storeAt,Instr.sureAddr,Sem.run_bind,Sem.run_pure,Result.andThen_ok,run_storeVar_row w g t ty Hu cells hg hi hs h1];exact hK' _ _ h
theorem Cg(e:Ev)(p:Pt):(aA e p).toArray.all (·.oneCell')=true:=all_oneCell_toArray fun v hv=>by
 simp only[aA,List.mem_cons,List.not_mem_nil,or_false]at hv
 rcases hv with rfl| rfl| rfl| rfl| rfl| rfl| rfl| rfl| rfl| rfl| rfl| rfl| rfl| rfl| rfl| rfl<;>rfl
theorem iW(k:Kn)(p:Pt):(az k p).toArray.all (·.oneCell')=true:=all_oneCell_toArray fun v hv=>by
 simp only[az,aA,List.mem_cons,List.not_mem_nil,or_false]at hv
 rcases hv with rfl| rfl| rfl| rfl| rfl| rfl| rfl| rfl| rfl| rfl| rfl| rfl| rfl| rfl| rfl| rfl| rfl<;>rfl
theorem gV:(Tryz.prog.info? 41).map (·.size)=some 17:=by kernel_rfl
theorem dX:(Tryz.prog.info? 28).map (·.size)=some 16:=by kernel_rfl
theorem iX:(Tryz.prog.info? 47).map (·.size)=some 9:=by kernel_rfl
theorem uO{w:World}{b o:Nat}{k:Kn}{q:Pt}(h:w.rangeAt b o (az k q)):(loadVar 41 ⟨b,o,none⟩).run Tryz.prog w=.ok (l8 k q) w:=run_loadVar_mid w b o 41 (az k q) _ h Tryz.underlying41 rfl gV
theorem aQ{bZ:Array Oper}{rest:List Oper}{o:Oper}{a:Act}{w:World}{Q:Exit->Act->World->Prop}(hg:Region.wanted o (yielded bZ a.tmps)=true)(ty:TypeId)(m:Operand)(hop:o.op=Op.load ty m)(b ofs:Nat)(hm:a.eval m=.pointer (some ⟨b,ofs,none⟩))(cs:List Value)
    (hl:(Instr.loadAt ty (.pointer (some ⟨b,ofs,none⟩))).run Tryz.prog w=.ok (.agg cs.toArray) w)
    (hK:wpList Tryz.prog bZ Q rest (a.put o.dst (.agg cs.toArray)) w):wpList Tryz.prog bZ Q (o::rest) a w:=by
 simp only[wpList,hg,if_true];refine Or.inl ?_;unfold Oper.wp;simp[execOp,hop,hm,hl,Result.andThen];exact hK
def MX(O:Nat->Prop)(w':World):Option Kn->Ending->Prop
 | some k,e=>∃q,e=.returned (.tuple #[l8 k q,.bool true])/\ji O w' k.2 q
 | none,e=>e=.returned (.tuple #[l8 zK Pt.zero,.bool false])
theorem qJ{l:List Kn}{kind key:ByteArray}{k:Nat}(h:aW (l.take k) kind key=none)(hk:k<l.length)(he:Dh kind key (l.getD k zK)=false):aW (l.take (k+1)) kind key=none:=by
 unfold aW at h ⊢;rw[jZ (z:=zK) hk,List.find?_append,h,List.find?_cons,he]
 rfl
theorem tV{l:List Kn}{kind key:ByteArray}{k:Nat}(h:aW (l.take k) kind key=none)(hk:k<l.length)(he:Dh kind key (l.getD k zK)=true):aW l kind key=some (l.getD k zK):=by
 unfold aW at h ⊢
 conv=>lhs;rw[BX (z:=zK) hk,List.find?_append,h,List.find?_cons,he]
 rfl
theorem RA{O:Nat->Prop}{w:World}{p:Option Addr}{c:Nat}{l:List Kn}(h:pM O w p c l)(hO:∀b,O b->b<w.heap.size)(hz:l.length<=100000)(kind key:ByteArray):
    Calls Tryz.prog 81 #[.slice p l.length c,.string kind,.string key] w fun e w'=>MX O w' (aW l kind key) e/\Below w.heap.size w w':=by
 obtain⟨W0,cO⟩:∃W0,W0=w.alloc (.cells (az zK Pt.zero).toArray 41):=⟨_,rfl⟩;have cK:Below w.heap.size w W0:=by rw[cO];exact(Below.refl _ _).alloc (Nat.le_refl _) _
 have HR:Hid (W0.heap[w.heap.size]?=some (.cells (az zK Pt.zero).toArray 41 (0,0))):=by show _=_;rw[cO];exact bz _
 have Ua:Hid (∀cs:Array Value,Below w.heap.size w (W0.setRow w.heap.size cs)):=fun cs=>cK.trans ((aX W0 w.heap.size cs).below cK.size fun q hq e=>by unfold aJ at e;omega);obtain⟨n,hn⟩:∃n,l.length=n:=⟨_,rfl⟩;have HN:Hid (l.length=n):=hn;have hc:=h.1;rw[hn]at hz hc ⊢;clear hn;go_enter Tryz.func81,Tryz.ntmps81
 go_upto_region 1 with fail
 change Code.wp _ _ _ _ (w.alloc (.cells (az zK Pt.zero).toArray 41));rw[<-cO];clear cO;go_wp2
 go_loop [12] (fun i=>∃k:Nat,i=.int .i64 k/\k<=n/\Hid (aW (l.take k) kind key=none)) (fun i=>n - (intOf i).toNat)
 case atStart=>exact⟨0,rfl,Nat.zero_le _,rfl⟩
 case round=>
  obtain⟨k,rfl,hk,HF⟩:=hrel
  by_cases bQ:k<n
  ·have TS:(k:Int)<(n:Int):=by omega
   have eQ:k<l.length:=by rw[HN.out];exact bQ
   obtain⟨b,o,q,rfl,lY,bC,hE⟩:=h.2 k eQ;have Oh:=hO b lY;have HM:Hid (Dh kind key (l.getD k zK)=false->aW (l.take (k+1)) kind key=none):=qJ HF.out eQ;have HH:Hid (Dh kind key (l.getD k zK)=true->aW l kind key=some (l.getD k zK)):=tV HF.out eQ;generalize l.getD k zK=x at bC hE HM HH;have cc:∀m v,(az x q)[m]?=some v->W0.cell? ⟨b,o+k*17+m,none⟩=some v:=fun m v hv=>(cK.cell (p:=⟨b,o+k*17+m,none⟩) Oh).trans (bC m v hv);have MP:Hid (W0.rangeAt b (o+k*17) (az x q)):=cc;have d2:W0.cell? ⟨b,o+k*17+2,none⟩=some (.string x.2.aR):=cc 2 _ rfl;have d4:W0.cell? ⟨b,o+k*17+4,none⟩=some (.bool x.2.st):=cc 4 _ rfl;have d5:W0.cell? ⟨b,o+k*17+5,none⟩=some (.string x.2.key):=cc 5 _ rfl;clear bC cc;simp only[Dh]at HM HH;have HX:Hid (∀e w',e=Ending.returned (.tuple #[l8 x q,.bool true])->Below w.heap.size w w'->aW l kind key=some x->MX O w' (aW l kind key) e/\Below w.heap.size w w'):=fun e w' he hb hf=>⟨by rw[hf];exact⟨q,he,hE.carry fun y hy=>⟨hy,hb.block y (hO y hy)⟩⟩,hb⟩;clear hE;generalize x.2.st=st at d4 HM HH;generalize x.2.aR=aR at d2 HM HH;generalize x.2.key=ke at d5 HM HH
   cases st with
   | false=>
    have RB:=(show Hid _ from HM.out (by simp));go_wp2
    go_round
    case rel=>exact⟨k+1,by go_num,bQ,RB⟩
    case measure=>simp[intOf];omega
   | true=>
    cases h1:(aR.toList==kind.toList)with
    | false=>
     have RB:=(show Hid _ from HM.out (by simp[h1]));go_wp2
     go_round
     case rel=>exact⟨k+1,by go_num,bQ,RB⟩
     case measure=>simp[intOf];omega
    | true=>
     cases h2:(ke.toList==key.toList)with
     | false=>
      have RB:=(show Hid _ from HM.out (by simp[h1,h2]));go_wp2
      go_round
      case rel=>exact⟨k+1,by go_num,bQ,RB⟩
      case measure=>simp[intOf];omega
     | true=>
      have HHH:=(show Hid _ from HH.out (by simp[h1,h2]));clear HM HH;go_wp2_with(first
       | (refine wpList_load_mid rfl 41 _ rfl b (o+k*17) rfl (az x q) _ MP.out Tryz.underlying41 rfl gV ?_)
       | (refine wpList_store_row rfl 41 _ _ rfl w.heap.size 41 _ (az x q).toArray rfl rfl HR.out gV rfl (iW x q) ?_))
      refine bodyPost_ret (aK rfl _ _ _ rfl (uO (dY (setRow_heap _ _ _ _ _ _ HR.out)))) rfl ?_;exact HX.out _ _ rfl (Ua.out _) HHH.out
  ·obtain rfl:k=n:=by omega
   have JK:Hid (aW l kind key=none):=by
    have:=HF.out;rw[List.take_of_length_le (by rw[HN.out];omega)]at this;exact this
   go_wp2_with(refine wpList_store_row rfl 41 _ _ rfl w.heap.size 41 _ (az zK Pt.zero).toArray rfl rfl HR.out gV rfl (iW zK Pt.zero) ?_);refine bodyPost_ret (aK rfl _ _ _ rfl (uO (dY (setRow_heap _ _ _ _ _ _ HR.out)))) rfl ?_;refine⟨?_,Ua.out _⟩;rw[JK.out]
   rfl
theorem Vq(d:Nat):szJ d J.zero=true:=by
 cases d with
 | zero=>unfold szJ;rfl
 | succ d=>unfold szJ;rfl
theorem yD{l:List Kn}(hz:FE l)(kind key:ByteArray):szJ 13 ((aW l kind key).getD zK).2.content=true:=by
 cases h:aW l kind key with
 | none=>exact Vq 13
 | some k=>exact hz.cont k (List.mem_of_find?_eq_some h)
theorem FI{O:Nat->Prop}{w:World}{p:Option Addr}{c:Nat}{l:List Kn}(h:pM O w p c l)(hO:∀b,O b->b<w.heap.size)(hz:l.length<=100000)(kind key:ByteArray):
    Calls Tryz.prog 81 #[.slice p l.length c,.string kind,.string key] w fun e w'=>(∃q,e=.returned (.tuple #[l8 ((aW l kind key).getD zK) q,.bool (aW l kind key).isSome])/\ji O w' ((aW l kind key).getD zK).2 q)/\Below w.heap.size w w':=by
 refine(RA h hO hz kind key).mono fun e w' hh=> ?_;generalize aW l kind key=o at hh
 cases o with
 | none=>exact⟨⟨Pt.zero,hh.1,EJ _ _⟩,hh.2⟩
 | some k=>
  obtain⟨⟨q,he,hi⟩,hb⟩:=hh;exact⟨⟨q,he,hi⟩,hb⟩
theorem zQ{O:Nat->Prop}{w:World}{p:Option Addr}{c:Nat}{l:List Kn}(h:pM O w p c l)(hO:∀b,O b->b<w.heap.size)(hz:FE l)(kind key under:ByteArray):
    Calls Tryz.prog 123 #[.slice p l.length c,.string kind,.string key,.string under] w fun e w'=>e=.returned (.string (iH l kind key under))/\Below w.heap.size w w':=by
 have hF:=FI h hO hz.len kind key;have xB:Hid (szJ 13 ((aW l kind key).getD zK).2.content=true):=yD hz kind key;have HT:Hid (iH l kind key under=dW ((aW l kind key).getD zK).2.content under):=rfl;clear h hz;generalize (aW l kind key).isSome=bo at hF;generalize (aW l kind key).getD zK=k at hF xB HT;go_enter Tryz.func123,Tryz.ntmps123
 go_upto_region 2 with(first
  | (go_at_call 81;refine hF.mono ?_;rintro e w1 ⟨⟨q,rfl,hq⟩,aL⟩;unfold l8)
  | (refine wpList_store_row rfl 41 _ _ rfl w1.heap.size 41 _ (az k q).toArray rfl rfl (bz _) gV rfl (iW k q) ?_))
 have bM:Below w1.heap.size w1 ((w1.alloc (.cells (az zK Pt.zero).toArray 41)).setRow w1.heap.size (az k q).toArray):=
  ((Below.refl _ _).alloc (Nat.le_refl _) _).trans ((aX _ w1.heap.size _).below (by simp) fun q hq e=>by unfold aJ at e;omega)
 have hX:((w1.alloc (.cells (az zK Pt.zero).toArray 41)).setRow w1.heap.size (az k q).toArray).heap[w1.heap.size]?=some (.cells (az k q).toArray 41 (0,0)):=setRow_heap _ _ _ _ _ _ (bz _);change Code.wp _ _ _ _ ((w1.alloc (.cells (az zK Pt.zero).toArray 41)).setRow w1.heap.size (az k q).toArray);generalize (w1.alloc (.cells (az zK Pt.zero).toArray 41)).setRow w1.heap.size (az k q).toArray=W1 at bM hX;have HR:Hid (W1.rangeAt w1.heap.size 6 [.int .i64 k.2.content.kind,.int .i64 k.2.content.int,.string k.2.content.text,.slice q.pk k.2.content.keys.length q.ck,.slice q.pl k.2.content.list.length q.cl]):=fC hX 6 rfl;have JL:=qX (O:=O) (w:=W1) (j:=k.2.content) (hq.cont.carry fun x hx=>⟨hx,bM.block x (Nat.lt_of_lt_of_le (hO x hx) aL.size)⟩) (fun b hb=>Nat.lt_of_lt_of_le (hO b hb) (Nat.le_trans aL.size bM.size)) (fH xB.out) under;clear hF hX hq;go_wp2_with(first
  | (refine wpList_load_mid rfl 25 _ rfl w1.heap.size 6 rfl _ _ HR.out Tryz.underlying25 rfl (by kernel_rfl) ?_)
  | (go_at_call 31;refine JL.mono ?_;rintro e w2 ⟨rfl,aY⟩))
 go_ret;exact⟨by rw[HT.out];rfl,ag aL (ag bM aY)⟩
open Go.RowKit Go.Maps Go.Shelf
theorem Di{β:Type}{S:Nat->Prop}{B:Nat}{w₀:World}(hB:w₀.heap.size<=B):OwnFrom B (fun(_:β) W=>ay S w₀ W):=
 fun _ _ _ _ hs hg hr=>⟨hg.os.trans hs.os,hg.tape.trans hs.tape,hg.output.trans hs.output,Nat.le_trans hs.size hg.size,fun k hk hS=>(hg.block k (Nat.lt_of_lt_of_le hk hs.size) (fun e=>by have:=(hr k e.symm).1;omega)).trans (hs.block k hk hS)⟩
theorem kT{B:Nat}{W W':World}(h:Below W.heap.size W W'):KeepsFrom B W W':=⟨h.size,fun k _ _ hk _=>(h.block k (aP hk)).trans hk⟩
theorem FJ(f:iw->Bool)(l:List iw)(x:iw):(l++ [x]).any f=(l.any f || f x):=by rw[List.any_append];simp
theorem Vr{f:iw->Bool}{a b:List iw}(h:a<+:b)(ha:a.any f=true):b.any f=true:=by
 obtain⟨t,rfl⟩:=h;rw[List.any_append,ha];rfl
def Vs(f:iw->Bool)(R:Nat)(x:iw)(W:World):Exit->Act->World->Prop
 | .normal,_,W'=>f x=false/\Below W.heap.size W W'
 | .ret,_,W'=>f x=true/\∃W4,Below W.heap.size W W4/\W'=W4.setCell ⟨R,0,none⟩ (.bool false)
 | _,_,_=>False
theorem JM{n:Nat}(h1:2<=n){g:Operand}{sp sb:Tmp}{assign body:Code}{Q:Exit->Act->World->Prop}{a:Act}{w:World}{B1 B2 R:Nat}(f:iw->Bool)
    (hg:a.eval g=.func (.func 150) #[] #[.pointer (some ⟨B1,0,none⟩),.pointer (some ⟨B2,0,none⟩)])
    {O:Nat->Prop} {xa xb:jl} {p q:Option Addr} {c d:Nat} (ha:ib O w p c xa) (hb:ib O w q d xb) (hO:∀k,O k->k<w.heap.size) (uz:vU xa) (xC:vU xb)
    (x_:w.cell? ⟨B1,0,none⟩=some (.slice p xa.length c)) (nI:w.cell? ⟨B2,0,none⟩=some (.slice q xb.length d)) (tQ:B1<w.heap.size) (ko:B2<w.heap.size)
    (hR:w.heap[R]?=some (.cells #[.bool false] 4 (0,0)))
    (Vt:∀(l:Nat) (x:iw) (W:World) (K:Act->World->Prop),K {tmps:=(a.tmps.setIfInBounds sp (lC x)).setIfInBounds sb (.pointer (some ⟨W.heap.size,0,none⟩)),defers:= []} (W.alloc (.cells (gD x).toArray 143))→
     assign.wpIn (Fence.wide.inRound l) (n - 1 - 1) Tryz.prog (Exit.then K (fun _ _ _=>False)) {tmps:=a.tmps.setIfInBounds sp (lC x),defers:= []} W)
    (zes:∀(l:Nat) (x:iw) (W:World) (Bx:Nat),Below w.heap.size w W->W.heap[Bx]?=some (.cells (gD x).toArray 143 (0,0))->w.heap.size<=Bx→
     body.wpIn (Fence.wide.inRound l) (n - 1 - 1) Tryz.prog (Vs f R x W) {tmps:=(a.tmps.setIfInBounds sp (lC x)).setIfInBounds sb (.pointer (some ⟨Bx,0,none⟩)),defers:= []} W)
    (kZ:∀(D:Nat) (W:World),w.heap.size<=D->quiet f xa xb=true->Below w.heap.size w W->W.heap[D]?=some (.deferred (some []))->Q .normal {a with defers:={target:=.collected D,args:=#[]}::a.defers} W)
    (zet:∀(D:Nat) (W:World),w.heap.size<=D->quiet f xa xb=false->ay (aJ R) w W->W.cell? ⟨R,0,none⟩=some (.bool false)->W.heap[D]?=some (.deferred (some []))->Q .ret {a with defers:={target:=.collected D,args:=#[]}::a.defers} W):
    (Code.rangeFunc g #[sp] assign body).wp Tryz.prog Q a w:=by
 refine(wpIn_wide (n:=n)).1 ?_;refine wpIn_rangeFunc_ownH rfl (by omega) (gf:=150) (lb:=#[.pointer (some ⟨B1,0,none⟩),.pointer (some ⟨B2,0,none⟩)]) hg trivial (enters_of Tryz.func150 (by kernel_rfl) rfl)
  (Fw (n - 1) B1 B2 (by omega) ha hb hO uz xC x_ nI tQ ko) Lay.trans (fun W l o o' _ h hc hw=>Lay.putObj W l o o' h hc hw) (Below.refl _ _) (fun _=>rfl)
  (fun pre W=>(pre.any f=false)/\Below w.heap.size w W)
  (fun cd pre W=>(cd=.ret/\pre.any f=true/\W.cell? ⟨R,0,none⟩=some (.bool false))/\ay (aJ R) w W)
  (OwnFrom.and (ownFrom_pure _ (fun pre:List iw=>pre.any f=false)) (ownFrom_below (Nat.le_refl _) (Nat.le_refl _)))
  (fun cd=>OwnFrom.and (Own.from (fun s A B row hs hg hr=>⟨hs.1,hs.2.1,cell_kept hs.2.2 hg hr⟩) _) (Di (Nat.le_refl _)))
  ⟨rfl,Below.refl _ _⟩
  (fun x a' W=>∃Bx,w.heap.size<=Bx/\W.heap[Bx]?=some (.cells (gD x).toArray 143 (0,0))/\a'={tmps:=(a.tmps.setIfInBounds sp (lC x)).setIfInBounds sb (.pointer (some ⟨Bx,0,none⟩)),defers:= []})
  ?hAx ?assign ?body ?done ?stop
 case hAx=>
  rintro x a' s A B row ⟨Bx,hB,hh,e⟩ hg hr;refine⟨Bx,hB, ?_,e⟩;exact(hg.block Bx (aP hh) (fun er=>by
   obtain⟨_,o,ho,hc⟩:=hr Bx er.symm;rw[hh]at ho
   cases ho
   cases hc)).trans hh
 case assign=>
  rintro l pre x W K ⟨hp,hB⟩ hK;have QG:Below W.heap.size W (W.alloc (.cells (gD x).toArray 143)):=(Below.refl _ _).alloc (Nat.le_refl _) _;have zeu:(Array.foldl (fun(t:Array Value) (y:Tmp×Value)=>match y with| (p,v)=>t.setIfInBounds p v) a.tmps (#[sp].zip #[lC x]))=a.tmps.setIfInBounds sp (lC x):=by simp
  rw[zeu];exact Vt l x W K (hK _ _ (kT QG) (Lay.bq QG) ⟨hp,ag hB QG⟩ ⟨W.heap.size,hB.size,bz _,rfl⟩)
 case body=>
  rintro l pre x a' W _ _ ⟨hp,hB⟩ ⟨Bx,hBx,hh,rfl⟩ _;refine wpIn_mono (zes l x W Bx hB hh hBx) ?_;intro e a2 W2 h
  cases e with
  | normal=>
   obtain⟨hf,aY⟩:=h;exact⟨kT aY,Lay.bq aY,by rw[FJ,hp,hf];rfl,ag hB aY⟩
  | ret=>
   obtain⟨hf,W4,dF,rfl⟩:=h;refine⟨(kT dF).trans ((KeepsOthers.setCell _ _ _).from _),⟨rfl,by rw[FJ,hf,Bool.or_true], ?_⟩, ?_⟩
   ·have hR4:=((ag hB dF).block R (aP hR)).trans hR;exact World.cell?_setCell_same' _ _ _ (by rw[ai hR4 0 _ rfl];rfl)
   ·exact ay.setCell (S:=aJ R) (p:=⟨R,0,none⟩) (ay.bq (ag hB dF)) (fun _=>(rfl:R=R)) _
  | exit id=>exact h.elim
  | goto t=>exact h.elim
  | panic ch=>exact h.elim
  | outgrown=>exact h.elim
 case done=>
  rintro D ys W hD rfl ⟨hp,hB⟩ hK;exact kZ D W hD (by unfold quiet;rw[hp];rfl) hB hK
 case stop=>
  rintro D cd pre W hD zgI ⟨⟨rfl,hp,BF⟩,hk⟩ hK;refine wpIn_wide.2 ?_;exact wp_ret (zet D W hD (by unfold quiet;rw[Vr zgI hp];rfl) hk BF hK)
end Go.Proofs.YtldegjjaknelgaaGreatDoor

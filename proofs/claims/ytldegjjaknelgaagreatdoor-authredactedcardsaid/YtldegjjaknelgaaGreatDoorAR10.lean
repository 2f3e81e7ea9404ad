/- A part. -/
import Derived.Test.YtldegjjaknelgaaGreatDoorAR09
import Derived.Deep.MidRow
import Derived.Laws.Tables
import Derived.Laws.OwnMore
set_option maxRecDepth 100000
set_option maxHeartbeats 64000000
namespace Go.Proofs.YtldegjjaknelgaaGreatDoor
open Go.RowKit
theorem qZ:∀(ks:List ByteArray) (l:List J) (s:ByteArray),lookV ks l s=((ks.zip l).find? fun q=>q.1.toList==s.toList).map (·.2)
 | [],_,_=>by simp[lookV]
 | _::_, [],_=>by simp[lookV]
 | k::ks,v::l,s=>by
  unfold lookV;rw[List.zip_cons_cons,List.find?_cons]
  cases k.toList==s.toList with
  | true=>rfl
  | false=>exact qZ ks l s
theorem MJ{q r:List (ByteArray×J)}(h:q.Perm r)(s:ByteArray)(hp:q.Pairwise fun a b=>a.1≠b.1):q.find? (fun x=>x.1.toList==s.toList)=r.find? (fun x=>x.1.toList==s.toList):=by
 induction h with
 | nil=>rfl
 | cons x _ ih=>rw[List.find?_cons,List.find?_cons,ih (List.pairwise_cons.1 hp).2]
 | swap x y l=>
  simp only[List.find?_cons]
  cases hy:y.1.toList==s.toList<;>cases hx:x.1.toList==s.toList<;>try rfl
  exact absurd ((ib.1 hy).trans (ib.1 hx).symm) ((List.pairwise_cons.1 hp).1 x (by simp))
 | trans h1 _ ih1 ih2=>exact(ih1 hp).trans (ih2 (h1.pairwise hp fun h=>h.symm))
theorem AQ:∀q:List (ByteArray×J),(q.map (·.1)).zip (q.map (·.2))=q
 | []=>rfl
 | x::q=>by rw[List.map_cons,List.map_cons,List.zip_cons_cons,AQ q]
theorem AR:∀(ks:List ByteArray) (l:List J) (s:ByteArray),lookV ks (ordL l) s=(lookV ks l s).map ord
 | [],_,_=>by unfold lookV;rfl
 | _::_, [],_=>by rw[ordL];unfold lookV;rfl
 | k::ks,v::l,s=>by
  rw[ordL];unfold lookV
  split
  ·rfl
  ·exact AR ks l s
theorem yl{d:Nat}{j:J}(hg:goodJ (d+1) j=true)(s:ByteArray):lookV (ord j).ks (ord j).ls s=(lookV j.ks j.ls s).map ord:=by
 obtain⟨k,i,t,ks,l⟩:=j;obtain⟨_,iw,DZ⟩:=gM hg;rw[ord]
 by_cases k5:k=5
 ·obtain⟨dP,hp⟩:=iw k5;rw[if_pos k5];unfold mapOf;simp only[J.ks,J.ls];have hpz:(ks.zip (ordL l)).Pairwise fun a b=>a.1≠b.1:=by
   have:((ks.zip (ordL l)).map (·.1)).Pairwise (· ≠ ·):=by rw[List.map_fst_zip (by rw[bU];omega)];exact hp
   exact List.pairwise_map.1 this
  rw[qZ,AQ,<-MJ (jq (ks.zip (ordL l))).symm s hpz,<-qZ,AR]
 ·rw[if_neg k5,DZ k5];simp only[J.ks,J.ls];unfold lookV
  rfl
theorem oZ(v:J):(ord v).kd=v.kd:=by
 obtain⟨k,i,t,ks,l⟩:=v;rw[ord]
 split
 ·rename_i h;simp only[mapOf,J.kd,h]
 ·rfl
theorem PQ{d:Nat}{v:J}(hg:goodJ (d+1) v=true):(ord v).nm=v.nm:=by
 obtain⟨k,i,t,ks,l⟩:=v;rw[ord]
 split
 ·rename_i h;rw[goodJ,Bool.and_eq_true]at hg;have hb:=hg.1;unfold bare at hb;simp only[Bool.and_eq_true,Bool.or_eq_true,decide_eq_true_eq]at hb;simp only[mapOf,J.nm];omega
 ·rfl
theorem jD:∀(d:Nat) (j:J),goodJ d j=true->goodJ (d+1) j=true
 | 0,_,h=>by unfold goodJ at h;cases h
 | d+1,.mk k i t ks l,h=>by
  have hl:l.all (goodJ d)=true->l.all (goodJ (d+1))=true:=fun h=>List.all_eq_true.2 fun x hx=>jD d x (List.all_eq_true.1 h x hx);rw[goodJ,Bool.and_eq_true]at h;rw[goodJ,Bool.and_eq_true];refine⟨h.1, ?_⟩;have h2:=h.2
  by_cases k0:k=0
  ·rw[if_pos k0]
  rw[if_neg k0]at h2 ⊢
  by_cases k1:k=1
  ·rw[if_pos k1]at h2 ⊢;exact h2
  rw[if_neg k1]at h2 ⊢
  by_cases k2:k=2
  ·rw[if_pos k2]at h2 ⊢;exact h2
  rw[if_neg k2]at h2 ⊢
  by_cases k3:k=3
  ·rw[if_pos k3]at h2 ⊢;exact h2
  rw[if_neg k3]at h2 ⊢
  by_cases k4:k=4
  ·rw[if_pos k4]at h2 ⊢;exact hl h2
  rw[if_neg k4]at h2 ⊢
  by_cases k5:k=5
  ·rw[if_pos k5,Bool.and_eq_true]at h2 ⊢;exact⟨h2.1,hl h2.2⟩
  rw[if_neg k5]at h2
  cases h2
theorem xc{d:Nat}{j v:J}(hg:goodJ (d+1) j=true)(h:v∈j.ls):goodJ d v=true:=by
 obtain⟨k,i,t,ks,l⟩:=j;exact List.all_eq_true.1 (gM hg).1 v h
theorem Ej{d:Nat}{j:J}(hg:goodJ (d+2) j=true)(z:Int)(s:ByteArray):numT z (lookV (ord j).ks (ord j).ls s)=numT z (lookV j.ks j.ls s):=by
 rw[yl hg]
 cases h:lookV j.ks j.ls s with
 | none=>rfl
 | some v=>
  have hv:=xc hg (jv h);simp only[Option.map_some,numT,oZ,PQ hv]
def dL(j:J)(s:ByteArray):Option J:=if j.kd=5 then lookV j.ks j.ls s else none
def namT(fit:ByteArray->Bool):Option J->jY×Bool
 | none=>([],false)
 | some v=>if v.kd=5 then(if((eU v).ks.zip (eU v).ls).any (mU fit)then([],true)else(rowsOf (eU v),false))else([],true)
theorem El(fit:ByteArray->Bool){j:J}(hg:goodJ 12 j=true)(s:ByteArray):(namT fit (lookV j.ks j.ls s)).2=(rowT fit (lookV (ord j).ks (ord j).ls s)).2/\((namT fit (lookV j.ks j.ls s)).2=false->(namT fit (lookV j.ks j.ls s)).1=(rowT fit (lookV (ord j).ks (ord j).ls s)).1):=by
 rw[yl hg]
 cases h:lookV j.ks j.ls s with
 | none=>exact⟨rfl,fun _=>rfl⟩
 | some v=>
  have hv:goodJ 12 v=true:=jD 11 v (xc hg (jv h));have e:eU v=ord v:=by unfold eU;rw[if_pos hv]
  simp only[Option.map_some,namT,rowT,oZ,e]
  by_cases k5:v.kd=5
  ·rw[if_pos k5]
   cases hb:((ord v).ks.zip (ord v).ls).any (mU fit)with
   | true=>exact⟨by simp,fun h=>by simp at h⟩
   | false=>exact⟨by simp[k5],fun _=>by simp⟩
  ·rw[if_neg k5];exact⟨by simp[k5],fun h=>by simp at h⟩
def AU(c:J):Bool:=((((((((numT 50 (dL c BJ)).2 || (numT 50 (dL c sS)).2) || (numT 0 (dL c kg)).2) || (numT 50 (dL c ko)).2) || (numT 50 (dL c nR)).2) || (numT 0 (dL c ku)).2) || (numT 0 (dL c nS)).2) || (namT wO (dL c gF)).2) || (namT zG (dL c gG)).2
def PR(c:J):Lv:=⟨(numT 50 (dL c BJ)).1,(numT 50 (dL c sS)).1,(numT 0 (dL c kg)).1,(numT 50 (dL c ko)).1,(numT 50 (dL c nR)).1,(numT 0 (dL c ku)).1,(numT 0 (dL c nS)).1,(namT wO (dL c gF)).1,(namT zG (dL c gG)).1⟩
def BR(c:J):Lv×Int:=if(decide (c.kd=5)&&goodJ 12 c)=true then(if AU c then(AO,1)else(PR c,0))else(AO,1)
theorem IG:bQ J.zero=(AO,1):=by
 unfold bQ;rw[show kS J.zero=true from by kernel_rfl]
 rfl
theorem MK{j:J}(h:j.kd≠5):bQ j=(AO,1):=by
 unfold bQ;rw[show kS j=true from by simp[kS,h]]
 rfl
theorem ym(c:J):bQ (eU c)=BR c:=by
 unfold BR eU
 cases hg:goodJ 12 c with
 | false=>simp[IG]
 | true=>
  by_cases k5:c.kd=5
  ·simp only[k5,decide_true,Bool.and_self,if_true];have gt:∀s,dL c s=lookV c.ks c.ls s:=fun s=>by unfold dL;rw[if_pos k5]
   have hu:=El wO hg gF;have hy:=El zG hg gG;have hk:(ord c).kd=5:=by rw[oZ,k5]
   have eb:kS (ord c)=AU c:=by
    unfold kS AU;simp only[gt,Ej (d:=10) hg,hk,decide_true,Bool.not_true,Bool.false_or,hu.1,hy.1]
   unfold bQ;rw[eb]
   cases hb:AU c with
   | true=>rfl
   | false=>
    simp only[Bool.false_eq_true,if_false];unfold AU at hb;simp only[Bool.or_eq_false_iff,gt]at hb;unfold oW PR;simp only[gt,Ej (d:=10) hg,hu.2 hb.1.2,hy.2 hb.2]
  ·simp only[k5,decide_false,Bool.false_and,if_true];exact MK (by rw[oZ];exact k5)
theorem rf:∀{ks:List ByteArray} {l:List J} {s:ByteArray} {n:Nat},n<ks.length->n<l.length->(∀m,m<n->((ks.getD m aN).toList==s.toList)=false)->((ks.getD n aN).toList==s.toList)=true->lookV ks l s=some (l.getD n J.zero)
 | [],_,_,_,h,_,_,_=>absurd h (by simp)
 | _::_, [],_,_,_,h,_,_=>absurd h (by simp)
 | k::ks,v::l,s,0,_,_,_,he=>by
  have he:(k.toList==s.toList)=true:=by simpa using he
  unfold lookV;rw[if_pos he];simp
 | k::ks,v::l,s,n+1,h1,h2,hm,he=>by
  have h0:(k.toList==s.toList)=false:=by have:=hm 0 (by omega);simpa using this
  unfold lookV;rw[h0,if_neg (by decide),rf (n:=n) (by simpa using h1) (by simpa using h2) (fun m h=>by have:=hm (m+1) (by omega);simpa using this) (by simpa using he)];simp
theorem kT:∀{ks:List ByteArray} {l:List J} {s:ByteArray},(∀m,m<ks.length->m<l.length->((ks.getD m aN).toList==s.toList)=false)->lookV ks l s=none
 | [],_,_,_=>by unfold lookV;rfl
 | _::_, [],_,_=>by unfold lookV;rfl
 | k::ks,v::l,s,h=>by
  have h0:(k.toList==s.toList)=false:=by have:=h 0 (by simp) (by simp);simpa using this
  unfold lookV;rw[h0,if_neg (by decide)];exact kT fun m h1 h2=>by have:=h (m+1) (by simpa using h1) (by simpa using h2);simpa using this
theorem SF{O:Nat->Prop}{w:World}{j:J}{k i:Int}{t:ByteArray}{pk pl:Option Addr}{nk ck nl cl:Nat}(hj:isJ O w j [.int .i64 k,.int .i64 i,.string t,.slice pk nk ck,.slice pl nl cl])(hO:∀b,O b->b<w.heap.size)(hz:j.ks.length<=100000)(s:ByteArray):
    Calls Tryz.prog 43 #[.agg #[.int .i64 k,.int .i64 i,.string t,.slice pk nk ck,.slice pl nl cl],.string s] w fun e w'=>Io O w' (dL j s) e/\Below w.heap.size w w':=by
 obtain⟨kx,ix,tx,ks,l⟩:=j;obtain⟨rfl,rfl,rfl,rfl,rfl,hk,Dq,l9⟩:=eP hj;clear hj;obtain⟨o,ho⟩:∃o,dL (.mk k i t ks l) s=o:=⟨_,rfl⟩;rw[ho];have UO:Hid (k=5->o=lookV ks l s):=fun h=>by rw[<-ho];unfold dL;exact if_pos h
 have Ww:Hid (¬k=5->o=none):=fun h=>by rw[<-ho];unfold dL;exact if_neg h
 clear ho;simp only[J.ks]at hz;obtain⟨W0,fw⟩:∃W0,W0=(w.alloc (.cells #[.int .i64 k,.int .i64 i,.string t,.slice pk ks.length ck,.slice pl l.length cl] 25)).alloc (.cells #[.int .i64 0,.int .i64 0,.string ⟨#[]⟩,.slice none 0 0,.slice none 0 0] 25):=⟨_,rfl⟩;have dS:Below w.heap.size w W0:=by rw[fw];exact((Below.refl _ _).alloc (Nat.le_refl _) _).alloc (by simp) _
 have zw:W0.heap[w.heap.size]?=some (.cells #[.int .i64 k,.int .i64 i,.string t,.slice pk ks.length ck,.slice pl l.length cl] 25 (0,0)):=by rw[fw,Below.heap_alloc _ _ _ (by simp)];exact bR _
 have hR:W0.heap[w.heap.size+1]?=some (.cells #[.int .i64 0,.int .i64 0,.string ⟨#[]⟩,.slice none 0 0,.slice none 0 0] 25 (0,0)):=by
  rw[fw];have:=bR (w:=w.alloc (.cells #[.int .i64 k,.int .i64 i,.string t,.slice pk ks.length ck,.slice pl l.length cl] 25)) (.cells #[.int .i64 0,.int .i64 0,.string ⟨#[]⟩,.slice none 0 0,.slice none 0 0] 25);rw[World.size_alloc]at this;exact this
 obtain⟨nk,nz⟩:∃n,ks.length=n:=⟨_,rfl⟩;obtain⟨nl,oo⟩:∃n,l.length=n:=⟨_,rfl⟩;have jJ:Hid (ks.length=nk):=nz;have xH:Hid (l.length=nl):=oo;have Gz:=hk.1;rw[nz]at hz Gz zw fw ⊢;rw[oo]at Dq zw fw ⊢;clear nz oo;have c0:=ay zw 0 _ rfl;have c3:=ay zw 3 _ rfl;have c4:=ay zw 4 _ rfl;have i0:=ay hR 0 _ rfl;have i1:=ay hR 1 _ rfl;have i2:=ay hR 2 _ rfl;have i3:=ay hR 3 _ rfl;have i4:=ay hR 4 _ rfl;have z0:=ou hR 0;have z1:=ou hR 1;have z2:=ou hR 2;have z3:=ou hR 3;have z4:=ou hR 4;have HR:Hid (W0.heap[w.heap.size+1]?=some (.cells #[.int .i64 0,.int .i64 0,.string ⟨#[]⟩,.slice none 0 0,.slice none 0 0] 25 (0,0))):=hR;have HN:Hid (∀X,av (aQ (w.heap.size+1)) W0 X->Below w.heap.size w X):=fun X hX=>dS.trans (hX.below dS.size fun q hq e=>by unfold aQ at e;omega);clear hR zw
 by_cases k5:k=5
 ·subst k5;have Ra:=(show Hid _ from UO.out rfl);clear UO Ww;go_enter Tryz.func43,Tryz.ntmps43
  go_upto_region 1 with fail
  rw[<-fw];clear fw;go_wp2
  go_loopw [6] (fun v wr=>∃m:Nat,v=.int .i64 m/\m<=nk/\m<=nl/\Hid (∀y,y<m->((ks.getD y aN).toList==s.toList)=false)/\wr=W0) (fun v _=>nk - (intOf v).toNat)
  case atStart=>exact⟨0,rfl,Nat.zero_le _,Nat.zero_le _,fun m hm=>absurd hm (by omega),rfl⟩
  case round=>
   obtain⟨m,rfl,hm,zu,HX,rfl⟩:=hrel
   by_cases bH:m<nk
   ·by_cases PS:m<nl
    ·have oH:(m:Int)<(nk:Int):=by omega
     have zjM:(m:Int)<(nl:Int):=by omega
     obtain⟨a,rfl,rX,zbV⟩:=hk.2 m (by rw[jJ.out];exact bH);have rW:wr.cell? (a.add m)=some (.string (ks.getD m aN)):=(World.cell?_of_block (by rw[bF];exact dS.block _ (hO _ rX))).trans zbV;obtain⟨lb,lo,cs,vM,mG,bA,ja⟩:=isJs.at l 0 m l9 (by rw[xH.out];exact PS);subst vM;obtain⟨kv,iv,tv,pv,nv,cv,qv,mv,dv,rfl⟩:=dI ja;have cc:∀n v, [Value.int .i64 kv,.int .i64 iv,.string tv,.slice pv nv cv,.slice qv mv dv][n]?=some v->wr.cell? ⟨lb,lo+m*5+n,none⟩=some v:=fun n v h=>by
      have:=bA n v h;rw[Nat.zero_add]at this;exact(World.cell?_of_block (a:=⟨lb,lo+m*5+n,none⟩) (dS.block lb (hO lb mG))).trans this
     have y0:wr.cell? ⟨lb,lo+m*5,none⟩=some (.int .i64 kv):=cc 0 _ rfl;have y1:=cc 1 _ rfl;have y2:=cc 2 _ rfl;have y3:=cc 3 _ rfl;have y4:=cc 4 _ rfl;have HYJ:Hid (isJ O w (l.getD m J.zero) [Value.int .i64 kv,.int .i64 iv,.string tv,.slice pv nv cv,.slice qv mv dv]):=ja;have Re:=hO lb mG;have w_:Hid (((ks.getD m aN).toList==s.toList)=true->lookV ks l s=some (l.getD m J.zero)):=fun h=>rf (by rw[jJ.out];exact bH) (by rw[xH.out];exact PS) HX.out h;have Bv:Hid (((ks.getD m aN).toList==s.toList)=false->∀y,y<m+1->((ks.getD y aN).toList==s.toList)=false):=fun h y hy=>(Nat.lt_succ_iff_lt_or_eq.1 hy).elim (HX.out y) fun e=>by rw[e];exact h
     clear cc bA ja zbV;generalize ks.getD m aN=u at rW w_ Bv
     cases he:(u.toList==s.toList)with
     | true=>
      have HL:=(show Hid _ from w_.out he);clear w_ Bv;go_wp2;have h5:=jI (b:=w.heap.size+1) [.int .i64 kv,.int .i64 iv,.string tv,.slice pv nv cv,.slice qv mv dv] HR.out rfl;have dR:=gV (w.heap.size+1) [.int .i64 kv,.int .i64 iv,.string tv,.slice pv nv cv,.slice qv mv dv] wr 0;simp only[setL,Nat.zero_add,Nat.reduceAdd]at h5 dR;refine bodyPost_ret (bL rfl _ _ _ rfl (uF h5)) rfl ?_;rw[Ra.out,HL.out];have lD:=HN.out _ dR;exact⟨⟨_,_,_,_,_,_,_,_,_,rfl,HYJ.out.carry fun x hx=>⟨hx,lD.block x (hO x hx)⟩⟩,lD⟩
     | false=>
      have HS:=(show Hid _ from Bv.out he);clear w_ Bv;go_wp2;go_roundw
      case rel=>exact⟨m+1,by go_num,bH,PS,HS,trivial⟩
      case measure=>simp[intOf];omega
    ·obtain rfl:m=nl:=by omega
     have w_:Hid (lookV ks l s=none):=kT fun y h1 h2=>HX.out y (by rw[<-xH.out];exact h2);have oH:(m:Int)<(nk:Int):=by omega
     go_wp2;have h5:=jI (b:=w.heap.size+1) [.int .i64 0,.int .i64 0,.string ⟨#[]⟩,.slice none 0 0,.slice none 0 0] HR.out rfl;have dR:=gV (w.heap.size+1) [.int .i64 0,.int .i64 0,.string ⟨#[]⟩,.slice none 0 0,.slice none 0 0] wr 0;simp only[setL,Nat.zero_add,Nat.reduceAdd]at h5 dR;refine bodyPost_ret (bL rfl _ _ _ rfl (uF h5)) rfl ?_;rw[Ra.out,w_.out];exact⟨rfl,HN.out _ dR⟩
   ·obtain rfl:m=nk:=by omega
    have w_:Hid (lookV ks l s=none):=kT fun y h1 h2=>HX.out y (by rw[<-jJ.out];exact h1);go_wp2;have h5:=jI (b:=w.heap.size+1) [.int .i64 0,.int .i64 0,.string ⟨#[]⟩,.slice none 0 0,.slice none 0 0] HR.out rfl;have dR:=gV (w.heap.size+1) [.int .i64 0,.int .i64 0,.string ⟨#[]⟩,.slice none 0 0,.slice none 0 0] wr 0;simp only[setL,Nat.zero_add,Nat.reduceAdd]at h5 dR;refine bodyPost_ret (bL rfl _ _ _ rfl (uF h5)) rfl ?_;rw[Ra.out,w_.out];exact⟨rfl,HN.out _ dR⟩
 ·have Ra:=(show Hid _ from Ww.out k5);clear UO Ww;go_enter Tryz.func43,Tryz.ntmps43
  go_upto_region 1 with fail
  rw[<-fw];clear fw;go_wp2;have h5:=jI (b:=w.heap.size+1) [.int .i64 0,.int .i64 0,.string ⟨#[]⟩,.slice none 0 0,.slice none 0 0] HR.out rfl;have dR:=gV (w.heap.size+1) [.int .i64 0,.int .i64 0,.string ⟨#[]⟩,.slice none 0 0,.slice none 0 0] W0 0;simp only[setL,Nat.zero_add,Nat.reduceAdd]at h5 dR;refine bodyPost_ret (bL rfl _ _ _ rfl (uF h5)) rfl ?_;rw[Ra.out];exact⟨rfl,HN.out _ dR⟩
theorem o5{d:Nat}{j:J}(h:szJ (d+1) j=true):j.ks.length<=100000:=by
 obtain⟨k,i,t,ks,l⟩:=j;unfold szJ at h;simp only[Bool.and_eq_true,decide_eq_true_eq]at h;exact h.2.1
theorem PT{d:Nat}{j:J}(lU:Il (d+2) j)(fit:ByteArray->Bool)(s:ByteArray):zk (rowT fit (lookV j.ks j.ls s)).1:=by
 cases h:lookV j.ks j.ls s with
 | none=>exact⟨by simp[rowT],fun p hp=>by simp[rowT]at hp⟩
 | some v=>
  have hv:Il (d+1) v:=by
   obtain⟨_,_,_,_,_⟩:=j;exact lU.parts.2.2.2.2.2 v (jv h)
  obtain⟨k,i,t,ks,l⟩:=v;have hp:=hv.parts;simp only[rowT,rowsOf,J.ks,J.ls];refine⟨by rw[List.length_map,List.length_zip];omega,fun p hm=> ?_⟩;obtain⟨q,hq,rfl⟩:=List.mem_map.1 hm;exact hp.2.2.2.2.1 q.1 (List.of_mem_zip hq).1
theorem Em{c:J}(hs:szJ 12 c=true):O_ (bQ (eU c)).1:=by
 have lU:=Ed hs;unfold bQ
 split
 ·exact⟨⟨by simp,fun p hp=>by simp at hp⟩,⟨by simp,fun p hp=>by simp at hp⟩⟩
 ·exact⟨PT (d:=10) lU wO gF,PT (d:=10) lU zG gG⟩
theorem AV(j:J):(bQ j).2=0\/ (bQ j).2=1:=by
 unfold bQ
 split
 ·exact .inr rfl
 ·exact .inl rfl
abbrev bC:ByteArray:=⟨#[109,46,114,111,111,109,46,99,114,101,97,116,101]⟩
abbrev aU:ByteArray:=⟨#[109,46,114,111,111,109,46,109,101,109,98,101,114]⟩
abbrev bK:ByteArray:=⟨#[109,46,114,111,111,109,46,112,111,119,101,114,95,108,101,118,101,108,115]⟩
abbrev fK:ByteArray:=⟨#[109,46,114,111,111,109,46,106,111,105,110,95,114,117,108,101,115]⟩
abbrev gu:ByteArray:=⟨#[99,114,101,97,116,111,114]⟩
abbrev dt:ByteArray:=⟨#[109,101,109,98,101,114,115,104,105,112]⟩
abbrev o6:ByteArray:=⟨#[106,111,105,110,95,114,117,108,101]⟩
abbrev jf:ByteArray:=⟨#[106,111,105,110]⟩
abbrev kz:ByteArray:=⟨#[105,110,118,105,116,101]⟩
abbrev II:ByteArray:=⟨#[108,101,97,118,101]⟩
abbrev wP:ByteArray:=⟨#[98,97,110]⟩
abbrev BS:ByteArray:=⟨#[112,117,98,108,105,99]⟩
abbrev eX(a b:ByteArray):Bool:=a.toList==b.toList
abbrev Kn:=ByteArray×Ev
abbrev zK:Kn:=(aN,Ev.zero)
def J.tx:J->ByteArray
 | .mk _ _ t _ _=>t
def txtT:Option J->ByteArray
 | some v=>if v.kd=3 then v.tx else aN
 | none=>aN
def eB(c:J)(s:ByteArray):ByteArray:=txtT (dL c s)
def yn(kind key:ByteArray)(k:Kn):Bool:=k.2.st&&(eX k.2.aK kind&&eX k.2.key key)
def bO(l:List Kn)(kind key:ByteArray):Option Kn:=l.find? (yn kind key)
def iT(l:List Kn)(kind key under:ByteArray):ByteArray:=eB ((bO l kind key).getD zK).2.content under
def tq(l:List Kn)(u:ByteArray):ByteArray:=iT l aU u dt
def lH(e:Ev):Bool:=e.st&&(eX e.key ⟨#[]⟩&&(decide (e.prev.length=0)&&(decide (e.aA.length=0)&&(eX (Id.home e.room) (Id.home e.ag)&&eX (eB e.content gu) e.ag))))
def levT(l:List Kn)(SG:ByteArray):Option Lv:=match bO l bK ⟨#[]⟩with
 | some k=>if(bQ (eU k.2.content)).2=0 then some (bQ (eU k.2.content)).1 else none
 | none=>some (nT SG)
structure Hr where
 e:Ev
 st:List Kn
 cn:ByteArray
 ce:Ev
 l:Lv
 told:Bool
def Hr.own(h:Hr):Bool:=eX h.e.key h.e.ag
def Hr.s(h:Hr):Int:=O8 h.l h.e.ag
def Hr.t(h:Hr):Int:=O8 h.l h.e.key
def Hr.gD(h:Hr):Bool:=eX (tq h.st h.e.ag) jf
def Hr.target(h:Hr):ByteArray:=tq h.st h.e.key
def Hr.alone(h:Hr):Bool:=decide (h.e.prev.length=1)&&eX (h.e.prev.getD 0 aN) h.cn
def Hr.jK(h:Hr):Bool:=h.own&&((h.alone&&eX h.ce.ag h.e.ag) || (!eX h.target wP&&((eX h.target jf || eX h.target kz) || eX (iT h.st fK ⟨#[]⟩ o6) BS)))
def Hr.leaves(h:Hr):Bool:=if h.own then eX h.target jf || eX h.target kz else h.gD&&(!(eX h.target wP&&decide (h.s<h.l.wN))&&(decide (h.l.kX<=h.s)&&decide (h.t<h.s)))
def Hr.Kz(h:Hr):Bool:=h.gD&&(!eX h.target jf&&(!eX h.target wP&&decide (h.l.gN<=h.s)))
def Hr.zbW(h:Hr):Bool:=h.gD&&(decide (h.l.wN<=h.s)&&decide (h.t<h.s))
def Hr.iU(h:Hr):Bool:=(h.e.st&&wO h.e.key)&&
 (if eX (eB h.e.content dt) jf then h.jK else if eX (eB h.e.content dt) kz then h.Kz else if eX (eB h.e.content dt) II then h.leaves else if eX (eB h.e.content dt) wP then h.zbW else false)
def Hr.changes(h:Hr):Bool:=decide ((bQ (eU h.e.content)).2=0)&&(!h.told || Ea h.l (bQ (eU h.e.content)).1 h.e.ag)
def UQ(s:ByteArray):Bool:=decide (1<=s.size)&&eX (s.extract 0 1) ⟨#[64]⟩
def Hr.PU(h:Hr):Bool:=h.gD&&(decide (Ay h.l h.e.aK h.e.st<=h.s)&&(!((h.e.st&&UQ h.e.key)&& !h.own)&&(if(h.e.st&&eX h.e.aK bK)&&eX h.e.key ⟨#[]⟩then h.changes else true)))
def Hr.ask(h:Hr):Bool:=if eX h.e.aK aU then h.iU else h.PU
def openT(e:Ev)(l:List Kn):Option Hr:=match bO l bC ⟨#[]⟩with
 | none=>none
 | some c=>if eX c.2.room e.room then(match levT l c.2.ag with| none=>none| some v=>some ⟨e,l,c.1,c.2,v,(bO l bK ⟨#[]⟩).isSome⟩)else none
def askT(e:Ev)(l:List Kn):Bool:=if eX e.aK bC then lH e else match openT e l with| none=>false| some h=>h.ask
def gQ(e:Ev)(l:List Kn):Int:=if aG e then(if askT e l then 0 else 110)else 50
structure xe(e:Ev):Prop where
 room:e.room.size<=1000000000
 aK:e.aK.size<=1000000000
 ag:e.ag.size<=1000000000
 key:e.key.size<=1000000000
 hash:e.hash.size<=1000000000
 cont:szJ 12 e.content=true
 prev:e.prev.length<=100000
 En:∀x∈e.prev,x.size<=1000000000
 aA:e.aA.length<=100000
 Eo:∀x∈e.aA,x.size<=1000000000
 sigs:e.sigs.length<=100000
 AX:∀x∈e.sigs,x.1.size<=1000000000/\x.2.size<=1000000000
def aI(k:Kn)(p:Pt):List Value:=.string k.1::aB k.2 p
def lV(k:Kn)(p:Pt):Value:=.agg (aI k p).toArray
def rZ(O:Nat->Prop)(w:World)(p:Option Addr)(c:Nat)(l:List Kn):Prop:=
 l.length<=c/\∀j,j<l.length->∃b o q,p=some ⟨b,o,none⟩/\O b/\(∀n v,(aI (l.getD j zK) q)[n]?=some v->w.cell? ⟨b,o+j*17+n,none⟩=some v)/\iL O w (l.getD j zK).2 q
theorem rZ.carry{O O':Nat->Prop}{w w':World}{p:Option Addr}{c:Nat}{l:List Kn}(h:rZ O w p c l)(hO:∀k,O k->O' k/\w'.heap[k]?=w.heap[k]?):rZ O' w' p c l:=
 ⟨h.1,fun j hj=>by
  obtain⟨b,o,q,hp,hB,h1,h2⟩:=h.2 j hj;exact⟨b,o,q,hp,(hO _ hB).1,fun n v hv=>(World.cell?_of_block (a:=⟨b,o+j*17+n,none⟩) (hO _ hB).2).trans (h1 n v hv),h2.carry hO⟩⟩
theorem rZ.nil(O:Nat->Prop)(w:World)(p:Option Addr)(c:Nat):rZ O w p c []:=⟨Nat.zero_le _,fun j hj=>absurd hj (by simp)⟩
structure IJ(l:List Kn):Prop where
 len:l.length<=100000
 cont:∀k∈l,szJ 13 k.2.content=true
 snd:∀k∈l,k.2.ag.size<=1000000000
theorem Ep{l:List Kn}{j:Nat}(h:j<l.length):l.getD j zK∈l:=by
 rw[List.getD_eq_getElem?_getD,List.getElem?_eq_getElem h];exact List.getElem_mem h
structure Ph where
 e:Pt
 ps:Option Addr
 cs:Nat
 ce:Pt
 l:Pl
def nU(h:Hr)(p:Ph):List Value:=aB h.e p.e++(.slice p.ps h.st.length p.cs::(aI (h.cn,h.ce) p.ce++(aY h.l p.l++ [.bool h.told])))
structure iK(w:World)(hb:Nat)(h:Hr)(p:Ph):Prop where
 nL:w.heap[hb]?=some (.cells (nU h p).toArray 92 (0,0))
 ev:iL (· <w.heap.size) w h.e p.e
 st:rZ (· <w.heap.size) w p.ps p.cs h.st
 lv:BK (· <w.heap.size) w h.l p.l
theorem iK.below{w w':World}{hb:Nat}{h:Hr}{p:Ph}(x:iK w hb h p)(b:Below w.heap.size w w'):iK w' hb h p:=
 ⟨(b.block hb (aO x.nL)).trans x.nL,x.ev.carry fun k hk=>⟨Nat.lt_of_lt_of_le hk b.size,b.block k hk⟩,x.st.carry fun k hk=>⟨Nat.lt_of_lt_of_le hk b.size,b.block k hk⟩,x.lv.carry fun k hk=>⟨Nat.lt_of_lt_of_le hk b.size,b.block k hk⟩⟩
structure NV(h:Hr):Prop where
 e:xe h.e
 st:IJ h.st
 l:O_ h.l
section
variable {w : World} {hb : Nat} {h : Hr} {p : Ph}
theorem iK.cell(x:iK w hb h p)(n:Nat)(v:Value)(hv:(nU h p).toArray[n]?=some v):w.cell? ⟨hb,n,none⟩=some v:=ay x.nL n v hv
theorem iK.ag(x:iK w hb h p):w.cell? ⟨hb,2,none⟩=some (.string h.e.ag):=x.cell 2 _ rfl
theorem iK.tu(x:iK w hb h p):w.cell? ⟨hb,3,none⟩=some (.bool h.e.st):=x.cell 3 _ rfl
theorem iK.key(x:iK w hb h p):w.cell? ⟨hb,4,none⟩=some (.string h.e.key):=x.cell 4 _ rfl
theorem iK.prev(x:iK w hb h p):w.cell? ⟨hb,10,none⟩=some (.slice p.e.pp h.e.prev.length p.e.cp):=x.cell 10 _ rfl
theorem iK.state(x:iK w hb h p):w.cell? ⟨hb,16,none⟩=some (.slice p.ps h.st.length p.cs):=x.cell 16 _ rfl
theorem iK.zbX(x:iK w hb h p):w.cell? ⟨hb,17,none⟩=some (.string h.cn):=x.cell 17 _ rfl
theorem iK.UR(x:iK w hb h p):w.cell? ⟨hb,20,none⟩=some (.string h.ce.ag):=x.cell 20 _ rfl
theorem iK.wN(x:iK w hb h p):w.cell? ⟨hb,34,none⟩=some (.int .i64 h.l.wN):=x.cell 34 _ rfl
theorem iK.kX(x:iK w hb h p):w.cell? ⟨hb,35,none⟩=some (.int .i64 h.l.kX):=x.cell 35 _ rfl
theorem iK.gN(x:iK w hb h p):w.cell? ⟨hb,36,none⟩=some (.int .i64 h.l.gN):=x.cell 36 _ rfl
theorem iK.Wx(x:iK w hb h p):w.cell? ⟨hb,43,none⟩=some (.bool h.told):=x.cell 43 _ rfl
end
theorem cz(w:World)(g:Nat)(cs:Array Value):av (aQ g) w (w.setRow g cs):=by
 refine⟨rfl,rfl,rfl,by simp[World.setRow],fun k _ hk=> ?_⟩;unfold World.setRow;simp only[Array.getElem?_modify];rw[if_neg (fun e=>hk (by unfold aQ;exact e.symm))]
theorem eD{w:World}{b t:Nat}{fr:Nat×Nat}{cs:List Value}(h:w.heap[b]?=some (.cells cs.toArray t fr)):w.rangeAt b 0 cs:=fun j v hv=>by
 rw[Nat.zero_add];exact ay h j v (by simpa using hv)
theorem jw{w:World}{b t:Nat}{fr:Nat×Nat}{cs ds:List Value}(h:w.heap[b]?=some (.cells cs.toArray t fr))(o:Nat)(hd:(cs.drop o).take ds.length=ds):w.rangeAt b o ds:=fun j v hv=>by
 refine ay h (o+j) v ?_;rw[<-hd,List.getElem?_take]at hv
 split at hv
 ·rw[List.getElem?_drop]at hv;simpa using hv
 ·cases hv
theorem wpList_store_row{bT:Array Oper}{rest:List Oper}{op:Oper}{a:Act}{w:World}{Q:Exit->Act->World->Prop}(rU:op.guard=none)(ty:TypeId)(x y:Operand)(ho:op.op=.store ty x y)
    (g t:Nat) (F8 cells:Array Value) (hx:a.eval x=.pointer (some ⟨g,0,none⟩)) (hy:a.eval y=.agg cells) (hg:w.heap[g]?=some (.cells F8 t (0,0)))
    (hi:(Tryz.prog.info? ty).map (·.size)=some cells.size) (hs:F8.size=cells.size) (h1:cells.all (·.oneCell')=true)
    (h:wpList Tryz.prog bT Q rest (a.put op.dst undef) (w.setRow g cells)):wpList Tryz.prog bT Q (op::rest) a w:=by
 refine wpList_plain rU fun K' hK'=> ?_;unfold Oper.wp execOp;simp only[ho,hx,hy,Instr.storeAt,Instr.sureAddr,Sem.run_bind,Sem.run_pure,Result.andThen_ok,run_storeVar_row w g t ty F8 cells hg hi hs h1];exact hK' _ _ h
theorem AY(e:Ev)(p:Pt):(aB e p).toArray.all (·.oneCell')=true:=all_oneCell_toArray fun v hv=>by
 simp only[aB,List.mem_cons,List.not_mem_nil,or_false]at hv
 rcases hv with rfl| rfl| rfl| rfl| rfl| rfl| rfl| rfl| rfl| rfl| rfl| rfl| rfl| rfl| rfl| rfl<;>rfl
theorem yo(k:Kn)(p:Pt):(aI k p).toArray.all (·.oneCell')=true:=all_oneCell_toArray fun v hv=>by
 simp only[aI,aB,List.mem_cons,List.not_mem_nil,or_false]at hv
 rcases hv with rfl| rfl| rfl| rfl| rfl| rfl| rfl| rfl| rfl| rfl| rfl| rfl| rfl| rfl| rfl| rfl| rfl<;>rfl
theorem qA:(Tryz.prog.info? 41).map (·.size)=some 17:=by kernel_rfl
theorem eQ:(Tryz.prog.info? 28).map (·.size)=some 16:=by kernel_rfl
theorem tC:(Tryz.prog.info? 47).map (·.size)=some 9:=by kernel_rfl
theorem Er{w:World}{b o:Nat}{k:Kn}{q:Pt}(h:w.rangeAt b o (aI k q)):(loadVar 41 ⟨b,o,none⟩).run Tryz.prog w=.ok (lV k q) w:=run_loadVar_mid w b o 41 (aI k q) _ h Tryz.underlying41 rfl qA
theorem bP{bT:Array Oper}{rest:List Oper}{o:Oper}{a:Act}{w:World}{Q:Exit->Act->World->Prop}(hg:Region.wanted o (yielded bT a.tmps)=true)(ty:TypeId)(m:Operand)(hop:o.op=Op.load ty m)(b ofs:Nat)(hm:a.eval m=.pointer (some ⟨b,ofs,none⟩))(cs:List Value)
    (hl:(Instr.loadAt ty (.pointer (some ⟨b,ofs,none⟩))).run Tryz.prog w=.ok (.agg cs.toArray) w)
    (hK:wpList Tryz.prog bT Q rest (a.put o.dst (.agg cs.toArray)) w):wpList Tryz.prog bT Q (o::rest) a w:=by
 simp only[wpList,hg,if_true];refine Or.inl ?_;unfold Oper.wp;simp[execOp,hop,hm,hl,Result.andThen];exact hK
open Go.RowKit Go.Maps
theorem uK{t k e:TypeId}(ht:Tryz.prog.underlying t=some (.map k e))(n:Int)(w:World):(Instr.makeMap t (some (.int .i64 n))).run Tryz.prog w=.ok (.map (some w.heap.size)) (w.alloc (.map #[] 0)):=by
 simp[Instr.makeMap,run_underlying ht,asInt,asIntOf,Result.andThen]
def yr(w:World)(M:Nat)(ks:List ByteArray):Prop:=
 ∃D:DataW Unit,w.ownsMap Tryz.prog 9 (unitElem (H:=Unit)) M ks.length D/\(∀s,VK s->Maps.has D (OH s)=xO ks s)/\Maps.size D<=ks.length/\(Maps.size D=ks.length↔noKeyTwice ks=true)
theorem yr.made(w:World):yr (w.alloc (.map #[] 0)) w.heap.size []:=
 ⟨.map [],World.ownsMap_made _ _ _ _,fun _ _=>rfl,Nat.le_refl _,⟨fun _=>rfl,fun _=>rfl⟩⟩
theorem Es{ks:List ByteArray}{s:ByteArray}:xO ks s=true↔s∈ks:=by
 unfold xO;rw[List.any_eq_true]
 constructor
 ·rintro⟨x,hx,h⟩;have:x=s:=by
   have h:=of_decide_eq_true h
   cases x;cases s
   simp only at h;rw[h]
  exact this ▸ hx
 ·exact fun h=>⟨s,h,by simp⟩
theorem BU(ks:List ByteArray)(s:ByteArray):noKeyTwice (ks++ [s])=true↔noKeyTwice ks=true/\xO ks s=false:=by
 constructor
 ·intro h;have h:=List.pairwise_append.1 (fV h);refine⟨eY h.1, ?_⟩
  cases e:xO ks s with
  | false=>rfl
  | true=>exact absurd rfl (h.2.2 s (Es.1 e) s (by simp))
 ·rintro⟨h1,h2⟩;refine eY (List.pairwise_append.2 ⟨fV h1,List.pairwise_singleton _ _,fun a ha b hb e=> ?_⟩);rw[List.mem_singleton.1 hb]at e;rw[Es.2 (e ▸ ha)]at h2
  cases h2
theorem yr.put{w w2:World}{M:Nat}{ks:List ByteArray}{D:DataW Unit}{s:ByteArray}(h0:w.ownsMap Tryz.prog 9 (unitElem (H:=Unit)) M ks.length D)(aL:w2.ownsMap Tryz.prog 9 (unitElem (H:=Unit)) M (ks.length+1) (D.put (OH s) (.agg [])))
    (hh:∀s,VK s->Maps.has D (OH s)=xO ks s) (h1:Maps.size D<=ks.length) (h2:Maps.size D=ks.length↔noKeyTwice ks=true) (hs:VK s):yr w2 M (ks++ [s]):=by
 have hm:=h0.isMap;have fq:=size_put (k:=OH s) (h0.tidy za9) (.agg []);rw[hh s hs]at fq;refine⟨D.put (OH s) (.agg []),by rw[List.length_append];exact aL,fun x hx=> ?_, ?_, ?_⟩
 ·rw[LJ]
  by_cases e:x=s
  ·subst e;rw[has_put_same hm (show WideAt.IsKeyLit (OH x)from trivial)];simp
  ·rw[has_put_other (fun h'=>e (R5 h')),hh x hx];have:decide (s.data=x.data)=false:=by
    apply decide_eq_false
    intro h'
    apply e
    cases x;cases s
    simp only at h';rw[h']
   rw[this,Bool.or_false]
 ·rw[fq,List.length_append]
  split<;>simp<;>omega
 ·rw[fq,List.length_append,BU,<-h2]
  cases e:xO ks s with
  | true=>simp;omega
  | false=>simp
theorem PV{O:Nat->Prop}{ks:List ByteArray}{p:Option Addr}{c:Nat}{w:World}(gW:ig O w p c ks)(hO:∀k,O k->k<w.heap.size)(hl:ks.length<=100000)(BG:∀k∈ks,k.size<=1000000000):
    Calls Tryz.prog 132 #[.slice p ks.length c] w fun x w'=>x=.returned (.bool (noKeyTwice ks))/\Below w.heap.size w w':=by
 obtain⟨n,hn⟩:∃n,ks.length=n:=⟨_,rfl⟩;have HN:Hid (ks.length=n):=hn;have Mt:=gW.1;rw[hn]at hl Mt ⊢;clear hn;have hmm:=uK Tryz.underlying171;go_enter Tryz.func132,Tryz.ntmps132;go_wp2;clear hmm
 go_loopw [11] (fun i wr=>∃k:Nat,i=.int .i64 k/\k<=n/\Below w.heap.size w wr/\yr wr w.heap.size (ks.take k)) (fun i _=>n - (intOf i).toNat)
 case atStart=>exact⟨0,rfl,Nat.zero_le _,(Below.refl _ _).alloc (Nat.le_refl _) _,yr.made w⟩
 case round=>
  obtain⟨k,rfl,hk,hb,D,aL,zbY,Wp,PK⟩:=hrel;have HH:Hid (∀s,VK s->Maps.has D (OH s)=xO (ks.take k) s):=zbY;have HS2:Hid (Maps.size D=(ks.take k).length↔noKeyTwice (ks.take k)=true):=PK;have HS1:Hid (Maps.size D<=(ks.take k).length):=Wp;have HTL:Hid ((ks.take k).length=k):=by show _=_;rw[List.length_take,HN.out];omega
  clear zbY Wp PK
  by_cases bH:k<n
  ·have Ob:(k:Int)<(n:Int):=by omega
   obtain⟨a,Wy,rX,rW⟩:=gW.2 k (by rw[HN.out];exact bH);subst Wy;have fF:wr.cell? (a.add k)=some (.string (ks.getD k aN)):=(World.cell?_of_block (by rw[bF];exact hb.block _ (hO _ rX))).trans rW;have hTS:ks.take (k+1)=ks.take k++ [ks.getD k aN]:=by
    have fG:k<ks.length:=by rw[HN.out];exact bH
    rw[List.take_add_one,List.getElem?_eq_getElem fG,List.getD_eq_getElem?_getD,List.getElem?_eq_getElem fG];rfl
   have OV:(ks.getD k aN).size<=1000000000:=BG _ (by
    have fG:k<ks.length:=by rw[HN.out];exact bH
    rw[List.getD_eq_getElem?_getD,List.getElem?_eq_getElem fG];exact List.getElem_mem _)
   obtain⟨u,hu⟩:∃u,ks.getD k aN=u:=⟨_,rfl⟩;rw[hu]at fF hTS OV;have F3:Hid (ks.take (k+1)=ks.take k++ [u]):=hTS;clear hTS hu rW;have lU:VK u:=by unfold VK maxLen;omega
   have zC:=zdU lU;have F_:Hid ((ks.take k).length<maxLen):=by show _<_;rw[HTL.out];unfold maxLen;omega
   have HV:Hid (unitElem (H:=Unit) (.agg #[])=some (.agg [], [])):=unitElem_mk;go_wp2_with(at_mapUpdate;refine wpList_mapUpdate_own _ rfl _ _ _ 171 rfl 9 172 za9 Tryz.underlying171 _ w.heap.size (ks.take k).length D rfl aL F_.out _ _ _ rfl rfl zC (.agg []) [] HV.out ?_;intro w2 eZ qg);go_roundw
   case rel=>exact⟨k+1,by go_num,bH,hb.trans ((av.gp (S:=fun k=>k=w.heap.size) qg fun _ _ e=>(Option.some.inj e).symm).below hb.size fun k hk=>by omega),by rw[F3.out];exact yr.put aL eZ HH.out HS1.out HS2.out lU⟩
   case measure=>simp[intOf];omega
  ·obtain rfl:k=n:=by omega
   have hTA:ks.take k=ks:=List.take_of_length_le (by rw[HN.out];omega);have hr:decide ((Maps.size D:Int)=(k:Int))=noKeyTwice ks:=by
    have h:=HS2.out;rw[hTA,HN.out]at h;rw[Bool.eq_iff_iff,<-h,decide_eq_true_eq];omega
   have HR:Hid (decide ((Maps.size D:Int)=(k:Int))=noKeyTwice ks):=hr;clear hr hTA;go_wp2_with(at_len;refine wpList_len_own _ rfl _ 171 rfl 9 172 Tryz.underlying171 _ w.heap.size (ks.take k).length D rfl aL ?_);go_ret;exact⟨ai (by first| exact HR.out| simpa using HR.out),hb⟩
open Go.RowKit
def Et(O:Nat->Prop)(B:Nat)(vk vl:Value)(w:World):Nat->Prop:=fun k=>O k\/ (B<=k/\k<w.heap.size/\vk.ownBlock≠some k/\vl.ownBlock≠some k)
structure TI(O:Nat->Prop)(B g:Nat)(kd:Int)(WB:World)(ks:List ByteArray)(js:List J)(vk vl:Value)(w:World):Prop where
 obj:w.heap[g]?=some (.cells #[.int .i64 kd,.int .i64 0,.string ⟨#[]⟩,vk,vl] 25 (0,0))
 keys:w.ownsRow B 9 1 vk ks.length (ks.map Value.string)
 eG:∃xs,w.ownsRow B 25 5 vl js.length xs/\isRow (Et O B vk vl w) w js xs
 ne:∀i,vk.ownBlock=some i->vl.ownBlock≠some i
 fA:av (One g) WB w
 IK:WB.heap.size=B
 lt:g<B
 low:∀k,O k->k<B/\k≠g
theorem dN{w:World}{B e size n:Nat}{v:Value}{xs:List Value}(h:w.ownsRow B e size v n xs):∃q c,v=.slice q n c:=by
 rcases h.2 with⟨h',h0⟩| ⟨g',nM,cur,h',_⟩
 ·exact⟨none,0,by rw[h',h0]⟩
 ·exact⟨_,_,h'⟩
section
variable {O : Nat -> Prop} {B g : Nat} {kd : Int} {WB W W2 W5 : World} {ks : List ByteArray} {js : List J} {vk vl jO iq : Value}
theorem TI.size(h:TI O B g kd WB ks js vk vl W):B<=W.heap.size:=by have:=h.fA.size;have:=h.IK;omega
theorem TI.start(fq:WB.heap.size=B)(hg:g<B)(yt:∀k,O k->k<B/\k≠g)(Wz:WB.heap[g]?=some (.cells #[.int .i64 kd,.int .i64 0,.string ⟨#[]⟩,.slice none 0 0,.slice none 0 0] 25 (0,0))):TI O B g kd WB [] [] (.slice none 0 0) (.slice none 0 0) WB:=
 ⟨Wz,World.ownsRow_nil _ _ _ _,⟨[],World.ownsRow_nil _ _ _ _,rfl⟩,(fun i h=>by cases h),av.refl _ _,fq,hg,yt⟩
theorem TI.more(h:TI O B g kd WB ks js vk vl W)(hb:Below W.heap.size W W2):TI O B g kd WB ks js vk vl W2:=by
 have hs:=h.size;have bH:=h.lt;obtain⟨xs,h1,h2⟩:=h.eG;have kp:av (fun _=>False) W W2:=av.aW hb;refine⟨(hb.block g (by omega)).trans h.obj,aX h.keys kp fun _ _ h=>h,⟨xs,aX h1 kp fun _ _ h=>h,h2.carry fun k hk=> ?_⟩,h.ne,h.fA.trans kp fun _ _ h=>h.elim,h.IK,bH,h.low⟩
 rcases hk with hk| hk
 ·have:=h.low k hk;exact⟨.inl hk,hb.block k (by omega)⟩
 ·exact⟨.inr ⟨hk.1,by have:=hk.2.1;have:=hb.size;omega,hk.2.2⟩,hb.block k hk.2.1⟩
theorem TI.drew(h:TI O B g kd WB ks js vk vl W):TI O B g kd WB ks js vk vl W.drew:=h.more ⟨rfl,rfl,rfl,Nat.le_refl _,fun _ _=>rfl⟩
theorem TI.alloc(h:TI O B g kd WB ks js vk vl W)(o:Obj):TI O B g kd WB ks js vk vl (W.alloc o):=h.more ((Below.refl _ _).alloc (Nat.le_refl _) o)
theorem TI.fresh(h:TI O B g kd WB ks js vk vl W)(_hb:Below W.heap.size W W2){y:J}{cs:List Value}(hy:isJ (fun k=>O k\/ qx W W2 k) W2 y cs):isJ (Et O B vk vl W2) W2 y cs:=by
 have hs:=h.size;obtain⟨xs,h1,_⟩:=h.eG;refine hy.carry fun k hk=>⟨?_,rfl⟩
 rcases hk with hk| hk
 ·exact .inl hk
 ·have e1:=hk.1;have e2:=hk.2;exact .inr ⟨by omega,e2,fun e=>by have:=(aJ h.keys k e).2;omega,fun e=>by have:=(aJ h1 k e).2;omega⟩
theorem Eu(hb:Below W.heap.size W W2)(hO:∀k,O k->k<W.heap.size){y:J}{cs:List Value}(hy:isJ (Et O B vk vl W) W y cs):isJ (Et O B vk vl W2) W2 y cs:=by
 refine hy.carry fun k hk=> ?_
 rcases hk with hk| hk
 ·exact⟨.inl hk,hb.block k (hO k hk)⟩
 ·exact⟨.inr ⟨hk.1,by have:=hk.2.1;have:=hb.size;omega,hk.2.2⟩,hb.block k hk.2.1⟩
theorem TI.key(h:TI O B g kd WB ks js vk vl W){x:ByteArray}(aL:W2.ownsRow B 9 1 jO (ks.length+1) (ks.map Value.string++ [.string x]))(hg:W.grownBy W2 vk.ownBlock)(iC:jO.ownBlock=vk.ownBlock\/ jO.ownBlock=some W.heap.size):
    W2.cell? ⟨g,3,none⟩=some vk/\W2.frozen? ⟨g,3,none⟩=false/\TI O B g kd WB (ks++ [x]) js jO vl (W2.setCell ⟨g,3,none⟩ jO)/\∀k,Et O B vk vl W k->Et O B jO vl (W2.setCell ⟨g,3,none⟩ jO) k/\(W2.setCell ⟨g,3,none⟩ jO).heap[k]?=W.heap[k]?:=by
 have hs:=h.size;have bH:=h.lt;have O3:=hg.size;have pR:=aJ h.keys;obtain⟨xs,bM,eH⟩:=h.eG;have oq:=aJ bM;have low:∀k,k<B->W2.heap[k]?=W.heap[k]?:=fun k hk=>hg.block k (by omega) fun e=>by have:=(pR k e.symm).1;omega
 have ob:W2.heap[g]?=some (.cells #[.int .i64 kd,.int .i64 0,.string ⟨#[]⟩,vk,vl] 25 (0,0)):=(low g bH).trans h.obj;have K3:av (One g) W2 (W2.setCell ⟨g,3,none⟩ jO):=av.setCell (av.refl _ _) (fun _=>(rfl:g=g)) _;have OC:=aJ aL;have carry:∀k,Et O B vk vl W k->Et O B jO vl (W2.setCell ⟨g,3,none⟩ jO) k/\(W2.setCell ⟨g,3,none⟩ jO).heap[k]?=W.heap[k]?:=fun k hk=>by
  rcases hk with hk| hk
  ·have:=h.low k hk;exact⟨.inl hk,by rw[K3.block k (by omega) (by unfold One;omega),low k this.1]⟩
  ·have e1:=hk.1;have e2:=hk.2.1;refine⟨.inr ⟨e1,by have:=K3.size;omega,fun e=> ?_,hk.2.2.2⟩,by rw[K3.block k (by omega) (by unfold One;omega),hg.block k e2 fun e=>hk.2.2.1 e.symm]⟩
   rcases iC with h'| h'
   ·exact hk.2.2.1 (h' ▸ e)
   ·rw[h']at e;have:=Option.some.inj e;omega
 refine⟨fC ob,fZ ob 3,⟨?_, ?_,⟨xs, ?_,eH.carry carry⟩, ?_, ?_,h.IK,bH,h.low⟩,carry⟩
 ·rw[heap_setCell_same _ g 3 _ _ _ ob];rfl
 ·rw[List.length_append,List.map_append];exact aX aL K3 fun k e=>by have:=(OC k e).1;unfold One;omega
 ·refine aX (aX bM (S:=fun k=>vk.ownBlock=some k) (av.gp hg fun _ _ e=>e) fun k e e'=>h.ne k e' e) K3 fun k e=>by have:=(oq k e).1;unfold One;omega
 ·intro i e e'
  rcases iC with h1| h1
  ·exact h.ne i (h1 ▸ e) e'
  ·rw[h1]at e;have h2:=(oq i e').2;have h3:=Option.some.inj e;omega
 ·exact(h.fA.trans (S':=fun k=>vk.ownBlock=some k) (av.gp hg fun _ _ e=>e) fun k hk e=>by have:=(pR k e).1;have:=h.IK;omega).then K3
theorem TI.val(h:TI O B g kd WB ks js vk vl W){y:J}{cs xs:List Value}(bM:W.ownsRow B 25 5 vl js.length xs)(eH:isRow (Et O B vk vl W) W js xs)(hy:isJ (Et O B vk vl W) W y cs)(hg:W.grownBy W2 vl.ownBlock)(iC:iq.ownBlock=vl.ownBlock\/ iq.ownBlock=some W.heap.size)
    (Wz:W5.heap[g]?=some (.cells #[.int .i64 kd,.int .i64 0,.string ⟨#[]⟩,vk,iq] 25 (0,0))) (aL:W5.ownsRow B 25 5 iq (js.length+1) (xs++cs)) (CZ:av (fun k=>k=g\/ iq.ownBlock=some k) W2 W5):TI O B g kd WB ks (js++ [y]) vk iq W5:=by
 have hs:=h.size;have bH:=h.lt;have O3:=hg.size;have pR:=aJ h.keys;have oq:=aJ bM;have LD:=aJ aL;have carry:∀k,Et O B vk vl W k->Et O B vk iq W5 k/\W5.heap[k]?=W.heap[k]?:=by
  intro k hk
  rcases hk with hk| hk
  ·have:=h.low k hk;exact⟨.inl hk,by rw[CZ.block k (by omega) (fun e=>e.elim (fun e=>this.2 e) fun e=>by have:=(LD k e).1;omega),hg.block k (by omega) fun e=>by have:=(oq k e.symm).1;omega]⟩
  ·have e1:=hk.1;have e2:=hk.2.1;have e3:iq.ownBlock≠some k:=fun e=>by
    rcases iC with h'| h'
    ·exact hk.2.2.2 (h' ▸ e)
    ·rw[h']at e;have:=Option.some.inj e;omega
   exact⟨.inr ⟨e1,by have:=CZ.size;omega,hk.2.2.1,e3⟩,by rw[CZ.block k (by omega) (fun e=>e.elim (fun e=>by omega) e3),hg.block k e2 fun e=>hk.2.2.2 e.symm]⟩
 refine⟨Wz, ?_,⟨xs++cs,by rw[List.length_append];exact aL,isRow.snoc hy.zm (hy.carry carry) js xs (eH.carry carry)⟩, ?_, ?_,h.IK,bH,h.low⟩
 ·refine aX (aX h.keys (S:=fun k=>vl.ownBlock=some k) (av.gp hg fun _ _ e=>e) fun k e e'=>h.ne k e e') CZ fun k e e'=> ?_
  rcases e' with e'| e'
  ·have:=(pR k e).1;omega
  ·rcases iC with h'| h'
   ·exact h.ne k e (h' ▸ e')
   ·rw[h']at e';have:=Option.some.inj e';have:=(pR k e).2;omega
 ·intro i e e'
  rcases iC with h'| h'
  ·exact h.ne i e (h' ▸ e')
  ·rw[h']at e';have:=Option.some.inj e';have:=(pR i e).2;omega
 ·refine(h.fA.trans (S':=fun k=>vl.ownBlock=some k) (av.gp hg fun _ _ e=>e) fun k hk e=>by have:=(oq k e).1;have:=h.IK;omega).trans CZ fun k hk e=> ?_
  rcases e with e| e
  ·exact e
  ·have:=(LD k e).1;have:=h.IK;omega
end
def UT(w:World)(b o:Nat)(v0 v1 v2 v3 v4:Value):World:=((((w.setCell ⟨b,o,none⟩ v0).setCell ⟨b,o+1,none⟩ v1).setCell ⟨b,o+2,none⟩ v2).setCell ⟨b,o+3,none⟩ v3).setCell ⟨b,o+4,none⟩ v4
theorem tF(w:World)(b o:Nat)(v0 v1 v2 v3 v4:Value):av (One b) w (UT w b o v0 v1 v2 v3 v4):=by
 have K:∀(W:World) (o:Nat) (v:Value),av (One b) W (W.setCell ⟨b,o,none⟩ v):=fun W o v=>av.setCell (av.refl _ _) (fun _=>(rfl:b=b)) _;exact((((K _ _ _).then (K _ _ _)).then (K _ _ _)).then (K _ _ _)).then (K _ _ _)
theorem xf{w:World}{B e b m cap:Nat}{xs:List Value}{z0 z1 z2 z3 z4:Value}(h:w.ownsRow B e 5 (.slice (some ⟨b,0,none⟩) (m+1) cap) (m+1) (xs++ [z0,z1,z2,z3,z4]))(hx:xs.length=m*5)(v0 v1 v2 v3 v4:Value):
    (UT w b (m*5) v0 v1 v2 v3 v4).ownsRow B e 5 (.slice (some ⟨b,0,none⟩) (m+1) cap) (m+1) (xs++ [v0,v1,v2,v3,v4]):=by
 have h1:=(((((h.stored (m*5) v0).1.stored (m*5+1) v1).1.stored (m*5+2) v2).1.stored (m*5+3) v3).1.stored (m*5+4) v4).1;have e:(((((xs++ [z0,z1,z2,z3,z4]).set (m*5) v0).set (m*5+1) v1).set (m*5+2) v2).set (m*5+3) v3).set (m*5+4) v4=xs++ [v0,v1,v2,v3,v4]:=by
  rw[<-hx];simp
 rw[e]at h1;exact h1
theorem PW(w:World)(v:Value)(t:Nat):∀j u, [v][j]?=some u->(w.alloc (.cells #[v] t)).cell? ((⟨w.heap.size,0,none⟩:Addr).add j)=some u:=by
 intro j u hj
 match j,hj with
 | 0,hj=>simp at hj;subst hj;exact a_ (cur:= [_]) (heap_alloc_new _ _) 0 _ rfl
theorem KA{w:World}{b:Nat}{v:Value}{t:Nat}(h:w.heap.size=b):∀j u, [v][j]?=some u->(w.alloc (.cells #[v] t)).cell? ((⟨b,0,none⟩:Addr).add j)=some u:=by
 subst h;exact PW w v t
theorem Ew(x:ByteArray):∀u∈ [Value.string x],u.oneCell'=true:=by
 intro u hu;simp at hu;subst hu;rfl
theorem ML(w:World)(t:Nat)(y0 y1 y2 y3 y4:Value):∀j u, [y0,y1,y2,y3,y4][j]?=some u->(w.alloc (.cells #[y0,y1,y2,y3,y4] t)).cell? ((⟨w.heap.size,0,none⟩:Addr).add j)=some u:=by
 intro j u hj;have e:(⟨w.heap.size,0,none⟩:Addr).add j=⟨w.heap.size,j,none⟩:=by unfold Addr.add;split<;>simp_all
 rw[e];exact a_ (cur:= [_,_,_,_,_]) (heap_alloc_new _ _) j u hj
theorem jL{w:World}{b t:Nat}{y0 y1 y2 y3 y4:Value}(h:w.heap.size=b):∀j u, [y0,y1,y2,y3,y4][j]?=some u->(w.alloc (.cells #[y0,y1,y2,y3,y4] t)).cell? ((⟨b,0,none⟩:Addr).add j)=some u:=by
 subst h;exact ML w t y0 y1 y2 y3 y4
theorem vY{w:World}{bT:Array Oper}{rest:List Oper}{o:Oper}{a:Act}{Q:Exit->Act->World->Prop}(rU:o.guard=none)(s x:Operand)(t:TypeId)
    (ho:o.op=.call {callee:=.builtin .append,args:=#[s,x],argTypes:=#[t,t]})
    (dM:Nat) (e:TypeId) (z:Value) (size bytes:Nat) (ht:Tryz.prog.underlying t=some (.slice e)) (sD:(Tryz.prog.info? e).map (fun i=>(i.zero,i.size,i.bytes))=some (some z,size,bytes))
    (VD:z.cells.size=size) (fq:0<size) (CR:bytes<=100)
    (v:Value) (n:Nat) (xs:List Value) (hs:a.eval s=v) (aL:w.ownsRow dM e size v n xs)
    (ad:Addr) (news:List Value) (hx:a.eval x=.slice (some ad) 1 1) (hl:news.length=size) (om:∀j u,news[j]?=some u->w.cell? (ad.add j)=some u) (h1:∀u∈news,u.oneCell'=true)
    (hn:n<=1000000) (jW:dM<=w.heap.size)
    (h:∀v' w',w'.ownsRow dM e size v' (n+1) (xs++news)->w.grownBy w' v.ownBlock->(v'.ownBlock=v.ownBlock\/ v'.ownBlock=some w.heap.size)->wpList Tryz.prog bT Q rest (a.put o.dst v') w'):wpList Tryz.prog bT Q (o::rest) a w:=
 wpList_plain rU fun _ hK=>aR s x t ho dM e z size bytes ht sD VD fq CR v n xs hs aL ad news hx hl om h1 hn jW fun v' w' h2 h3 h4=>hK _ _ (h v' w' h2 h3 h4)
theorem gv{w:World}{B e size n:Nat}{v:Value}{xs:List Value}(h:w.ownsRow B e size v (n+1) xs):∃b c,v=.slice (some ⟨b,0,none⟩) (n+1) c:=by
 rcases h.2 with⟨h',h0⟩| ⟨g',nM,cur,h',_⟩
 ·omega
 ·exact⟨_,_,h'⟩
abbrev zj5:List Value:= [.int .i64 0,.int .i64 0,.string ⟨#[]⟩,.slice none 0 0,.slice none 0 0]
theorem cZ{O:Nat->Prop}{B g:Nat}{kd:Int}{WB w:World}{ks:List ByteArray}{js:List J}{vk vl:Value}{y:J}{k i:Int}{t:ByteArray}{pk pl:Option Addr}{nk ck nl cl:Nat}(h:TI O B g kd WB ks js vk vl w)
    (hy:isJ (Et O B vk vl w) w y [.int .i64 k,.int .i64 i,.string t,.slice pk nk ck,.slice pl nl cl]) (hn:ks.length<=100000) (hm:js.length<=100000) (x:ByteArray):
    Calls Tryz.prog 114 #[.string x,.agg #[.int .i64 k,.int .i64 i,.string t,.slice pk nk ck,.slice pl nl cl],.pointer (some ⟨g,0,none⟩)] w fun e w'=>e=.returned (.tuple #[])/\∃jO iq,TI O B g kd WB (ks++ [x]) (js++ [y]) jO iq w':=by
 have yt:=h.low;have OE:=h.size;have h1:=(h.alloc (.cells #[.int .i64 k,.int .i64 i,.string t,.slice pk nk ck,.slice pl nl cl] 25)).alloc (.cells #[.string x] 9);have Rl:=Eu (W2:=(w.alloc (.cells #[.int .i64 k,.int .i64 i,.string t,.slice pk nk ck,.slice pl nl cl] 25)).alloc (.cells #[.string x] 9)) (((Below.refl _ _).alloc (Nat.le_refl _) _).alloc (by simp) _) (fun k hk=>by have:=(yt k hk).1;omega) hy;obtain⟨qk,R8,uw⟩:=dN h.keys;obtain⟨xs0,zH,zea⟩:=h.eG;obtain⟨ql,zD,vO⟩:=dN zH;have hEb:Et O B vk vl ((w.alloc (.cells #[.int .i64 k,.int .i64 i,.string t,.slice pk nk ck,.slice pl nl cl] 25)).alloc (.cells #[.string x] 9)) w.heap.size:=
  .inr ⟨OE,by simp;omega,fun e=>by have:=(aJ h.keys _ e).2;omega,fun e=>by have:=(aJ zH _ e).2;omega⟩
 have CS:((w.alloc (.cells #[.int .i64 k,.int .i64 i,.string t,.slice pk nk ck,.slice pl nl cl] 25)).alloc (.cells #[.string x] 9)).heap[w.heap.size]?=some (.cells #[.int .i64 k,.int .i64 i,.string t,.slice pk nk ck,.slice pl nl cl] 25 (0,0)):=by
  rw[Below.heap_alloc _ _ _ (by simp)];exact heap_alloc_new _ _
 have c3:=fC (h.alloc (.cells #[.int .i64 k,.int .i64 i,.string t,.slice pk nk ck,.slice pl nl cl] 25)).obj;have HL:Hid (∀k,O k->k<B/\k≠g):=yt;have zbZ:Hid (vl.ownBlock≠some w.heap.size):=fun e=>by have:=(aJ zH _ e).2;omega
 clear zH zea xs0 yt hy;subst uw vO;have UM:Hid ((Value.slice ql js.length zD).ownBlock≠some w.heap.size):=zbZ.out;clear zbZ;go_enter Tryz.func114,Tryz.ntmps114;go_wp2_with(at_builtin;refine vY rfl _ _ 22 rfl B 9 (.string ⟨#[]⟩) 1 16 Tryz.underlying22 Tryz.jd rfl (by decide) (by decide) _ ks.length (ks.map Value.string) rfl h1.keys _ [.string x] rfl rfl (KA (by simp)) (Ew x) (by omega) h1.size ?_;intro OG W2 eZ qg oQ;obtain⟨d3,f3,h3,wQ⟩:=h1.key eZ qg oQ;obtain⟨b2,c2,eH⟩:=gv eZ;subst eH);have hy3:=Rl.carry fun k hk=>wQ k hk;have PX:=(wQ _ hEb).2.trans CS;have Iz:Hid ((W2.setCell ⟨g,3,none⟩ (.slice (some ⟨b2,0,none⟩) (ks.length+1) c2)).heap[w.heap.size]?=some (.cells #[.int .i64 k,.int .i64 i,.string t,.slice pk nk ck,.slice pl nl cl] 25 (0,0))):=PX;clear wQ Rl h1 CS PX hEb eZ qg oQ d3 f3;obtain⟨W3,vZ⟩:∃W3,W3=W2.setCell ⟨g,3,none⟩ (.slice (some ⟨b2,0,none⟩) (ks.length+1) c2):=⟨_,rfl⟩;rw[<-vZ]at h3 hy3 Iz ⊢;clear vZ c3;have hd:=h3.drew;have hA:=hd.alloc (.cells #[.int .i64 0,.int .i64 0,.string ⟨#[]⟩,.slice none 0 0,.slice none 0 0] 25);obtain⟨xs,bM,eH⟩:=hA.eG;have hyA:=Eu (W:=W3) (W2:=W3.drew.alloc (.cells #[.int .i64 0,.int .i64 0,.string ⟨#[]⟩,.slice none 0 0,.slice none 0 0] 25)) ((show Below W3.heap.size W3 W3.drew from⟨rfl,rfl,rfl,Nat.le_refl _,fun _ _=>rfl⟩).alloc (Nat.le_refl _) _) (fun k hk=>by have:=(HL.out k hk).1;have:=h3.size;omega) hy3;have d4:=bg hd.obj;have a4:(W3.alloc (.cells #[.int .i64 0,.int .i64 0,.string ⟨#[]⟩,.slice none 0 0,.slice none 0 0] 25)).drew.cell? ⟨g,4,none⟩=some (.slice ql js.length zD):=bg hA.obj;have NT:=(Array.getElem?_eq_some_iff.1 Iz.out).1;have HC:Hid (∀W:World,W.heap[w.heap.size]?=some (.cells #[.int .i64 k,.int .i64 i,.string t,.slice pk nk ck,.slice pl nl cl] 25 (0,0))->∀n v, [Value.int .i64 k,.int .i64 i,.string t,.slice pk nk ck,.slice pl nl cl][n]?=some v->W.cell? ⟨w.heap.size,n,none⟩=some v):=fun W hW n v hv=>a_ (cur:= [_,_,_,_,_]) hW n v hv;have f_:W3.drew.heap[w.heap.size]?=some (.cells #[.int .i64 k,.int .i64 i,.string t,.slice pk nk ck,.slice pl nl cl] 25 (0,0)):=Iz.out;have iO:(W3.drew.alloc (.cells #[.int .i64 0,.int .i64 0,.string ⟨#[]⟩,.slice none 0 0,.slice none 0 0] 25)).heap[w.heap.size]?=some (.cells #[.int .i64 k,.int .i64 i,.string t,.slice pk nk ck,.slice pl nl cl] 25 (0,0)):=(Below.heap_alloc _ _ _ NT).trans f_;have UU:Hid (xs.length=js.length*5):=bM.1;refine aF (by kernel_rfl) (fun W=>W.heap[w.heap.size]?=some (.cells #[.int .i64 k,.int .i64 i,.string t,.slice pk nk ck,.slice pl nl cl] 25 (0,0))) ?_;change wpIn _ _ _ _ _ _ _ _ (World.drew _);refine aa (i:=0) (d:=some 11) rfl ?_;refine az (i:=2) (d:=some 13) rfl (by(intro wq hq;have q0:=HC.out wq hq 0 _ rfl;have q1:=HC.out wq hq 1 _ rfl;have q2:=HC.out wq hq 2 _ rfl;have q3:=HC.out wq hq 3 _ rfl;have q4:=HC.out wq hq 4 _ rfl;go_simp;first| done| with_reducible rfl)) ?_;refine bY (i:=1) (j:=4) f_ (by kernel_rfl) rfl rfl (by rfl) (by rfl) ?_ ?_
 ·intro K hK;go_simp;refine hK _ _ ?_;clear hK K;refine aa (i:=3) (d:=some 14) rfl ?_;refine ak (i:=4) f_ rfl ?_;intro K hK;go_simp;refine hK _ _ ?_;clear hK K;refine ak (i:=5) iO rfl ?_;intro K hK;refine aR (.tmp 12) (.tmp 15) 23 rfl B 25 (.agg #[.int .i64 0,.int .i64 0,.string ⟨#[]⟩,.slice none 0 0,.slice none 0 0]) 5 80 Tryz.underlying23 Tryz.dY rfl (by decide) (by decide) _ js.length xs rfl bM _ zj5 rfl rfl (jL (by simp)) (by decide) (by omega) hA.size ?_;intro oJ W4 bG nN gL;refine hK _ _ ?_;clear hK K;obtain⟨b4,c4,vN⟩:=gv bG;subst vN;have jS:(W3.drew.alloc (.cells #[.int .i64 0,.int .i64 0,.string ⟨#[]⟩,.slice none 0 0,.slice none 0 0] 25)).grownBy W4 (Value.slice ql js.length zD).ownBlock:=nN;have iP:(Value.slice (some ⟨b4,0,none⟩) (js.length+1) c4).ownBlock=(Value.slice ql js.length zD).ownBlock\/ (Value.slice (some ⟨b4,0,none⟩) (js.length+1) c4).ownBlock=some (W3.drew.alloc (.cells #[.int .i64 0,.int .i64 0,.string ⟨#[]⟩,.slice none 0 0,.slice none 0 0] 25)).heap.size:=gL;have oq:=aJ bM;have PY:=aJ bG;have zeb:=(PY b4 rfl).1;have zec:=h3.lt;have hsA:=hA.size;have bX:b4≠w.heap.size:=fun e=>by
   rcases iP with h'| h'
   ·exact UM.out (h'.symm.trans (by rw[<-e];rfl))
   ·have:=Option.some.inj h';simp at this;have:=NT;omega
  have yw:W4.heap[g]?=some (.cells #[.int .i64 kd,.int .i64 0,.string ⟨#[]⟩,.slice (some ⟨b2,0,none⟩) (ks.length+1) c2,.slice ql js.length zD] 25 (0,0)):=(jS.block g (by omega) fun e=>by have:=(oq g e.symm).1;omega).trans hA.obj;have kM:W4.heap[w.heap.size]?=some (.cells #[.int .i64 k,.int .i64 i,.string t,.slice pk nk ck,.slice pl nl cl] 25 (0,0)):=(jS.block w.heap.size (by simp;exact Nat.lt_succ_of_lt NT) fun e=>UM.out e.symm).trans iO;have Rc:Hid ((Value.slice (some ⟨b4,0,none⟩) (js.length+1) c4).ownBlock=(Value.slice ql js.length zD).ownBlock\/ (Value.slice (some ⟨b4,0,none⟩) (js.length+1) c4).ownBlock=some (W3.drew.alloc (.cells #[.int .i64 0,.int .i64 0,.string ⟨#[]⟩,.slice none 0 0,.slice none 0 0] 25)).heap.size):=iP;clear nN gL PY iP;have wR:∀(W:World),W.ownsRow B 25 5 (.slice (some ⟨b4,0,none⟩) (js.length+1) c4) (js.length+1) (xs++zj5)->∀j u,zj5[j]?=some u->W.cell? ⟨b4,js.length*5+j,none⟩=some u/\W.frozen? ⟨b4,js.length*5+j,none⟩=false:=fun W hW j u hj=>by
   have hj5:j<5:=(List.getElem?_eq_some_iff.1 hj).1;refine⟨(hW.cellAt (js.length*5+j) (by omega)).trans ?_,hW.frozenAt _⟩;rw[List.getElem?_append_right (by rw[UU.out];omega),UU.out,Nat.add_sub_cancel_left];exact hj
  have hli:(js.length:Int)<(js.length:Int)+1:=by omega
  refine aa (i:=6) (d:=some 17) rfl ?_;refine aa (i:=8) (d:=some 18) rfl ?_;refine bY (i:=7) (j:=9) kM (by kernel_rfl) rfl rfl (by rfl) (by rfl) ?_ ?_
  ·intro K hK;have e0:=wR W4 bG 0 _ rfl;have e1:=wR W4 bG 1 _ rfl;have e2:=wR W4 bG 2 _ rfl;have e3:=wR W4 bG 3 _ rfl;have e4:=wR W4 bG 4 _ rfl;obtain⟨PZ,P5⟩:=e0;obtain⟨Rm,MM⟩:=e1;obtain⟨WG,WH⟩:=e2;obtain⟨WI,WK⟩:=e3;obtain⟨WL,WM⟩:=e4;rw[Nat.add_zero]at PZ P5;go_simp;refine hK _ _ ?_;clear hK K;have kp:=tF W4 b4 (js.length*5) (.int .i64 k) (.int .i64 i) (.string t) (.slice pk nk ck) (.slice pl nl cl);have ow:=xf bG UU.out (.int .i64 k) (.int .i64 i) (.string t) (.slice pk nk ck) (.slice pl nl cl);have zI:=(kp.block g (by have:=(Array.getElem?_eq_some_iff.1 yw).1;omega) (by unfold One;omega)).trans yw;have iD:=(kp.block w.heap.size (Array.getElem?_eq_some_iff.1 kM).1 (by unfold One;omega)).trans kM;have g0:=bg zI;have g1:=fZ zI 4;obtain⟨W5,uL⟩:∃W5,W5=UT W4 b4 (js.length*5) (.int .i64 k) (.int .i64 i) (.string t) (.slice pk nk ck) (.slice pl nl cl):=⟨_,rfl⟩;rw[<-uL]at kp ow zI iD g0 g1;have IL:=uL;unfold UT at IL;rw[<-IL];clear uL IL PZ P5 Rm MM WG WH WI WK WL WM wR;refine ak (i:=9) iD rfl ?_;intro K hK;go_simp;refine hK _ _ ?_;clear hK K;have K3:av (One g) W5 (W5.setCell ⟨g,4,none⟩ (.slice (some ⟨b4,0,none⟩) (js.length+1) c4)):=av.setCell (av.refl _ _) (fun _=>(rfl:g=g)) _;have fB:=(K3.block w.heap.size (Array.getElem?_eq_some_iff.1 iD).1 (by unfold One;omega)).trans iD;have mV:=hA.val bM eH hyA jS Rc.out (W5:=W5.setCell ⟨g,4,none⟩ (.slice (some ⟨b4,0,none⟩) (js.length+1) c4)) (by rw[heap_setCell_same _ g 4 _ _ _ zI];rfl) (aX ow K3 fun q e=>by have:=Option.some.inj e;unfold One;simp at this;omega) ((kp.mono fun q _ e=>.inr (by unfold One at e;rw[e];rfl)).then (K3.mono fun q _ e=>.inl e));refine aD fB (by kernel_rfl) ?_ _;clear iD fB g0 g1 zI ow kp;go_wp2
   go_end0
   exact⟨rfl,_,_,mV⟩
  ·intro K hK;have g0:=bg yw;have g1:=fZ yw 4;go_simp;refine hK _ _ ?_;clear hK K;have K3:av (One g) W4 (W4.setCell ⟨g,4,none⟩ (.slice (some ⟨b4,0,none⟩) (js.length+1) c4)):=av.setCell (av.refl _ _) (fun _=>(rfl:g=g)) _;have zI:(W4.setCell ⟨g,4,none⟩ (.slice (some ⟨b4,0,none⟩) (js.length+1) c4)).heap[g]?=some (.cells #[.int .i64 kd,.int .i64 0,.string ⟨#[]⟩,.slice (some ⟨b2,0,none⟩) (ks.length+1) c2,.slice (some ⟨b4,0,none⟩) (js.length+1) c4] 25 (0,0)):=by rw[heap_setCell_same _ g 4 _ _ _ yw];rfl
   have iD:=(K3.block w.heap.size (Array.getElem?_eq_some_iff.1 kM).1 (by unfold One;omega)).trans kM;have ow:=aX bG K3 fun q e=>by have:=Option.some.inj e;unfold One;simp at this;omega
   obtain⟨W5,uL⟩:∃W5,W5=W4.setCell ⟨g,4,none⟩ (.slice (some ⟨b4,0,none⟩) (js.length+1) c4):=⟨_,rfl⟩;rw[<-uL]at K3 ow zI iD ⊢;clear uL g0 g1;have e0:=wR W5 ow 0 _ rfl;have e1:=wR W5 ow 1 _ rfl;have e2:=wR W5 ow 2 _ rfl;have e3:=wR W5 ow 3 _ rfl;have e4:=wR W5 ow 4 _ rfl;obtain⟨PZ,P5⟩:=e0;obtain⟨Rm,MM⟩:=e1;obtain⟨WG,WH⟩:=e2;obtain⟨WI,WK⟩:=e3;obtain⟨WL,WM⟩:=e4;rw[Nat.add_zero]at PZ P5;refine ak (i:=7) iD rfl ?_;intro K hK;go_simp;refine hK _ _ ?_;clear hK K;have kp:=tF W5 b4 (js.length*5) (.int .i64 k) (.int .i64 i) (.string t) (.slice pk nk ck) (.slice pl nl cl);have ow5:=xf ow UU.out (.int .i64 k) (.int .i64 i) (.string t) (.slice pk nk ck) (.slice pl nl cl);have ob6:=(kp.block g (by have:=(Array.getElem?_eq_some_iff.1 zI).1;omega) (by unfold One;omega)).trans zI;have fB:=(kp.block w.heap.size (Array.getElem?_eq_some_iff.1 iD).1 (by unfold One;omega)).trans iD;have mV:=hA.val bM eH hyA jS Rc.out ob6 ow5 ((K3.mono fun q _ e=>.inl e).then (kp.mono fun q _ e=>.inr (by unfold One at e;rw[e];rfl)));unfold UT at fB mV;refine aD fB (by kernel_rfl) ?_ _;clear iD fB PZ P5 Rm MM WG WH WI WK WL WM wR ow ow5 zI ob6 kp;go_wp2
   go_end0
   exact⟨rfl,_,_,mV⟩
 ·intro K hK;go_simp;refine hK _ _ ?_;clear hK K;refine ak (i:=1) iO rfl ?_;intro K hK;go_simp;refine hK _ _ ?_;clear hK K;refine aa (i:=3) (d:=some 14) rfl ?_;refine ak (i:=5) iO rfl ?_;intro K hK;refine aR (.tmp 12) (.tmp 15) 23 rfl B 25 (.agg #[.int .i64 0,.int .i64 0,.string ⟨#[]⟩,.slice none 0 0,.slice none 0 0]) 5 80 Tryz.underlying23 Tryz.dY rfl (by decide) (by decide) _ js.length xs rfl bM _ zj5 rfl rfl (jL (by simp)) (by decide) (by omega) hA.size ?_;intro oJ W4 bG nN gL;refine hK _ _ ?_;clear hK K;obtain⟨b4,c4,vN⟩:=gv bG;subst vN;have jS:(W3.drew.alloc (.cells #[.int .i64 0,.int .i64 0,.string ⟨#[]⟩,.slice none 0 0,.slice none 0 0] 25)).grownBy W4 (Value.slice ql js.length zD).ownBlock:=nN;have iP:(Value.slice (some ⟨b4,0,none⟩) (js.length+1) c4).ownBlock=(Value.slice ql js.length zD).ownBlock\/ (Value.slice (some ⟨b4,0,none⟩) (js.length+1) c4).ownBlock=some (W3.drew.alloc (.cells #[.int .i64 0,.int .i64 0,.string ⟨#[]⟩,.slice none 0 0,.slice none 0 0] 25)).heap.size:=gL;have oq:=aJ bM;have PY:=aJ bG;have zeb:=(PY b4 rfl).1;have zec:=h3.lt;have hsA:=hA.size;have bX:b4≠w.heap.size:=fun e=>by
   rcases iP with h'| h'
   ·exact UM.out (h'.symm.trans (by rw[<-e];rfl))
   ·have:=Option.some.inj h';simp at this;have:=NT;omega
  have yw:W4.heap[g]?=some (.cells #[.int .i64 kd,.int .i64 0,.string ⟨#[]⟩,.slice (some ⟨b2,0,none⟩) (ks.length+1) c2,.slice ql js.length zD] 25 (0,0)):=(jS.block g (by omega) fun e=>by have:=(oq g e.symm).1;omega).trans hA.obj;have kM:W4.heap[w.heap.size]?=some (.cells #[.int .i64 k,.int .i64 i,.string t,.slice pk nk ck,.slice pl nl cl] 25 (0,0)):=(jS.block w.heap.size (by simp;exact Nat.lt_succ_of_lt NT) fun e=>UM.out e.symm).trans iO;have Rc:Hid ((Value.slice (some ⟨b4,0,none⟩) (js.length+1) c4).ownBlock=(Value.slice ql js.length zD).ownBlock\/ (Value.slice (some ⟨b4,0,none⟩) (js.length+1) c4).ownBlock=some (W3.drew.alloc (.cells #[.int .i64 0,.int .i64 0,.string ⟨#[]⟩,.slice none 0 0,.slice none 0 0] 25)).heap.size):=iP;clear nN gL PY iP;have wR:∀(W:World),W.ownsRow B 25 5 (.slice (some ⟨b4,0,none⟩) (js.length+1) c4) (js.length+1) (xs++zj5)->∀j u,zj5[j]?=some u->W.cell? ⟨b4,js.length*5+j,none⟩=some u/\W.frozen? ⟨b4,js.length*5+j,none⟩=false:=fun W hW j u hj=>by
   have hj5:j<5:=(List.getElem?_eq_some_iff.1 hj).1;refine⟨(hW.cellAt (js.length*5+j) (by omega)).trans ?_,hW.frozenAt _⟩;rw[List.getElem?_append_right (by rw[UU.out];omega),UU.out,Nat.add_sub_cancel_left];exact hj
  have hli:(js.length:Int)<(js.length:Int)+1:=by omega
  refine aa (i:=6) (d:=some 17) rfl ?_;refine aa (i:=8) (d:=some 18) rfl ?_;refine bY (i:=7) (j:=9) kM (by kernel_rfl) rfl rfl (by rfl) (by rfl) ?_ ?_
  ·intro K hK;have e0:=wR W4 bG 0 _ rfl;have e1:=wR W4 bG 1 _ rfl;have e2:=wR W4 bG 2 _ rfl;have e3:=wR W4 bG 3 _ rfl;have e4:=wR W4 bG 4 _ rfl;obtain⟨PZ,P5⟩:=e0;obtain⟨Rm,MM⟩:=e1;obtain⟨WG,WH⟩:=e2;obtain⟨WI,WK⟩:=e3;obtain⟨WL,WM⟩:=e4;rw[Nat.add_zero]at PZ P5;go_simp;refine hK _ _ ?_;clear hK K;have kp:=tF W4 b4 (js.length*5) (.int .i64 k) (.int .i64 i) (.string t) (.slice pk nk ck) (.slice pl nl cl);have ow:=xf bG UU.out (.int .i64 k) (.int .i64 i) (.string t) (.slice pk nk ck) (.slice pl nl cl);have zI:=(kp.block g (by have:=(Array.getElem?_eq_some_iff.1 yw).1;omega) (by unfold One;omega)).trans yw;have iD:=(kp.block w.heap.size (Array.getElem?_eq_some_iff.1 kM).1 (by unfold One;omega)).trans kM;have g0:=bg zI;have g1:=fZ zI 4;obtain⟨W5,uL⟩:∃W5,W5=UT W4 b4 (js.length*5) (.int .i64 k) (.int .i64 i) (.string t) (.slice pk nk ck) (.slice pl nl cl):=⟨_,rfl⟩;rw[<-uL]at kp ow zI iD g0 g1;have IL:=uL;unfold UT at IL;rw[<-IL];clear uL IL PZ P5 Rm MM WG WH WI WK WL WM wR;refine ak (i:=9) iD rfl ?_;intro K hK;go_simp;refine hK _ _ ?_;clear hK K;have K3:av (One g) W5 (W5.setCell ⟨g,4,none⟩ (.slice (some ⟨b4,0,none⟩) (js.length+1) c4)):=av.setCell (av.refl _ _) (fun _=>(rfl:g=g)) _;have fB:=(K3.block w.heap.size (Array.getElem?_eq_some_iff.1 iD).1 (by unfold One;omega)).trans iD;have mV:=hA.val bM eH hyA jS Rc.out (W5:=W5.setCell ⟨g,4,none⟩ (.slice (some ⟨b4,0,none⟩) (js.length+1) c4)) (by rw[heap_setCell_same _ g 4 _ _ _ zI];rfl) (aX ow K3 fun q e=>by have:=Option.some.inj e;unfold One;simp at this;omega) ((kp.mono fun q _ e=>.inr (by unfold One at e;rw[e];rfl)).then (K3.mono fun q _ e=>.inl e));refine aD fB (by kernel_rfl) ?_ _;clear iD fB g0 g1 zI ow kp;go_wp2
   go_end0
   exact⟨rfl,_,_,mV⟩
  ·intro K hK;have g0:=bg yw;have g1:=fZ yw 4;go_simp;refine hK _ _ ?_;clear hK K;have K3:av (One g) W4 (W4.setCell ⟨g,4,none⟩ (.slice (some ⟨b4,0,none⟩) (js.length+1) c4)):=av.setCell (av.refl _ _) (fun _=>(rfl:g=g)) _;have zI:(W4.setCell ⟨g,4,none⟩ (.slice (some ⟨b4,0,none⟩) (js.length+1) c4)).heap[g]?=some (.cells #[.int .i64 kd,.int .i64 0,.string ⟨#[]⟩,.slice (some ⟨b2,0,none⟩) (ks.length+1) c2,.slice (some ⟨b4,0,none⟩) (js.length+1) c4] 25 (0,0)):=by rw[heap_setCell_same _ g 4 _ _ _ yw];rfl
   have iD:=(K3.block w.heap.size (Array.getElem?_eq_some_iff.1 kM).1 (by unfold One;omega)).trans kM;have ow:=aX bG K3 fun q e=>by have:=Option.some.inj e;unfold One;simp at this;omega
   obtain⟨W5,uL⟩:∃W5,W5=W4.setCell ⟨g,4,none⟩ (.slice (some ⟨b4,0,none⟩) (js.length+1) c4):=⟨_,rfl⟩;rw[<-uL]at K3 ow zI iD ⊢;clear uL g0 g1;have e0:=wR W5 ow 0 _ rfl;have e1:=wR W5 ow 1 _ rfl;have e2:=wR W5 ow 2 _ rfl;have e3:=wR W5 ow 3 _ rfl;have e4:=wR W5 ow 4 _ rfl;obtain⟨PZ,P5⟩:=e0;obtain⟨Rm,MM⟩:=e1;obtain⟨WG,WH⟩:=e2;obtain⟨WI,WK⟩:=e3;obtain⟨WL,WM⟩:=e4;rw[Nat.add_zero]at PZ P5;refine ak (i:=7) iD rfl ?_;intro K hK;go_simp;refine hK _ _ ?_;clear hK K;have kp:=tF W5 b4 (js.length*5) (.int .i64 k) (.int .i64 i) (.string t) (.slice pk nk ck) (.slice pl nl cl);have ow5:=xf ow UU.out (.int .i64 k) (.int .i64 i) (.string t) (.slice pk nk ck) (.slice pl nl cl);have ob6:=(kp.block g (by have:=(Array.getElem?_eq_some_iff.1 zI).1;omega) (by unfold One;omega)).trans zI;have fB:=(kp.block w.heap.size (Array.getElem?_eq_some_iff.1 iD).1 (by unfold One;omega)).trans iD;have mV:=hA.val bM eH hyA jS Rc.out ob6 ow5 ((K3.mono fun q _ e=>.inl e).then (kp.mono fun q _ e=>.inr (by unfold One at e;rw[e];rfl)));unfold UT at fB mV;refine aD fB (by kernel_rfl) ?_ _;clear iD fB PZ P5 Rm MM WG WH WI WK WL WM wR ow ow5 zI ob6 kp;go_wp2
   go_end0
   exact⟨rfl,_,_,mV⟩
theorem yx(n m:Int)(w:World):Calls Tryz.prog 107 #[.int .i64 n,.int .i64 m] w fun e w'=>e=.returned (.bool (di n m))/\w=w':=by
 go_enter Tryz.func107,Tryz.ntmps107;go_wp2
 all_goals
  go_ret;refine⟨ai ?_,rfl⟩;unfold di;rw[Bool.eq_iff_iff];simp;omega
theorem P6(s:ByteArray):(Lu s).size=s.size+1:=by
 unfold Lu;rw[ByteArray.size_append,Nat.add_comm]
 rfl
theorem yz(s:ByteArray)(w:World)(hs:s.size<=1000000000):
    Calls Tryz.prog 108 #[.string s] w fun e w'=>e=.returned (.bool (fU s))/\Below w.heap.size w w':=by
 have hE:=Id.Af (Lu s) w (by rw[P6];omega);have HD:Hid (Id.pK (Lu s)=fU s):=rfl;unfold Lu at hE HD;go_enter Tryz.func108,Tryz.ntmps108;go_wp2_with(go_at_call 133;refine hE.mono ?_;rintro e w' ⟨rfl,hb⟩);go_ret;exact⟨ai HD.out,hb⟩
theorem fM(s:ByteArray)(w:World):
    Calls Tryz.prog 117 #[.string s] w fun e w'=>e=.returned (.agg #[.int .i64 3,.int .i64 0,.string s,.slice none 0 0,.slice none 0 0])/\Below w.heap.size w w':=by
 have h5:=heap_alloc_new w (.cells #[.int .i64 3,.int .i64 0,.string s,.slice none 0 0,.slice none 0 0] 25);obtain⟨k0,k1,k2,k3,k4⟩:=aM h5;go_enter Tryz.func117,Tryz.ntmps117;go_wp2;refine bodyPost_ret (v:=.agg #[.int .i64 3,.int .i64 0,.string s,.slice none 0 0,.slice none 0 0]) (by simp[results,Tryz.results117,go_sem,k0,k1,k2,k3,k4]) rfl ?_;exact⟨rfl,(Below.refl _ _).alloc (Nat.le_refl _) _⟩
theorem lI(n:Int)(w:World):
    Calls Tryz.prog 116 #[.int .i64 n] w fun e w'=>e=.returned (.agg #[.int .i64 2,.int .i64 n,.string aN,.slice none 0 0,.slice none 0 0])/\Below w.heap.size w w':=by
 have h5:=heap_alloc_new w (.cells #[.int .i64 2,.int .i64 n,.string ⟨#[]⟩,.slice none 0 0,.slice none 0 0] 25);obtain⟨k0,k1,k2,k3,k4⟩:=aM h5;go_enter Tryz.func116,Tryz.ntmps116;go_wp2;refine bodyPost_ret (v:=.agg #[.int .i64 2,.int .i64 n,.string ⟨#[]⟩,.slice none 0 0,.slice none 0 0]) (by simp[results,Tryz.results116,go_sem,k0,k1,k2,k3,k4]) rfl ?_;exact⟨rfl,(Below.refl _ _).alloc (Nat.le_refl _) _⟩
end Go.Proofs.YtldegjjaknelgaaGreatDoor

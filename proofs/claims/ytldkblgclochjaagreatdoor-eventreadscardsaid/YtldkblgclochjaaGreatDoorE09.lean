/- A part. -/
import Derived.Test.YtldkblgclochjaaGreatDoorE08
import Derived.Lib.SlBytesConst
import Derived.Laws.BitsLemmas
import Derived.Lib.Walk
set_option maxRecDepth 100000
set_option maxHeartbeats 16000000
namespace Go.Proofs.YtldkblgclochjaaGreatDoor
open Go.RowKit
theorem vF{w c:World}{cs:Array Value}{t:TypeId}(h:Below (w.alloc (.cells cs t)).heap.size (w.alloc (.cells cs t)) c):c.heap[w.heap.size]?=some (.cells cs t (0,0))/\Below w.heap.size w c:=
 ⟨by rw[h.block w.heap.size (by simp)];exact heap_alloc_new _ _,ae ((Below.refl _ _).alloc (Nat.le_refl _) _) h⟩
theorem Cw{w:World}{O:Nat->Prop}{j:J}{k i:Int}{t:ByteArray}{pk pl:Option Addr}{nk ck nl cl:Nat}(d:∀x,O x->x<w.heap.size)(h:szJ 12 j=true)
    (m:isJ O w j [.int .i64 k,.int .i64 i,.string t,.slice pk nk ck,.slice pl nl cl]):
    Calls Tryz.prog 40 #[.agg #[.int .i64 k,.int .i64 i,.string t,.slice pk nk ck,.slice pl nl cl]] w fun x w'=>x=.returned (.bool (goodJ 12 j))/\Below w.heap.size w w':=by
 have u:=zaY 12 (Nat.le_refl _) (w.alloc (.cells #[.int .i64 k,.int .i64 i,.string t,.slice pk nk ck,.slice pl nl cl] 25)) O j k i 1 t pk pl nk ck nl cl (fun x c=>by have:=d x c;simp;omega) rfl h
  (m.carry fun x c=>⟨c,Below.heap_alloc _ _ _ (d x c)⟩)
 go_enter Tryz.func40,Tryz.ntmps40;go_wp2_with(go_at_call 80;refine u.mono ?_;rintro x z ⟨rfl,f⟩);go_ret;exact⟨rfl,(vF f).2⟩
def Qk(w w':World)(j:J)(x:Ending):Prop:=
 (goodJ 12 j=false->x=.returned (.tuple #[.slice none 0 0,.int .i64 1]))∧
 (goodJ 12 j=true->16384<(aY (ord j)).length->x=.returned (.tuple #[.slice none 0 0,.int .i64 13]))∧
 (goodJ 12 j=true->(aY (ord j)).length<=16384->∃v,x=.returned (.tuple #[v,.int .i64 0])/\w'.ownsRow w.heap.size 5 1 v (aY (ord j)).length ((aY (ord j)).map (Value.int .u8)))/\Below w.heap.size w w'
theorem Fx{w:World}{B c e size n:Nat}{v:Value}{xs:List Value}(h:w.ownsRow B e size v n xs)(f:c<=B):w.ownsRow c e size v n xs:=by
 refine⟨h.1, ?_⟩
 rcases h.2 with d| ⟨g,cap,cur,rfl,j,rest⟩
 ·exact .inl d
 ·exact .inr ⟨g,cap,cur,rfl,by omega,rest⟩
theorem NI{w:World}{O:Nat->Prop}{j:J}{k i:Int}{t:ByteArray}{pk pl:Option Addr}{nk ck nl cl:Nat}(I:∀x,O x->x<w.heap.size)(fI:szJ 12 j=true)(hT:Uy w.heap.size w)(vZ:goodJ 12 j=true->qK 12 (ord j)=true)
    (hj:isJ O w j [.int .i64 k,.int .i64 i,.string t,.slice pk nk ck,.slice pl nl cl]):
    Calls Tryz.prog 28 #[.agg #[.int .i64 k,.int .i64 i,.string t,.slice pk nk ck,.slice pl nl cl]] w fun x w'=>Qk w w' j x:=by
 have hG:=Cw (w:=w.alloc (.cells #[.int .i64 k,.int .i64 i,.string t,.slice pk nk ck,.slice pl nl cl] 25)) (O:=O) (fun x c=>by have:=I x c;simp;omega) fI (hj.carry fun x c=>⟨c,Below.heap_alloc _ _ _ (I x c)⟩)
 cases hg:goodJ 12 j with
 | false=>
  rw[hg]at hG;go_enter Tryz.func28,Tryz.ntmps28;go_wp2_with(go_at_call 40;refine hG.mono ?_;rintro x d ⟨rfl,bO⟩);go_ret2;refine⟨fun _=>rfl,fun h=> ?_,fun h=> ?_,(vF bO).2⟩
  ·rw[hg]at h;cases h
  ·rw[hg]at h;cases h
 | true=>
  have HF:Hid (qK 12 (ord j)=true):=vZ hg;have F:Hid (goodJ 12 j=true):=hg;rw[hg]at hG;clear vZ hg
  by_cases lC:16384<(aY (ord j)).length
  ·have NJ:Hid (16384<(aY (ord j)).length):=lC;clear lC;go_enter Tryz.func28,Tryz.ntmps28;go_wp2_with(first
    | (go_at_call 40;refine hG.mono ?_;rintro x d ⟨rfl,bO⟩
       obtain⟨hv,u⟩:=vF bO;have m:Below w.heap.size w (d.alloc (.cells #[.slice none 0 0] 90)):=u.alloc u.size _;have YM:(d.alloc (.cells #[.slice none 0 0] 90)).heap[w.heap.size]?=some (.cells #[.int .i64 k,.int .i64 i,.string t,.slice pk nk ck,.slice pl nl cl] 25 (0,0)):=by
        rw[Below.heap_alloc _ _ _ (Array.getElem?_eq_some_iff.1 hv).1];exact hv
       obtain⟨c0,c1,c2,c3,c4⟩:=aj YM;have hA:=ZG 12 (d.alloc (.cells #[.slice none 0 0] 90)) O j k i t pk pl nk ck nl cl (fun x c=>Nat.lt_of_lt_of_le (I x c) m.size) F.out fI (hj.carry fun x c=>⟨c,m.block x (I x c)⟩))
    | (go_at_call 41;refine hA.mono ?_;rintro x f ⟨kr,ir,tr,pr,nr,cr,qr,mr,dr,rfl,Mf,Y⟩
       have X:f.heap[d.heap.size]?=some (.cells #[.slice none 0 0] 90 (0,0)):=by rw[Y.block _ (by simp)];exact heap_alloc_new _ _
       have N:=ae m Y;have G:=Y.size;have IJ:Ea f f.heap.size d.heap.size []:=⟨⟨_,X,World.ownsRow_nil _ _ _ _⟩,by simp at G;omega,Nat.le_refl _⟩;have T:Uy d.heap.size f:=fun w' z=>hT w' (N.trans ⟨z.os,z.tape,z.output,z.size,fun x c=>z.block x (by have:=u.size;omega)⟩);have hW:=writes 12 f f.heap.size d.heap.size [] (fun x=>O x\/ gH (d.alloc (.cells #[.slice none 0 0] 90)) f x) (ord j) kr ir tr pr qr nr cr mr dr IJ (by simp) (fun x c=>by
        rcases c with c| c
        ·have:=I x c;have:=u.size;have:=N.size;exact⟨by simp at G;omega,by omega⟩
        ·have e1:=c.1;have e2:=c.2;simp at e1;exact⟨e2,by omega⟩) T HF.out Mf)
    | (go_at_call 64;refine hW.mono ?_;rintro x w5 ⟨rfl,⟨out,Ju,YH,H⟩,Zx⟩
       have A:=Cq H;have E:=Zx.below (K:=d.heap.size) (by simp at G;omega) (by simp at G;omega);have S:Below w.heap.size w w5:=N.trans ⟨E.os,E.tape,E.output,E.size,fun x c=>E.block x (by have:=u.size;omega)⟩;have U:16384<out.length:=by
        have ZH:=NJ.out
        rcases Ju with⟨h1,_⟩| ⟨_,h2⟩
        ·rw[List.nil_append]at h1;omega
        ·exact h2
       rw[decide_eq_true U]at A)
    | (go_at_call 65;refine A.mono ?_;rintro x w' ⟨rfl,rfl⟩))
   go_ret2;refine⟨fun h=> ?_,fun _ _=>rfl,fun _ h=> ?_,S⟩
   ·rw[F.out]at h;cases h
   ·have:=NJ.out;omega
  ·have NJ:Hid ((aY (ord j)).length<=16384):=by show _<=_;omega
   clear lC;go_enter Tryz.func28,Tryz.ntmps28;go_wp2_with(first
    | (go_at_call 40;refine hG.mono ?_;rintro x d ⟨rfl,bO⟩
       obtain⟨hv,u⟩:=vF bO;have m:Below w.heap.size w (d.alloc (.cells #[.slice none 0 0] 90)):=u.alloc u.size _;have YM:(d.alloc (.cells #[.slice none 0 0] 90)).heap[w.heap.size]?=some (.cells #[.int .i64 k,.int .i64 i,.string t,.slice pk nk ck,.slice pl nl cl] 25 (0,0)):=by
        rw[Below.heap_alloc _ _ _ (Array.getElem?_eq_some_iff.1 hv).1];exact hv
       obtain⟨c0,c1,c2,c3,c4⟩:=aj YM;have hA:=ZG 12 (d.alloc (.cells #[.slice none 0 0] 90)) O j k i t pk pl nk ck nl cl (fun x c=>Nat.lt_of_lt_of_le (I x c) m.size) F.out fI (hj.carry fun x c=>⟨c,m.block x (I x c)⟩))
    | (go_at_call 41;refine hA.mono ?_;rintro x f ⟨kr,ir,tr,pr,nr,cr,qr,mr,dr,rfl,Mf,Y⟩
       have X:f.heap[d.heap.size]?=some (.cells #[.slice none 0 0] 90 (0,0)):=by rw[Y.block _ (by simp)];exact heap_alloc_new _ _
       have N:=ae m Y;have G:=Y.size;have IJ:Ea f f.heap.size d.heap.size []:=⟨⟨_,X,World.ownsRow_nil _ _ _ _⟩,by simp at G;omega,Nat.le_refl _⟩;have T:Uy d.heap.size f:=fun w' z=>hT w' (N.trans ⟨z.os,z.tape,z.output,z.size,fun x c=>z.block x (by have:=u.size;omega)⟩);have hW:=writes 12 f f.heap.size d.heap.size [] (fun x=>O x\/ gH (d.alloc (.cells #[.slice none 0 0] 90)) f x) (ord j) kr ir tr pr qr nr cr mr dr IJ (by simp) (fun x c=>by
        rcases c with c| c
        ·have:=I x c;have:=u.size;have:=N.size;exact⟨by simp at G;omega,by omega⟩
        ·have e1:=c.1;have e2:=c.2;simp at e1;exact⟨e2,by omega⟩) T HF.out Mf)
    | (go_at_call 64;refine hW.mono ?_;rintro x w5 ⟨rfl,⟨out,Ju,YH,H⟩,Zx⟩
       have A:=Cq H;have E:=Zx.below (K:=d.heap.size) (by simp at G;omega) (by simp at G;omega);have S:Below w.heap.size w w5:=N.trans ⟨E.os,E.tape,E.output,E.size,fun x c=>E.block x (by have:=u.size;omega)⟩;have V:out=aY (ord j):=by
        have ZH:=NJ.out
        rcases Ju with⟨_,h2⟩| ⟨h1,_⟩
        ·rw[List.nil_append]at h2;exact h2
        ·rw[List.nil_append]at h1;omega
       have zf8:Hid (out=aY (ord j)):=V;have U:¬16384<out.length:=by rw[V];have:=NJ.out;omega
       clear V;rw[decide_eq_false U]at A;obtain⟨v5,h51,Z⟩:=H.row;have d0:=GV h51;obtain⟨q5,n5,c5,xc⟩:=gp Z;subst xc)
    | (go_at_call 65;refine A.mono ?_;rintro x w' ⟨rfl,rfl⟩))
   go_ret2;refine⟨fun h=> ?_,fun _ h=> ?_,fun _ _=>⟨_,rfl, ?_⟩,S⟩
   ·rw[F.out]at h;cases h
   ·have:=NJ.out;omega
   ·rw[zf8.out]at Z;exact Fx Z (by have:=N.size;omega)
theorem xY{x:J}:∀{l:List J},x∈ordL l->∃y∈l,x=ord y
 | [],h=>by simp[ordL]at h
 | j::r,h=>by
  rw[ordL]at h
  rcases List.mem_cons.1 h with rfl| h
  ·exact⟨j,List.mem_cons_self ..,rfl⟩
  ·obtain⟨y,c,e⟩:=xY h;exact⟨y,List.mem_cons_of_mem _ c,e⟩
section
variable {ks : List ByteArray} {l : List J}
theorem nu(c:ks.length=l.length):((fT (ks.zip l)).map (·.1)).Perm ks:=by
 have:=(oG (ks.zip l)).map (·.1);rw[List.map_fst_zip (by omega)]at this;exact this
theorem jg(c:ks.length=l.length):((fT (ks.zip l)).map (·.2)).Perm l:=by
 have:=(oG (ks.zip l)).map (·.2);rw[List.map_snd_zip (by omega)]at this;exact this
end
theorem ig:∀(d:Nat) (j:J),goodJ d j=true->goodJ d (ord j)=true
 | 0,j,h=>by unfold goodJ at h;cases h
 | d+1,.mk k i t ks l,h=>by
  obtain⟨m,F,N⟩:=iF h;have A:∀x∈ordL l,goodJ d x=true:=fun x c=>by
   obtain⟨y,I,rfl⟩:=xY c;exact ig d y (List.all_eq_true.1 m y I)
  rw[ord]
  by_cases f:k=5
  ·subst f;rw[if_pos rfl];obtain⟨G,H⟩:=F rfl;have u:ks.length=(ordL l).length:=by rw[dI];exact G
   have pk:=nu u;have E:=jg u;have z:ks.all letters=true:=by
    rw[goodJ,Bool.and_eq_true]at h;have h2:=h.2;rw[if_neg (by decide),if_neg (by decide),if_neg (by decide),if_neg (by decide),if_neg (by decide),if_pos rfl]at h2;simp only[Bool.and_eq_true]at h2;exact h2.1.2.1
   unfold mapOf;rw[goodJ];have T:((fT (ks.zip (ordL l))).map (·.1)).all letters=true:=by
    rw[List.all_eq_true]at z ⊢;exact fun x c=>z x (pk.mem_iff.1 c)
   have V:noKeyTwice ((fT (ks.zip (ordL l))).map (·.1))=true:=gU (pk.symm.pairwise H fun{_ _} h=>h.symm);have U:((fT (ks.zip (ordL l))).map (·.2)).all (goodJ d)=true:=by
    rw[List.all_eq_true];exact fun x c=>A x (E.mem_iff.1 c)
   rw[T,V,U];simp[bare,aH,ByteArray.size]
  ·rw[if_neg f];have S:=N f;subst S;rw[goodJ,Bool.and_eq_true]at h ⊢;have K:(ordL l).all (goodJ d)=true:=List.all_eq_true.2 A;refine⟨by have:=h.1;rw[GZ]at this ⊢;rw[dI];exact this, ?_⟩;have h2:=h.2;rw[K];rw[m]at h2;rw[if_neg f]at h2 ⊢;exact h2
theorem JM:∀(d:Nat) (j:J),goodJ d j=true->szJ d j=true->wideJ d (ord j)=true
 | 0,j,_,_=>by unfold wideJ;rfl
 | d+1,.mk k i t ks l,hg,h=>by
  obtain⟨F,G,_⟩:=iF hg;unfold szJ at h;simp only[Bool.and_eq_true,decide_eq_true_eq]at h;obtain⟨_,_,_,A,E⟩:=h;have z:∀x∈ordL l,wideJ d x=true:=fun x c=>by
   obtain⟨y,m,rfl⟩:=xY c;exact JM d y (List.all_eq_true.1 F y m) (List.all_eq_true.1 E y m)
  rw[ord]
  by_cases u:k=5
  ·subst u;rw[if_pos rfl];obtain⟨H,_⟩:=G rfl;have I:ks.length=(ordL l).length:=by rw[dI];exact H
   have f:=jg I;unfold mapOf wideJ;rw[Bool.and_eq_true];refine⟨decide_eq_true ?_,List.all_eq_true.2 fun x c=>z x (f.mem_iff.1 c)⟩;rw[f.length_eq,dI];exact A
  ·rw[if_neg u];unfold wideJ;rw[Bool.and_eq_true];exact⟨decide_eq_true (by rw[dI];exact A),List.all_eq_true.2 z⟩
theorem G9{d:Nat}{j:J}(c:goodJ d j=true)(f:szJ d j=true):qK d (ord j)=true:=by
 unfold qK;rw[ig d j c,JM d j c f];rfl
theorem mJ:∀l:List J,inOrdL l=true↔∀x∈l,inOrd x=true
 | []=>by simp[inOrdL]
 | j::r=>by
  rw[inOrdL,Bool.and_eq_true,mJ r];simp
theorem mK:∀(d:Nat) (j:J),goodJ d j=true->inOrd (ord j)=true
 | 0,j,h=>by unfold goodJ at h;cases h
 | d+1,.mk k i t ks l,h=>by
  obtain⟨z,A,I⟩:=iF h;have m:∀x∈ordL l,inOrd x=true:=fun x c=>by
   obtain⟨y,G,rfl⟩:=xY c;exact mK d y (List.all_eq_true.1 z y G)
  rw[ord]
  by_cases f:k=5
  ·subst f;rw[if_pos rfl];obtain⟨E,F⟩:=A rfl;have H:ks.length=(ordL l).length:=by rw[dI];exact E
   have u:=jg H;unfold mapOf;rw[inOrd,Bool.and_eq_true,mJ];refine⟨lK _ ?_,fun x c=>m x (u.mem_iff.1 c)⟩;have:((ks.zip (ordL l)).map (·.1)).Pairwise (· ≠ ·):=by rw[List.map_fst_zip (by omega)];exact F
   exact List.pairwise_map.1 this
  ·rw[if_neg f];rw[inOrd,Bool.and_eq_true,mJ];exact⟨rfl,m⟩
theorem lT:∀(d:Nat) (j:J),goodJ d j=true->inOrd j=true->ord j=j
 | 0,j,h,_=>by unfold goodJ at h;cases h
 | d+1,.mk k i t ks l,h,ho=>by
  obtain⟨z,A,E⟩:=iF h;rw[inOrd,Bool.and_eq_true,mJ]at ho;have G:∀(r:List J),(∀x∈r,x∈l)->ordL r=r:=by
   intro r
   induction r with
   | nil=>intro _;rfl
   | cons y r ih=>
    intro c;rw[ordL,ih fun x u=>c x (List.mem_cons_of_mem _ u),lT d y (List.all_eq_true.1 z y (c y (List.mem_cons_self ..))) (ho.2 y (c y (List.mem_cons_self ..)))]
  rw[ord,G l fun x u=>u]
  by_cases m:k=5
  ·subst m;rw[if_pos rfl];obtain⟨I,K⟩:=A rfl;unfold mapOf;have c:rises ((ks.zip l).map (·.1))=true:=by rw[List.map_fst_zip (by omega)];exact ho.1
   rw[uy _ c,List.map_fst_zip (by omega),List.map_snd_zip (by omega)];rw[goodJ,Bool.and_eq_true]at h;have f:=h.1;unfold bare at f;simp only[Bool.and_eq_true,Bool.or_eq_true,decide_eq_true_eq]at f;obtain⟨⟨⟨h1,h2⟩,_⟩,_⟩:=f;have F:i=0:=by omega
   have H:t=aH:=wZ (by omega);rw[F,H]
  ·rw[if_neg m,E m]
theorem Su{j:J}(c:goodJ 12 j=true):whole (aY (ord j))=.ok (ord j) (aY (ord j)).length:=MP (ord j) (ig 12 j c) (mK 12 j c)
theorem Fy{t u:List Int}{p q:Nat}{c:Int}{wd:Nat}(h:bJ u p=(c,wd))(h0:wd≠0)(j:∀i,i<wd->ah t (q+i)=ah u (p+i)):bJ t q=(c,wd):=by
 have E:ah t q=ah u p:=j 0 (by omega);have cont:∀i,i<wd->dm t (q+i)=dm u (p+i):=fun i z=>by unfold dm;rw[j i z]
 unfold bJ at h ⊢;rw[E]
 split at h
 ·rename_i a;rw[if_pos a];exact h
 ·rename_i a;rw[if_neg a]
  split at h
  ·rename_i b;have k:wd=2:=by
    split at h
    ·exact(Prod.mk.inj h).2.symm
    ·exact absurd (Prod.mk.inj h).2.symm h0
   subst k;have A:=cont 1 (by omega);have G:=j 1 (by omega);rw[A,G,if_pos b];exact h
  ·rename_i b;have F:¬(decide (ah u p / 32=6)&&dm t (q+1))=true:=by
    intro m;simp only[Bool.and_eq_true,decide_eq_true_eq]at m
    by_cases k:1<wd
    ·rw[cont 1 k]at m;exact b (by simp[m.1,m.2])
    ·split at h
     ·rename_i x;simp only[Bool.and_eq_true,decide_eq_true_eq]at x;omega
     ·split at h
      ·rename_i x;simp only[Bool.and_eq_true,decide_eq_true_eq]at x;omega
      ·exact absurd (Prod.mk.inj h).2.symm h0
   rw[if_neg F]
   split at h
   ·rename_i d;have k:wd=3:=by
     split at h
     ·exact(Prod.mk.inj h).2.symm
     ·exact absurd (Prod.mk.inj h).2.symm h0
    subst k;rw[cont 1 (by omega),cont 2 (by omega),j 1 (by omega),j 2 (by omega),if_pos d];exact h
   ·rename_i d
    split at h
    ·rename_i f;have k:wd=4:=by
      split at h
      ·exact(Prod.mk.inj h).2.symm
      ·exact absurd (Prod.mk.inj h).2.symm h0
     subst k;have nd:¬(decide (ah u p / 16=14)&&dm t (q+1)&&dm t (q+2))=true:=by
      rw[cont 1 (by omega),cont 2 (by omega)];exact d
     rw[if_neg nd,cont 1 (by omega),cont 2 (by omega),cont 3 (by omega),j 1 (by omega),j 2 (by omega),j 3 (by omega),if_pos f];exact h
    ·exact absurd (Prod.mk.inj h).2.symm h0
def Fair(t:List Int)(p:Nat):Prop:=∀m,strayL t m p=none
theorem Fair.end{t:List Int}{p:Nat}(h:t.length<=p):Fair t p:=fun m=>by
 cases m with
 | zero=>rfl
 | succ m=>unfold strayL;rw[if_neg (by omega)]
theorem Fair.step{t:List Int}{p wd:Nat}{c:Int}(d:bJ t p=(c,wd))(h0:wd≠0)(h:Fair t (p+wd)):Fair t p:=fun m=>by
 cases m with
 | zero=>rfl
 | succ m=>
  unfold strayL
  split
  ·rw[d,if_neg h0];exact h m
  ·rfl
theorem si{t l r:List Int}{p i:Nat}(c:t.drop p=l++r)(d:i<l.length):ah t (p+i)=l.getD i 0:=by
 unfold ah;have:t[p+i]?=(l++r)[i]?:=by rw[<-c,List.getElem?_drop]
 rw[List.getD_eq_getElem?_getD,this,List.getElem?_append_left d,List.getD_eq_getElem?_getD]
theorem Fair.uL{t:List Int}:∀(l r:List Int) (p:Nat),(∀c∈l,0<=c/\c<128)->t.drop p=l++r->Fair t (p+l.length)->Fair t p
 | [],_,p,_,_,h=>by simpa using h
 | a::l,r,p,hl,hd,h=>by
  have j:=hl a (List.mem_cons_self ..);have k:ah t p=a:=bG (by simpa using hd);have d:bJ t p=(a,1):=by unfold bJ;rw[k,if_pos j.2]
  refine Fair.step d (by decide) (Fair.uL l r (p+1) (fun c f=>hl c (List.mem_cons_of_mem _ f)) (drop_tail (by simpa using hd)) ?_);rw[show p+1+l.length=p+(a::l).length by simp;omega];exact h
theorem Cx{t:List Int}{p:Nat}(h:ah t p<128):bJ t p=(ah t p,1):=by unfold bJ;rw[if_pos h]
theorem Ql{t:List Int}{p:Nat}{c:Int}{wd:Nat}(d:bJ t p=(c,wd))(h:¬ah t p<128):∀i,i<wd->128<=ah t (p+i):=by
 have cont:∀i,dm t i=true->128<=ah t i:=fun i f=>by have:=(se f).2;omega
 have j:128<=ah t p:=by omega
 unfold bJ at d;rw[if_neg h]at d;intro i f
 split at d
 ·rename_i b;simp only[Bool.and_eq_true,decide_eq_true_eq]at b;have k:wd<=2:=by split at d<;>(have:=(Prod.mk.inj d).2;omega)
  match i,f with
  | 0,_=>exact j
  | 1,_=>exact cont _ b.2
  | i+2,f=>omega
 ·split at d
  ·rename_i b;simp only[Bool.and_eq_true,decide_eq_true_eq]at b;have k:wd<=3:=by split at d<;>(have:=(Prod.mk.inj d).2;omega)
   match i,f with
   | 0,_=>exact j
   | 1,_=>exact cont _ b.1.2
   | 2,_=>exact cont _ b.2
   | i+3,f=>omega
  ·split at d
   ·rename_i b;simp only[Bool.and_eq_true,decide_eq_true_eq]at b;have k:wd<=4:=by split at d<;>(have:=(Prod.mk.inj d).2;omega)
    match i,f with
    | 0,_=>exact j
    | 1,_=>exact cont _ b.1.1.2
    | 2,_=>exact cont _ b.1.2
    | 3,_=>exact cont _ b.2
    | i+4,f=>omega
   ·have:=(Prod.mk.inj d).2;omega
theorem Eu{c:Int}(h:0<=c/\c<128):∀x∈aG c,0<=x/\x<128:=by
 unfold aG Eh
 (repeat' split);all_goals
  intro x d;simp at d;omega
theorem Fair.flat{t:List Int}(s:ByteArray):∀(m pos q:Nat) (r:List Int),s.size<=pos+m->strayL (ints s) m pos=none->t.drop q=((ints s).drop pos).flatMap aG++r->Fair t (q+(((ints s).drop pos).flatMap aG).length)->Fair t q
 | 0,pos,q,r,hm,_,hd,h=>by
  rw[List.drop_eq_nil_of_le (by rw[ax];omega)]at h;simpa using h
 | m+1,pos,q,r,hm,hs,hd,h=>by
  by_cases A:pos<s.size
  ·unfold strayL at hs;rw[ax,if_pos A]at hs;obtain⟨⟨c,wd⟩,f⟩:∃r,bJ (ints s) pos=r:=⟨_,rfl⟩;rw[f]at hs;have h0:wd≠0:=fun e=>by simp only[e,if_true]at hs;cases hs
   simp only[if_neg h0]at hs;obtain⟨z,F,K,S⟩:=Jy (j6 s) (by rw[ax];exact A) f h0;have E:(ints s).drop pos=((ints s).drop pos).take wd++(ints s).drop (pos+wd):=by
    rw[<-List.drop_drop];exact(List.take_append_drop wd _).symm
   rw[E,List.flatMap_append,z,List.append_assoc]at hd;rw[E,List.flatMap_append,z,List.length_append,<-Nat.add_assoc]at h;have k:=Fair.flat s m (pos+wd) (q+(escRune c).length) r (by omega) hs (jN hd) h
   by_cases j:ah (ints s) pos<128
   ·have e:=Cx j;rw[f]at e;obtain⟨rfl,rfl⟩:=Prod.mk.inj e;have H:escRune (ah (ints s) pos)=aG (ah (ints s) pos):=by unfold escRune;rw[if_pos j]
    rw[H]at hd k;exact Fair.uL _ _ q (Eu ⟨K,j⟩) hd k
   ·have I:=Ql f j;have u:(((ints s).drop pos).take wd).length=wd:=by
     rw[List.length_take,List.length_drop];rw[ax]at F ⊢;omega
    have G:escRune c=((ints s).drop pos).take wd:=by
     rw[<-z];refine xV _ fun x N=> ?_;obtain⟨i,d,rfl⟩:=List.getElem_of_mem N;rw[u]at d;have:=I i d;unfold ah at this;rw[List.getD_eq_getElem?_getD,List.getElem?_eq_getElem (by rw[ax]at F ⊢;omega)]at this;simpa using this
    rw[G,u]at k;rw[G]at hd;refine Fair.step (Fy f h0 fun i d=> ?_) h0 k;rw[si hd (by rw[u];exact d)];unfold ah;rw[List.getD_eq_getElem?_getD,List.getElem?_take,if_pos d,List.getElem?_drop,List.getD_eq_getElem?_getD]
  ·rw[List.drop_eq_nil_of_le (by rw[ax];omega)]at h;simpa using h
theorem Fair.quote{t r:List Int}{s:ByteArray}{q:Nat}(j:iB (ints s)=none)(m:t.drop q=quote (ints s)++r)(h:Fair t (q+(quote (ints s)).length)):Fair t q:=by
 unfold Go.Proofs.YtldkblgclochjaaGreatDoor.quote at m h;have u:t.drop q= [34]++((ints s).flatMap aG++([34]++r)):=by rw[m];simp
 have k:=jN u;have f:=jN k;refine Fair.uL [34] _ q (by intro c d;simp at d;omega) u ?_;unfold iB at j;rw[ax]at j;refine Fair.flat s s.size 0 (q+1) _ (by omega) j (by simpa using k) ?_;refine Fair.uL [34] r _ (by intro c d;simp at d;omega) (by simpa using f) ?_;simp only[List.length_cons,List.length_append,List.drop_zero,List.length_nil]at h ⊢;rw[show q+1+((ints s).flatMap aG).length+(0+1)=q+(((ints s).flatMap aG).length+(0+1)+1) by omega];exact h
def Pure(l:List Int):Prop:=∀(t r:List Int) (q:Nat),t.drop q=l++r->Fair t (q+l.length)->Fair t q
theorem Pure.nil:Pure []:=fun _ _ _ _ h=>by simpa using h
theorem Pure.app{a b:List Int}(d:Pure a)(f:Pure b):Pure (a++b):=fun t r q c h=>by
 rw[List.append_assoc]at c;rw[List.length_append,<-Nat.add_assoc]at h;exact d t _ q c (f t r _ (jN c) h)
theorem Pure.uL{l:List Int}(h:∀c∈l,0<=c/\c<128):Pure l:=fun _ r q d f=>Fair.uL l r q h d f
theorem Pure.text{s:ByteArray}(h:letters s=true):Pure (quote (ints s)):=fun _ _ _ c d=>Fair.quote (Option.isNone_iff_eq_none.1 h) c d
theorem Pure.one{c:Int}(h:0<=c/\c<128):Pure [c]:=Pure.uL fun x d=>by rw[List.mem_singleton.1 d];exact h
theorem Pure.cons{c:Int}{l:List Int}(h:0<=c/\c<128)(d:Pure l):Pure (c::l):=(Pure.one h).app d
theorem Cy(b:Bool):Pure (if b then []else [44]):=by
 cases b
 ·exact Pure.one (by decide)
 ·exact Pure.nil
theorem Fz:∀(l:List J) (b:Bool),(∀j∈l,Pure (aY j))->Pure (gM b l)
 | [],b,_=>by rw[gM];exact Pure.nil
 | j::r,b,h=>by
  rw[iw];exact(Cy b).app ((h j (List.mem_cons_self ..)).app (Fz r false fun x c=>h x (List.mem_cons_of_mem _ c)))
theorem uM:letters aH=true:=by decide
theorem Ew{ks:List ByteArray}(h:∀k∈ks,letters k=true):letters (ks.headD aH)=true:=by
 cases ks with
 | nil=>exact uM
 | cons k r=>exact h k (List.mem_cons_self ..)
theorem Cz:∀(l:List J) (ks:List ByteArray) (b:Bool),(∀k∈ks,letters k=true)->(∀j∈l,Pure (aY j))->Pure (gG b ks l)
 | [],ks,b,_,_=>by rw[gG];exact Pure.nil
 | j::r,ks,b,hk,h=>by
  rw[iZ];exact(Cy b).app ((Pure.text (Ew hk)).app (Pure.cons (by decide) ((h j (List.mem_cons_self ..)).app (Cz r ks.tail false (fun k d=>hk k (List.mem_of_mem_tail d)) fun x c=>h x (List.mem_cons_of_mem _ c)))))
theorem VR{c:Int}(h:df c=true):0<=c/\c<128:=by
 unfold df at h;simp only[Bool.and_eq_true,decide_eq_true_eq]at h;omega
theorem CB(n:Int):∀c∈vU n,0<=c/\c<128:=by
 intro c d;unfold vU Lib.itoa at d
 split at d
 ·rw[List.map_cons]at d
  rcases List.mem_cons.1 d with rfl| d
  ·decide
  ·exact VR (xR _ c d)
 ·exact VR (xR _ c d)
theorem JN:∀(d:Nat) (j:J),goodJ d j=true->Pure (aY j)
 | 0,j,h=>by unfold goodJ at h;cases h
 | d+1,.mk k i t ks l,h=>by
  obtain⟨z,A,E⟩:=iF h;have m:∀x∈l,Pure (aY x):=fun x u=>JN d x (List.all_eq_true.1 z x u);rw[goodJ,Bool.and_eq_true]at h;have h2:=h.2;rw[aY]
  split
  ·exact Pure.uL (by intro c f;simp at f;omega)
  ·rename_i k0;rw[if_neg k0]at h2
   split
   ·split<;>exact Pure.uL (by intro c f;simp at f;omega)
   ·rename_i k1;rw[if_neg k1]at h2
    split
    ·exact Pure.uL (CB i)
    ·rename_i k2;rw[if_neg k2]at h2
     split
     ·rename_i k3;rw[if_pos k3]at h2;exact Pure.text h2
     ·rename_i k3;rw[if_neg k3]at h2
      split
      ·exact Pure.cons (by decide) ((Fz l true m).app (Pure.one (by decide)))
      ·rename_i k4;rw[if_neg k4]at h2
       split
       ·rename_i k5;rw[if_pos k5]at h2;simp only[Bool.and_eq_true]at h2;exact Pure.cons (by decide) ((Cz l ks true (List.all_eq_true.1 h2.1.2.1) m).app (Pure.one (by decide)))
       ·exact Pure.nil
theorem Sw{d:Nat}{j:J}(h:goodJ d j=true):iB (aY j)=none:=by
 unfold iB;exact JN d j h (aY j) [] 0 (by simp) (Fair.end (by omega)) _
theorem NK{j:J}(c:goodJ 12 j=true)(d:(aY (ord j)).length<=16384):decode (aY (ord j))=.ok (ord j) (aY (ord j)).length:=by
 unfold decode;rw[if_neg (by omega),Sw (ig 12 j c)];exact Su c
def Bytes(l:List Int):Prop:=∀c∈l,0<=c/\c<=255
theorem Bytes.nil:Bytes []:=fun _ h=>by cases h
theorem Bytes.app{a b:List Int}(f:Bytes a)(h:Bytes b):Bytes (a++b):=fun c d=>(List.mem_append.1 d).elim (f c) (h c)
theorem Bytes.cons{c:Int}{l:List Int}(h:0<=c/\c<=255)(f:Bytes l):Bytes (c::l):=fun x d=>by
 rcases List.mem_cons.1 d with rfl| d
 ·exact h
 ·exact f x d
theorem NL(s:ByteArray):Bytes (ints s):=fun c d=>by
 unfold ints at d;obtain⟨x,_,rfl⟩:=List.mem_map.1 d;have:=x.toNat_lt;omega
theorem JO(s:ByteArray):Bytes (quote (ints s)):=by
 unfold quote;refine Bytes.cons (by decide) (Bytes.app (fun c d=> ?_) (Bytes.cons (by decide) Bytes.nil));obtain⟨x,f,d⟩:=List.mem_flatMap.1 d;exact(Cr (NL s x f)).1 c d
theorem JP(b:Bool):Bytes (if b then []else [44]):=by
 cases b
 ·exact Bytes.cons (by decide) Bytes.nil
 ·exact Bytes.nil
theorem Qn:∀(l:List J) (b:Bool),(∀j∈l,Bytes (aY j))->Bytes (gM b l)
 | [],b,_=>by rw[gM];exact Bytes.nil
 | j::r,b,h=>by
  rw[iw];exact(JP b).app ((h j (List.mem_cons_self ..)).app (Qn r false fun x c=>h x (List.mem_cons_of_mem _ c)))
theorem Qo:∀(l:List J) (ks:List ByteArray) (b:Bool),(∀j∈l,Bytes (aY j))->Bytes (gG b ks l)
 | [],ks,b,_=>by rw[gG];exact Bytes.nil
 | j::r,ks,b,h=>by
  rw[iZ];exact(JP b).app ((JO _).app (Bytes.cons (by decide) ((h j (List.mem_cons_self ..)).app (Qo r ks.tail false fun x c=>h x (List.mem_cons_of_mem _ c)))))
theorem CE:∀(d:Nat) (j:J),goodJ d j=true->Bytes (aY j)
 | 0,j,h=>by unfold goodJ at h;cases h
 | d+1,.mk k i t ks l,h=>by
  obtain⟨z,_,_⟩:=iF h;have m:∀x∈l,Bytes (aY x):=fun x u=>CE d x (List.all_eq_true.1 z x u);rw[aY]
  split
  ·intro c f;simp at f;omega
  ·split
   ·split<;>(intro c f;simp at f;omega)
   ·split
    ·intro c f;have:=CB i c f;omega
    ·split
     ·exact JO t
     ·split
      ·exact Bytes.cons (by decide) ((Qn l true m).app (Bytes.cons (by decide) Bytes.nil))
      ·split
       ·exact Bytes.cons (by decide) ((Qo l ks true m).app (Bytes.cons (by decide) Bytes.nil))
       ·exact Bytes.nil
theorem zbL{w w':World}{j:J}{v:Value}(d:goodJ 12 j=true)(h:w'.ownsRow w.heap.size 5 1 v (aY (ord j)).length ((aY (ord j)).map (Value.int .u8))):∃q c,v=.slice q (aY (ord j)).length c/\Rd w'.heap.size w' q c (aY (ord j)):=
 M3 h (CE 12 (ord j) (ig 12 j d))
theorem mM(n:Int)(h0:0<=n)(w:World):Calls Tryz.prog 106 #[.int .i64 n] w fun x w'=>x=.returned (.bool (dY n))/\w=w':=by
 by_cases h1:n<=1114111
 ·by_cases h2:n<55296
  ·have c:Hid (dY n=true):=by show _=_;unfold dY;simp[h1,h2]
   go_enter Tryz.func106,Tryz.ntmps106;go_wp2;go_ret;refine⟨ak ?_,rfl⟩
   first| exact c.out.symm| (rw[c.out];simp;omega)
  ·have c:Hid (dY n=decide (57344<=n)):=by show _=_;unfold dY;simp[h1,h2]
   go_enter Tryz.func106,Tryz.ntmps106;go_wp2;go_ret;refine⟨ak ?_,rfl⟩;rw[c.out,decide_eq_decide];omega
 ·have c:Hid (dY n=false):=by show _=_;unfold dY;simp[h1]
  go_enter Tryz.func106,Tryz.ntmps106;go_wp2;go_ret;refine⟨ak ?_,rfl⟩
  first| exact c.out.symm| (rw[c.out];simp;omega)
def Runes:Prop:=∀(s:ByteArray) (p:Nat) (w:World),p<s.size->s.size<=1000000000→
 Calls Tryz.prog 71 #[.string s,.int .i64 p] w fun x w'=>x=.returned (.tuple #[.int .i64 (bJ (ints s) p).1,.int .i64 ((bJ (ints s) p).2:Nat)])/\w=w'
def FB(r:Option Nat):Int:=match r with
 | none=> -1
 | some p=>p
theorem G_(V:Runes)(s:ByteArray)(w:World)(I:s.size<=1000000000):Calls Tryz.prog 30 #[.string s] w fun x w'=>x=.returned (.int .i64 (FB (iB (ints s))))/\w=w':=by
 go_enter Tryz.func30,Tryz.ntmps30;go_wp2
 go_loopw [3] (fun i wr=>∃(p m:Nat),i=.int .i64 p/\p<=s.size+4/\s.size<=p+m/\strayL (ints s) m p=iB (ints s)/\wr=w) (fun i _=>s.size - (intOf i).toNat)
 case atStart=>exact⟨0,s.size,rfl,by omega,by omega,by unfold iB;rw[ax],rfl⟩
 case round=>
  obtain⟨p,m,rfl,A,H,k,rfl⟩:=hrel;have d:Hid (strayL (ints s) m p=iB (ints s)):=k;clear k
  by_cases h:p<s.size
  ·have G:(p:Int)<(s.size:Int):=by omega
   have f:=V s p wr h I;obtain⟨m,rfl⟩:∃F,m=F+1:=⟨m - 1,by omega⟩;unfold strayL at d;rw[ax,if_pos h]at d;have u:=BL (ints s) p;obtain⟨⟨c,wd⟩,j⟩:∃r,bJ (ints s) p=r:=⟨_,rfl⟩;rw[j]at d f u;simp only at d f u;clear j
   by_cases h0:wd=0
   ·subst h0;rw[if_pos rfl]at d;go_wp2_with(go_at_call 71;refine f.mono ?_;rintro x w' ⟨rfl,rfl⟩);go_ret;rw[<-d.out];exact⟨rfl,rfl⟩
   ·rw[if_neg h0]at d;have z:(wd:Int)≠0:=by omega
    go_wp2_with(go_at_call 71;refine f.mono ?_;rintro x w' ⟨rfl,rfl⟩);go_roundw
    case rel=>exact⟨p+wd,m,by go_num,by omega,by omega,d.out,trivial⟩
    case measure=>simp[intOf];omega
  ·go_wp2;go_ret;have E:strayL (ints s) m p=none:=by
    cases m with
    | zero=>rfl
    | succ m=>unfold strayL;rw[ax,if_neg h]
   rw[<-d.out,E];exact⟨rfl,rfl⟩
theorem eF{B:Nat}{a b c:World}(h:Below B a b)(d:B<=b.heap.size)(g:Below b.heap.size b c):Below B a c:=h.trans ⟨g.os,g.tape,g.output,g.size,fun k f=>g.block k (by omega)⟩
theorem VS{ks:List ByteArray}{m:Nat}(c:m<ks.length):ks.getD m aH=ks[m]:=by
 rw[List.getD_eq_getElem?_getD,List.getElem?_eq_getElem c];rfl
theorem Bo:∀(d e:Nat) (j:J),d<=e->szJ e j=true->szJ d j=true
 | 0,_,_,_,_=>by unfold szJ;rfl
 | d+1,0,_,h,_=>by omega
 | d+1,e+1,.mk k i t ks l,h,hs=>by
  unfold szJ at hs ⊢;simp only[Bool.and_eq_true]at hs ⊢;refine⟨hs.1,hs.2.1,hs.2.2.1,hs.2.2.2.1, ?_⟩;rw[List.all_eq_true];intro x c;exact Bo d e x (by omega) (List.all_eq_true.1 hs.2.2.2.2 x c)
def dX(j:J):J:=if goodJ 12 j=true then ord j else J.zero
theorem ZI{w:World}(o1 o2:Obj):((w.alloc o1).alloc o2).heap[w.heap.size+1]?=some o2:=by
 have:=heap_alloc_new (w.alloc o1) o2;simpa using this
theorem Ai{w c w3:World}(h:Below w.heap.size w c)(d:ag (One (w.heap.size+1)) c w3):Below w.heap.size w w3:=
 h.trans (d.below h.size fun k f e=>by unfold One at e;omega)
end Go.Proofs.YtldkblgclochjaaGreatDoor
namespace Go.Proofs.YtldkblgclochjaaGreatDoor.Id
def num(c:Int):Int:=
 if 65<=c/\c<=90 then c - 65 else if 97<=c/\c<=122 then c - 71 else if 48<=c/\c<=57 then c+4
 else if c=43 then 62 else if c=47 then 63 else -1
def cZ(c:Int):Int:=if 0<=num c then num c else 0
def isLet(c:Int):Bool:=decide (0<=num c)
def Qp(n:Int):Int:=
 if n<26 then n+65 else if n<52 then n+71 else if n<62 then n - 4 else if n=62 then 43 else 47
theorem NM(c:Int):num c<=63:=by unfold num;(repeat' split);all_goals omega
theorem zbM(c:Int): -1<=num c:=by unfold num;(repeat' split);all_goals omega
theorem fq(c:Int):0<=cZ c:=by unfold cZ;split<;>omega
theorem ft(c:Int):cZ c<=63:=by have:=NM c;unfold cZ;split<;>omega
theorem ZJ(c:Int)(h:0<=num c):Qp (num c)=c:=by
 unfold num at h ⊢;unfold Qp
 (repeat' split);all_goals omega
theorem ZK(n:Int)(h0:0<=n)(h1:n<=63):num (Qp n)=n:=by
 unfold Qp num
 (repeat' split);all_goals omega
def v_(n:Int):Int:=if n<=1 then 0 else n - 1
theorem ZL(n:Int)(h1:n<=4):0<=v_ n/\v_ n<=3:=by unfold v_;split<;>omega
def ints(s:ByteArray):List Int:=s.data.toList.map fun c=>(c.toNat:Int)
theorem ax(s:ByteArray):(ints s).length=s.size:=by simp[ints]
theorem dS(s:ByteArray)(k:Nat)(h:k<s.size):(ints s).getD k 0=(s[k].toNat:Int):=by
 have c:k<s.data.toList.length:=by simpa using h
 simp only[ints,List.getD_eq_getElem?_getD,List.getElem?_map,List.getElem?_eq_getElem c,Option.map_some,Option.getD_some]
 rfl
theorem nR(s:ByteArray):∀x∈ints s,0<=x/\x<=255:=by
 intro x d;simp only[ints,List.mem_map]at d;obtain⟨c,_,rfl⟩:=d;have:=c.toNat_lt;omega
theorem lH(s:ByteArray)(k:Nat):ints (s.extract k s.size)=(ints s).drop k:=by
 simp only[ints,ByteArray.data_extract,Array.toList_extract,List.extract_eq_take_drop,List.map_take,List.map_drop];rw[List.take_of_length_le];have:(List.drop k (List.map (fun c:UInt8=>(c.toNat:Int)) s.data.toList)).length=s.size - k:=by simp
 omega
def tX(zs:List Int):Int:=
 if zs.length % 4=2 then cZ (zs.getD (zs.length - 1) 0) % 16 else if zs.length % 4=3 then cZ (zs.getD (zs.length - 1) 0) % 4 else 0
def CF(zs:List Int):Nat:=(zs.takeWhile isLet).length
def pR(zs:List Int):Int×Int:=
 if CF zs<zs.length then(20,CF zs)else if zs.length % 4=1 then(22,zs.length)else if tX zs≠0 then(21,zs.length - 1)else(0,0)
theorem VT(c:List Int)(h:(pR c).1=0):CF c=c.length/\c.length % 4≠1/\tX c=0:=by
 have d:CF c<=c.length:=(List.takeWhile_sublist _).length_le;unfold pR at h
 split at h
 ·simp at h
 split at h
 ·simp at h
 split at h
 ·simp at h
 ·exact⟨by omega,by assumption,by simp_all⟩
theorem Qq(c:List Int)(k:Nat)(f:k<c.length)(h:∀j,j<k->isLet (c.getD j 0)=true)(d:isLet (c.getD k 0)=false):CF c=k:=by
 induction c generalizing k with
 | nil=>simp at f
 | cons z r ih=>
  cases k with
  | zero=>simp at d;simp[CF,d]
  | succ k=>
   have h0:=h 0 (by omega);simp at h0;have:=ih k (by simpa using f) (fun j m=>by have:=h (j+1) (by omega);simpa using this) (by simpa using d);simp only[CF,List.takeWhile_cons,h0,if_true,List.length_cons]at this ⊢;omega
theorem JQ(c:List Int)(h:∀j,j<c.length->isLet (c.getD j 0)=true):CF c=c.length:=by
 induction c with
 | nil=>rfl
 | cons z r ih=>
  have h0:=h 0 (by simp);simp at h0;have:=ih (fun j d=>by have:=h (j+1) (by simpa using d);simpa using this);simp only[CF,List.takeWhile_cons,h0,if_true,List.length_cons]at this ⊢;omega
def dec:List Int->List Int
 | []=> []
 | [_]=> []
 | [a,b]=> [cZ a*4+cZ b / 16]
 | [a,b,c]=> [cZ a*4+cZ b / 16,cZ b % 16*16+cZ c / 4]
 | a::b::c::d::r=>(cZ a*4+cZ b / 16)::(cZ b % 16*16+cZ c / 4)::(cZ c % 4*64+cZ d)::dec r
theorem VU(f:List Int)(m:Nat)(a b c d:Int)(G:1<=m)(h:m+1=min f.length 4)(k:f.getD 0 0=a)(E:f.getD 1 0=b)(j:f.getD 2 0=c)(A:f.getD 3 0=d):
    dec f= [cZ a*4+cZ b / 16,cZ b % 16*16+cZ c / 4,cZ c % 4*64+cZ d].take m++dec (f.drop (m+1)):=by
 match f with
 | []=>simp at h
 | [_]=>simp at h;omega
 | [x,y]=>simp at k E j A h;subst k E j A h;simp[dec]
 | [x,y,z]=>simp at k E j A h;subst k E j A h;simp[dec]
 | x::y::z::u::r=>
  simp at k E j A;have F:m=3:=by simp at h;omega
  subst k E j A F;simp[dec]
theorem xg(f:List Int):((dec f).length:Int)=(f.length:Int) / 4*3+v_ ((f.length:Int) % 4):=by
 induction f using dec.induct with
 | case1=>rfl
 | case2 a=>simp[dec,v_]
 | case3 a b=>simp[dec,v_]
 | case4 a b c=>simp[dec,v_]
 | case5 a b c d r ih=>
  simp only[dec,List.length_cons,v_]at ih ⊢
  repeat' split at ih
  all_goals (repeat' split);all_goals omega
theorem ZM(c:List Int)(h:c.length % 4≠1):0<(dec c).length↔0<c.length:=by
 have h1:=xg c;unfold v_ at h1
 split at h1<;>omega
theorem zbN(h:List Int):∀x∈dec h,0<=x/\x<=255:=by
 induction h using dec.induct with
 | case1=>intro x f;simp[dec]at f
 | case2 a=>intro x f;simp[dec]at f
 | case3 a b=>
  have:=fq a;have:=ft a;have:=fq b;have:=ft b;intro x f;simp only[dec,List.mem_cons,List.not_mem_nil,or_false]at f;omega
 | case4 a b c=>
  have:=fq a;have:=ft a;have:=fq b;have:=ft b;have:=fq c;have:=ft c;intro x f;simp only[dec,List.mem_cons,List.not_mem_nil,or_false]at f;omega
 | case5 a b c d r ih=>
  have:=fq a;have:=ft a;have:=fq b;have:=ft b;have:=fq c;have:=ft c;have:=fq d;have:=ft d;intro x f;simp only[dec,List.mem_cons]at f
  rcases f with f| f| f| f
  ·omega
  ·omega
  ·omega
  ·exact ih x f
end Go.Proofs.YtldkblgclochjaaGreatDoor.Id
namespace Go.Proofs.YtldkblgclochjaaGreatDoor.Id
open Go.RowKit
theorem mW{k:IntKind}{a b:Int}(h:a=b):Ending.returned (.int k a)=.returned (.int k b):=by rw[h]
theorem ZN{a b:Int}{p q:Bool}(h:a=b)(c:p=q):Ending.returned (.tuple #[.int .u32 a,.bool p])=.returned (.tuple #[.int .u32 b,.bool q]):=by rw[h,c]
theorem Aj(n:Int)(w:World)(h0:0<=n)(h1:n<=4):
    Calls Tryz.prog 155 #[.int .i64 n] w fun e w'=>e=.returned (.int .i64 (v_ n))/\w=w':=by
 go_enter Tryz.func155,Tryz.ntmps155;go_wp2
 all_goals
  go_ret;exact⟨mW (by unfold v_;split<;>omega),rfl⟩
theorem JR(m:Int)(w:World)(h0:1<=m)(h1:m<=3):
    Calls Tryz.prog 155 #[.int .i64 (m+1)] w fun e w'=>e=.returned (.int .i64 m)/\w=w':=by
 have h:=Aj (m+1) w (by omega) (by omega);have e:v_ (m+1)=m:=by unfold v_;rw[if_neg (by omega)];omega
 rw[e]at h;exact h
theorem zf9(c:Int)(n:Int)(b:Bool)(h:num c=if b then n else -1)(h0:0<=n)(d:b=false->n=0):n=cZ c/\b=isLet c:=by
 cases b
 ·simp[cZ,isLet,h,d rfl]
 ·simp[cZ,isLet,h,h0]
theorem kU(c:Int)(w:World)(h0:0<=c)(h1:c<=255):
    Calls Tryz.prog 168 #[.int .u8 c] w fun e w'=>e=.returned (.tuple #[.int .u32 (cZ c),.bool (isLet c)])/\w=w':=by
 by_cases f:c=43
 ·subst f;go_enter Tryz.func168,Tryz.ntmps168;go_wp2;go_ret2;exact⟨rfl,rfl⟩
 by_cases d:c=47
 ·subst d;go_enter Tryz.func168,Tryz.ntmps168;go_wp2;go_ret2;exact⟨rfl,rfl⟩
 go_enter Tryz.func168,Tryz.ntmps168;go_wp2
 all_goals
  go_ret2;refine⟨(fun h=>ZN h.1 h.2) (zf9 c _ _ (by unfold num;(repeat' split);all_goals first| omega| (simp_all;done)| (simp_all;omega)) (by first| omega| simp) (by simp)),rfl⟩
theorem ak{a b:Bool}(h:a=b):Ending.returned (.bool a)=.returned (.bool b):=by rw[h]
theorem pg(s:ByteArray)(c:Int)(w:World):
    Calls Tryz.prog 167 #[.string s,.int .u8 c] w fun e w'=>e=.returned (.int .i64 (Lib.indexByte s.data.toList c.toNat.toUInt8))/\w=w':=by
 go_enter Tryz.func167,Tryz.ntmps167;go_wp2;rw[run_callFunc_extern Tryz.func188 (by kernel_rfl) (by kernel_rfl) (by kernel_rfl) (e:=Extern.BytealgIndexByte.indexByte) (by kernel_rfl),Lib.run_indexByteString];simp only[Result.andThen];rw[Oper.upon_value];go_wp2;go_ret;exact⟨rfl,rfl⟩
theorem Ex(s:ByteArray)(c:Int)(w:World):
    Calls Tryz.prog 152 #[.string s,.int .u8 c] w fun e w'=>e=.returned (.int .i64 (Lib.indexByte s.data.toList c.toNat.toUInt8))/\w=w':=by
 go_enter Tryz.func152,Tryz.ntmps152;go_wp2_with(go_at_call 167;refine(pg _ _ _).mono ?_;rintro e w' ⟨rfl,rfl⟩);go_ret;exact⟨rfl,rfl⟩
def kind(o:List UInt8)(c:Int):Bool:=(decide (97<=c)&&decide (c<=122)) || (decide (48<=c)&&decide (c<=57)) || decide (0<=Lib.indexByte o c.toNat.toUInt8)
theorem CG(o:ByteArray)(c:Int)(B:Nat)(w:World)(d:w.cell? ⟨B,0,none⟩=some (.string o))(h0:0<=c)(h1:c<=255):
    Calls Tryz.prog 151 #[.int .u8 c,.pointer (some ⟨B,0,none⟩)] w fun e w'=>e=.returned (.bool (kind o.data.toList c))/\w=w':=by
 go_enter Tryz.func151,Tryz.ntmps151;go_wp2_with(go_at_call 152;refine(Ex _ _ _).mono ?_;rintro e w' ⟨rfl,rfl⟩)
 all_goals
  go_ret;refine⟨ak ?_,rfl⟩;unfold kind;rw[Bool.eq_iff_iff];simp;omega
def jR(k:Int->Bool)(m:Int)(s:ByteArray):Bool:=decide (1<=s.size)&&decide ((s.size:Int)<=m)&&(ints s).all k
theorem pn(k:Int->Bool)(m:Int)(s:ByteArray)(h:m<s.size):jR k m s=false:=by
 unfold jR;simp;omega
theorem pq(k:Int->Bool)(m:Int)(s:ByteArray)(h:s.size=0):jR k m s=false:=by
 unfold jR;simp[h]
theorem sj(k:Int->Bool)(m:Int)(s:ByteArray)(h:1<=s.size)(u:(s.size:Int)<=m)(f:∀j,j<s.size->k ((ints s).getD j 0)=true):jR k m s=true:=by
 unfold jR;simp only[h,u,decide_true,Bool.true_and,List.all_eq_true];intro x d;obtain⟨i,c,rfl⟩:=List.mem_iff_getElem.1 d;have:=f i (by rw[<-ax];exact c);rw[List.getD_eq_getElem?_getD,List.getElem?_eq_getElem c]at this;exact this
theorem sw(k:Int->Bool)(m:Int)(s:ByteArray)(j:Nat)(f:j<s.size)(d:k ((ints s).getD j 0)=false):jR k m s=false:=by
 unfold jR;have c:j<(ints s).length:=by rw[ax];exact f
 have:(ints s).all k=false:=by
  rw[List.all_eq_false];refine⟨(ints s)[j],List.getElem_mem c, ?_⟩;rw[List.getD_eq_getElem?_getD,List.getElem?_eq_getElem c]at d;simpa using d
 rw[this];simp
theorem CJ(s o:ByteArray)(m:Int)(B:Nat)(w:World)(K:s.size<=140737488351232)(d:w.cell? ⟨B,0,none⟩=some (.string o)):
    Calls Tryz.prog 127 #[.string s,.int .i64 m,.func (.func 151) #[] #[.pointer (some ⟨B,0,none⟩)]] w fun e w'=>e=.returned (.bool (jR (kind o.data.toList) m s))/\w=w':=by
 by_cases G:s.size=0
 ·have z:(s.size:Int)=0:=by omega
  go_enter Tryz.func127,Tryz.ntmps127;go_wp2;go_ret;exact⟨ak (pq _ _ _ G).symm,rfl⟩
 by_cases F:m<(s.size:Int)
 ·go_enter Tryz.func127,Tryz.ntmps127;go_wp2;go_ret;exact⟨ak (pn _ _ _ F).symm,rfl⟩
 go_enter Tryz.func127,Tryz.ntmps127;go_wp2
 go_loop [19] (fun i=>∃k:Nat,k<=s.size/\i=.int .i64 k/\∀j,j<k->kind o.data.toList ((ints s).getD j 0)=true) (fun i=>s.size - (intOf i).toNat)
 case atStart=>exact⟨0,Nat.zero_le _,rfl,fun j A=>by omega⟩
 case round=>
  obtain⟨k,I,rfl,x⟩:=hrel;have f:Hid (∀j,j<k->kind o.data.toList ((ints s).getD j 0)=true):=x;clear x
  by_cases h:k<s.size
  ·have u:Hid ((ints s).getD k 0=(s[k].toNat:Int)):=dS s k h;have H:(s[k].toNat:Int)<=255:=by have:=s[k].toNat_lt;omega
   by_cases c:kind o.data.toList (s[k].toNat:Int)=true
   ·go_wp2_with(go_at_call 151;refine(CG o _ B _ d (by omega) (by omega)).mono ?_;rintro e w' ⟨rfl,rfl⟩)
    go_round
    case rel=>exact⟨k+1,by omega,by go_num,fun j A=>by
                          by_cases e:j=k
                          ·rw[e,u.out];exact c
                          ·exact f.out j (by omega)⟩
    case measure=>simp[intOf];omega
   ·have E:kind o.data.toList (s[k].toNat:Int)=false:=by simpa using c
    clear c;go_wp2_with(go_at_call 151;refine(CG o _ B _ d (by omega) (by omega)).mono ?_;rintro e w' ⟨rfl,rfl⟩);go_ret;exact⟨ak (sw _ _ _ k h (by rw[u.out];exact E)).symm,rfl⟩
  ·obtain rfl:k=s.size:=by omega
   go_wp2;go_ret;exact⟨ak (sj _ _ _ (by omega) (by omega) f.out).symm,rfl⟩
def small(c:Int):Bool:=(decide (97<=c)&&decide (c<=122)) || (decide (48<=c)&&decide (c<=57)) || decide (c=46)
def CK(c:Int):Bool:=small c || decide (c=45)
def ze(c:Int):Bool:=small c || decide (c=45) || decide (c=95)
def CL(c:Int):Bool:=small c || decide (c=95)
def Ha(s:ByteArray):Bool:=jR CK 32 s
def loc(s:ByteArray):Bool:=jR ze 32 s
def aU(s:ByteArray):Bool:=jR CL 64 s
theorem VV:∀n:Fin 256,kind [46,45] (n.val:Int)=CK n.val:=by decide+kernel
theorem VW:∀n:Fin 256,kind [46,95,45] (n.val:Int)=ze n.val:=by decide+kernel
theorem VX:∀n:Fin 256,kind [46,95] (n.val:Int)=CL n.val:=by decide+kernel
theorem sD{k f:Int->Bool}(h:∀n:Fin 256,k (n.val:Int)=f n.val)(m:Int)(s:ByteArray):jR k m s=jR f m s:=by
 unfold jR
 congr 1
 rw[Bool.eq_iff_iff,List.all_eq_true,List.all_eq_true]
 constructor<;>intro d x c
 ·have j:=nR s x c;have:=h ⟨x.toNat,by omega⟩;have e:((x.toNat:Nat):Int)=x:=by omega
  rw[e]at this;rw[<-this];exact d x c
 ·have j:=nR s x c;have:=h ⟨x.toNat,by omega⟩;have e:((x.toNat:Nat):Int)=x:=by omega
  rw[e]at this;rw[this];exact d x c
theorem CO(w:World)(v:Value)(t:Nat):(w.alloc (.cells #[v] t)).cell? ⟨w.heap.size,0,none⟩=some v:=
 World.cell?_alloc_at _ _ _ _ rfl
theorem sF(o:ByteArray)(w:World):
    Calls Tryz.prog 128 #[.string o] w fun e w'=>e=.returned (.func (.func 151) #[] #[.pointer (some ⟨w.heap.size,0,none⟩)])/\w'=w.alloc (.cells #[.string o] 9):=by
 go_enter Tryz.func128,Tryz.ntmps128;go_wp2;go_ret;exact⟨rfl,rfl⟩
theorem xh(s:ByteArray)(w:World)(d:s.size<=140737488351232):
    Calls Tryz.prog 99 #[.string s] w fun e w'=>e=.returned (.bool (Ha s))/\Below w.heap.size w w':=by
 have c:=CO w (.string ⟨#[46,45]⟩) 9;go_enter Tryz.func99,Tryz.ntmps99;go_wp2_with(first
  | (go_at_call 128;refine(sF _ _).mono ?_;rintro e w' ⟨rfl,rfl⟩)
  | (go_at_call 127;refine(CJ s _ 32 _ _ d c).mono ?_;rintro e w' ⟨rfl,rfl⟩))
 go_ret;exact⟨ak (sD VV 32 s),(Below.refl _ _).alloc (Nat.le_refl _) _⟩
theorem zf(s:ByteArray)(w:World)(d:s.size<=140737488351232):
    Calls Tryz.prog 150 #[.string s] w fun e w'=>e=.returned (.bool (loc s))/\Below w.heap.size w w':=by
 have c:=CO w (.string ⟨#[46,95,45]⟩) 9;go_enter Tryz.func150,Tryz.ntmps150;go_wp2_with(first
  | (go_at_call 128;refine(sF _ _).mono ?_;rintro e w' ⟨rfl,rfl⟩)
  | (go_at_call 127;refine(CJ s _ 32 _ _ d c).mono ?_;rintro e w' ⟨rfl,rfl⟩))
 go_ret;exact⟨ak (sD VW 32 s),(Below.refl _ _).alloc (Nat.le_refl _) _⟩
theorem VY(s:ByteArray)(w:World)(d:s.size<=140737488351232):
    Calls Tryz.prog 95 #[.string s] w fun e w'=>e=.returned (.bool (aU s))/\Below w.heap.size w w':=by
 have c:=CO w (.string ⟨#[46,95]⟩) 9;go_enter Tryz.func95,Tryz.ntmps95;go_wp2_with(first
  | (go_at_call 128;refine(sF _ _).mono ?_;rintro e w' ⟨rfl,rfl⟩)
  | (go_at_call 127;refine(CJ s _ 64 _ _ d c).mono ?_;rintro e w' ⟨rfl,rfl⟩))
 go_ret;exact⟨ak (sD VX 64 s),(Below.refl _ _).alloc (Nat.le_refl _) _⟩
theorem jC(c:Int)(w:World):
    Calls Tryz.prog 84 #[.int .u8 c] w fun e w'=>e=.returned (.bool (small c))/\w=w':=by
 go_enter Tryz.func84,Tryz.ntmps84;go_wp2
 all_goals
  go_ret;refine⟨ak ?_,rfl⟩;unfold small;rw[Bool.eq_iff_iff];simp;omega
def aH:ByteArray:=⟨#[]⟩
def parts(c:Int)(s:ByteArray):ByteArray×ByteArray×Bool:=
 if 0<s.size/\(ints s).getD 0 0=c/\((ints s).drop 1).findIdx (· ==58)+1<s.size/\loc (s.extract 1 (((ints s).drop 1).findIdx (· ==58)+1))=true/\Ha (s.extract (((ints s).drop 1).findIdx (· ==58)+2) s.size)=true
 then(s.extract 1 (((ints s).drop 1).findIdx (· ==58)+1),s.extract (((ints s).drop 1).findIdx (· ==58)+2) s.size,true)else(aH,aH,false)
theorem mO(l:List Int)(j:Nat):(l.drop 1).getD j 0=l.getD (j+1) 0:=by
 simp[List.getD_eq_getElem?_getD]
theorem VZ(l:List Int)(k:Nat)(f:k<l.length)(c:l.getD k 0=58)(d:∀j,j<k->l.getD j 0≠58):l.findIdx (· ==58)=k:=by
 induction l generalizing k with
 | nil=>simp at f
 | cons a l ih=>
  rw[List.findIdx_cons]
  match k with
  | 0=>simp at c;simp[c]
  | k+1=>
   have h0:=d 0 (by omega);simp only[List.getD_cons_zero]at h0;have h1:(a==58)=false:=by simp[h0]
   rw[h1];simp only[cond_false];rw[ih k (by simpa using f) (by simpa using c) (fun j h=>by simpa using d (j+1) (by omega))]
theorem Sy(l:List Int)(c:∀j,j<l.length->l.getD j 0≠58):l.findIdx (· ==58)=l.length:=by
 induction l with
 | nil=>rfl
 | cons a l ih=>
  have h0:=c 0 (by simp);simp only[List.getD_cons_zero]at h0;have h1:(a==58)=false:=by simp[h0]
  rw[List.findIdx_cons,h1];simp only[cond_false];rw[ih (fun j d=>by simpa using c (j+1) (by simpa using d))];simp
theorem ZO(l:List UInt8)(k:Nat)(m:k<l.length)(d:(l.map fun c=>(c.toNat:Int)).getD k 0=58)(f:∀j,j<k->(l.map fun c=>(c.toNat:Int)).getD j 0≠58):Lib.indexByte l 58=k:=by
 induction l generalizing k with
 | nil=>simp at m
 | cons a l ih=>
  unfold Lib.indexByte
  match k with
  | 0=>
   have:a=58:=by
    simp at d;exact UInt8.toNat_inj.1 (by simpa using(by omega:a.toNat=58))
   simp[this]
  | k+1=>
   have h0:=f 0 (by omega);have h1:(a==58)=false:=by
    simp only[List.map_cons,List.getD_cons_zero]at h0;simp only[beq_eq_false_iff_ne,ne_eq];intro h;subst h;exact h0 rfl
   rw[h1,ih k (by simpa using m) (by simpa using d) (fun j u=>by simpa using f (j+1) (by omega))];have h2:((k:Int)== -1)=false:=by simp
   simp[h2]
theorem V3(l:List UInt8)(d:∀j,j<l.length->(l.map fun c=>(c.toNat:Int)).getD j 0≠58):Lib.indexByte l 58= -1:=by
 induction l with
 | nil=>rfl
 | cons a l ih=>
  unfold Lib.indexByte;have h0:=d 0 (by simp);have h1:(a==58)=false:=by
   simp only[List.map_cons,List.getD_cons_zero]at h0;simp only[beq_eq_false_iff_ne,ne_eq];intro h;subst h;exact h0 rfl
  rw[h1,ih (fun j f=>by simpa using d (j+1) (by simpa using f))];simp
theorem FD(c:Int)(s:ByteArray)(k:Nat)(h0:(ints s).getD 0 0=c)(h1:1<=k)(x:k<s.size)(f:(ints s).getD k 0=58)(m:∀j,1<=j->j<k->(ints s).getD j 0≠58):
    parts c s=if loc (s.extract 1 k)=true/\Ha (s.extract (k+1) s.size)=true then(s.extract 1 k,s.extract (k+1) s.size,true)else(aH,aH,false):=by
 have z:((ints s).drop 1).findIdx (· ==58)=k - 1:=by
  refine VZ _ _ (by simp[ax];omega) ?_ fun j E=> ?_
  ·rw[mO,Nat.sub_add_cancel h1];exact f
  ·rw[mO];exact m (j+1) (by omega) (by omega)
 unfold parts;rw[z];have u:k - 1+1=k:=by omega
 have A:k - 1+2=k+1:=by omega
 rw[u,A]
 by_cases d:loc (s.extract 1 k)=true/\Ha (s.extract (k+1) s.size)=true
 ·rw[if_pos d,if_pos ⟨by omega,h0,x,d.1,d.2⟩]
 ·rw[if_neg d,if_neg fun h=>d ⟨h.2.2.2.1,h.2.2.2.2⟩]
theorem pE(c:Int)(s:ByteArray)(h:s.size=0\/ (ints s).getD 0 0≠c\/ ∀j,1<=j->j<s.size->(ints s).getD j 0≠58):parts c s=(aH,aH,false):=by
 unfold parts;rw[if_neg];intro⟨m,f,d,_⟩
 rcases h with h| h| h
 ·omega
 ·exact h f
 ·have:((ints s).drop 1).findIdx (· ==58)=((ints s).drop 1).length:=Sy _ fun j k=>by
    rw[mO];exact h (j+1) (by omega) (by simp[ax]at k;omega)
  rw[this]at d;simp[ax]at d;omega
theorem JS(s:ByteArray):(∃k,1<=k/\k<s.size/\(ints s).getD k 0=58/\∀j,1<=j->j<k->(ints s).getD j 0≠58)\/ ∀j,1<=j->j<s.size->(ints s).getD j 0≠58:=by
 have:∀n,(∃k,1<=k/\k<n/\(ints s).getD k 0=58/\∀j,1<=j->j<k->(ints s).getD j 0≠58)\/ ∀j,1<=j->j<n->(ints s).getD j 0≠58:=by
  intro n
  induction n with
  | zero=>exact .inr fun j _ f=>by omega
  | succ n ih=>
   rcases ih with⟨k,h1,h2,h3,h4⟩| h
   ·exact .inl ⟨k,h1,by omega,h3,h4⟩
   ·by_cases c:1<=n/\(ints s).getD n 0=58
    ·exact .inl ⟨n,c.1,by omega,c.2,h⟩
    ·refine .inr fun j h1 h2=> ?_
     by_cases e:j=n
     ·subst e;exact fun d=>c ⟨h1,d⟩
     ·exact h j h1 (by omega)
 exact this s.size
theorem V4(s:ByteArray)(k:Nat)(h1:1<=k)(c:k<=s.size):(s.extract 1 s.size).extract 0 (k - 1)=s.extract 1 k:=by
 rw[ByteArray.extract_extract]
 congr 1
 omega
theorem NN(s:ByteArray)(k:Nat):(s.extract 1 s.size).extract k (s.extract 1 s.size).size=s.extract (k+1) s.size:=by
 rw[ByteArray.extract_extract];simp
 congr 1
 all_goals omega
theorem below_drewN(w:World):∀n,Below w.heap.size w (w.drewN n)
 | 0=>by rw[World.drewN_zero];exact Below.refl _ _
 | n+1=>by rw[<-World.drew_drewN];exact(below_drewN w n).drew
theorem Sz(l:List UInt8)(h:0<l.length):l.take 1= [l[0]]:=by
 cases l with
 | nil=>simp at h
 | cons a l=>simp
theorem JU(s:ByteArray)(h:0<s.size):(s.extract 0 1).toList= [s[0]]:=by
 rw[Lib.toList_data,ByteArray.data_extract,Array.toList_extract];simp only[List.extract_eq_take_drop,List.drop_zero,Nat.sub_zero];rw[Sz _ (by simpa using h)];simp[ByteArray.getElem_eq_getElem_data]
theorem Ey(s:ByteArray)(c:UInt8)(w:World)(f:s.size<=140737488351232)(h:0<s.size)(d:s[0]=c):
    Calls Tryz.prog 118 #[.string s,.string ⟨#[c]⟩] w fun e w'=>e=.returned (.bool true)/\w=w':=by
 have h1:((s.extract 0 1).toList== [c])=true:=by rw[JU s h,d];simp
 go_enter Tryz.func118,Tryz.ntmps118;go_wp2;go_ret;exact⟨rfl,rfl⟩
theorem Hd(s:ByteArray)(c:UInt8)(w:World)(d:s.size<=140737488351232)(h:∀h:0<s.size,s[0]≠c):
    Calls Tryz.prog 118 #[.string s,.string ⟨#[c]⟩] w fun e w'=>e=.returned (.bool false)/\w=w':=by
 by_cases h0:0<s.size
 ·have h1:((s.extract 0 1).toList== [c])=false:=by rw[JU s h0];simp[h h0]
  go_enter Tryz.func118,Tryz.ntmps118;go_wp2;go_ret;exact⟨rfl,rfl⟩
 ·go_enter Tryz.func118,Tryz.ntmps118;go_wp2;go_ret;exact⟨rfl,rfl⟩
theorem x8(s:ByteArray)(c:UInt8)(w:World)(f:s.size<=140737488351232)(h:0<s.size)(d:s[0]=c):
    Calls Tryz.prog 153 #[.string s,.string ⟨#[c]⟩] w fun e w'=>e=.returned (.tuple #[.string (s.extract 1 s.size),.bool true])/\w=w':=by
 go_enter Tryz.func153,Tryz.ntmps153;go_wp2_with(go_at_call 118;refine(Ey s c _ f h d).mono ?_;rintro e w' ⟨rfl,rfl⟩);go_ret2;exact⟨rfl,rfl⟩
theorem zg(s:ByteArray)(c:UInt8)(w:World)(d:s.size<=140737488351232)(h:∀h:0<s.size,s[0]≠c):
    Calls Tryz.prog 153 #[.string s,.string ⟨#[c]⟩] w fun e w'=>e=.returned (.tuple #[.string s,.bool false])/\w=w':=by
 go_enter Tryz.func153,Tryz.ntmps153;go_wp2_with(go_at_call 118;refine(Hd s c _ d h).mono ?_;rintro e w' ⟨rfl,rfl⟩);go_ret2;exact⟨rfl,rfl⟩
theorem kI(s:ByteArray)(c:UInt8)(w:World)(f:s.size<=140737488351232)(h:0<s.size)(d:s[0]=c):
    Calls Tryz.prog 130 #[.string s,.string ⟨#[c]⟩] w fun e w'=>e=.returned (.tuple #[.string (s.extract 1 s.size),.bool true])/\w=w':=by
 go_enter Tryz.func130,Tryz.ntmps130;go_wp2_with(go_at_call 153;refine(x8 s c _ f h d).mono ?_;rintro e w' ⟨rfl,rfl⟩);go_ret2;exact⟨rfl,rfl⟩
theorem x9(s:ByteArray)(c:UInt8)(w:World)(d:s.size<=140737488351232)(h:∀h:0<s.size,s[0]≠c):
    Calls Tryz.prog 130 #[.string s,.string ⟨#[c]⟩] w fun e w'=>e=.returned (.tuple #[.string s,.bool false])/\w=w':=by
 go_enter Tryz.func130,Tryz.ntmps130;go_wp2_with(go_at_call 153;refine(zg s c _ d h).mono ?_;rintro e w' ⟨rfl,rfl⟩);go_ret2;exact⟨rfl,rfl⟩
theorem index_one(s:ByteArray)(w:World):
    Calls Tryz.prog 187 #[.string s,.string ⟨#[58]⟩] w fun e w'=>e=.returned (.int .i64 (Lib.indexByte s.data.toList 58))/\w=w':=by
 go_enter Tryz.func187,Tryz.ntmps187;go_wp2_with(go_at_call 167;refine(pg _ _ _).mono ?_;rintro e w' ⟨rfl,rfl⟩)
 ·have h:([58]==s.toList)=true:=by assumption
  go_ret;refine⟨?_,rfl⟩;have e:s.data.toList= [58]:=by rw[<-Lib.toList_data];exact(beq_iff_eq.1 h).symm
  rw[e];simp[Lib.indexByte]
 ·go_ret;exact⟨rfl,rfl⟩
theorem NP(t:ByteArray)(w:World)(c:Lib.indexByte t.data.toList 58= -1):
    Calls Tryz.prog 166 #[.string t,.string ⟨#[58]⟩] w fun e w'=>e=.returned (.tuple #[.string t,.string ⟨#[]⟩,.bool false])/\Below w.heap.size w w':=by
 go_enter Tryz.func166,Tryz.ntmps166;go_wp2_with(go_at_call 187;refine(index_one t _).mono ?_;rw[c];rintro e w' ⟨rfl,rfl⟩)
 go_ret3
 exact⟨rfl,Below.refl _ _⟩
theorem zbO(t:ByteArray)(w:World)(d:Lib.indexByte t.data.toList 58= -1):
    Calls Tryz.prog 149 #[.string t,.string ⟨#[58]⟩] w fun e w'=>e=.returned (.tuple #[.string t,.string ⟨#[]⟩,.bool false])/\Below w.heap.size w w':=by
 go_enter Tryz.func149,Tryz.ntmps149;go_wp2_with(go_at_call 166;refine(NP t _ d).mono ?_;rintro e w' ⟨rfl,c⟩)
 go_ret3
 exact⟨rfl,c⟩
theorem JV(t:ByteArray)(k:Nat)(w:World)(f:t.size<=140737488351232)(d:k<t.size)(c:Lib.indexByte t.data.toList 58=k):
    Calls Tryz.prog 166 #[.string t,.string ⟨#[58]⟩] w fun e w'=>e=.returned (.tuple #[.string (t.extract 0 k),.string (t.extract (k+1) t.size),.bool true])/\Below w.heap.size w w':=by
 go_enter Tryz.func166,Tryz.ntmps166;go_wp2_with(go_at_call 187;refine(index_one t _).mono ?_;rw[c];rintro e w' ⟨rfl,rfl⟩);go_quiet (fail);go_wp2
 go_ret3
 exact⟨rfl,below_drewN _ _⟩
theorem ZP(t:ByteArray)(k:Nat)(w:World)(h:t.size<=140737488351232)(c:k<t.size)(f:Lib.indexByte t.data.toList 58=k):
    Calls Tryz.prog 149 #[.string t,.string ⟨#[58]⟩] w fun e w'=>e=.returned (.tuple #[.string (t.extract 0 k),.string (t.extract (k+1) t.size),.bool true])/\Below w.heap.size w w':=by
 go_enter Tryz.func149,Tryz.ntmps149;go_wp2_with(go_at_call 166;refine(JV t k _ h c f).mono ?_;rintro e w' ⟨rfl,d⟩)
 go_ret3
 exact⟨rfl,d⟩
def told(p:ByteArray×ByteArray×Bool):Value:=.tuple #[.string p.1,.string p.2.1,.bool p.2.2]
theorem kJ{a b:ByteArray}{t:Bool}{p:ByteArray×ByteArray×Bool}(h:p=(a,b,t)):Ending.returned (.tuple #[.string a,.string b,.bool t])=.returned (told p):=by rw[h];rfl
theorem V5(a c:UInt8):(a.toNat:Int)=(c.toNat:Int)↔a=c:=by
 constructor
 ·intro h;exact UInt8.toNat_inj.1 (by omega)
 ·intro h;rw[h]
theorem FE(s:ByteArray)(c:UInt8)(w:World)(G:s.size<=140737488351232):
    Calls Tryz.prog 126 #[.string s,.string ⟨#[c]⟩] w fun e w'=>e=.returned (told (parts (c.toNat:Int) s))/\Below w.heap.size w w':=by
 by_cases H:∀h:0<s.size,s[0]≠c
 ·have m:Hid (parts (c.toNat:Int) s=(aH,aH,false)):=by
    refine pE _ _ ?_
    by_cases h0:s.size=0
    ·exact .inl h0
    ·refine .inr (.inl ?_);rw[dS s 0 (by omega),ne_eq,V5];exact H (by omega)
  go_enter Tryz.func126,Tryz.ntmps126;go_wp2_with(go_at_call 130;refine(x9 s c _ G H).mono ?_;rintro e w' ⟨rfl,rfl⟩)
  go_ret3
  exact⟨kJ m.out,Below.refl _ _⟩
 ·obtain⟨h0,A⟩:∃h:0<s.size,s[0]=c:=by simpa using H
  clear H;have hg:(ints s).getD 0 0=(c.toNat:Int):=by rw[dS s 0 h0,A]
  have fI:(s.extract 1 s.size).size<=140737488351232:=by simp;omega
  have f:(s.extract 1 s.size).data.toList.map (fun c=>(c.toNat:Int))=(ints s).drop 1:=lH s 1
  rcases JS s with⟨k,h1,hk,S,Z⟩| F
  ·have K:Lib.indexByte (s.extract 1 s.size).data.toList 58=((k - 1:Nat):Int):=by
     refine ZO _ _ ?_ ?_ fun j U=> ?_
     ·rw[<-Lib.size_eq];simp;omega
     ·rw[f,mO,Nat.sub_add_cancel h1];exact S
     ·rw[f,mO];exact Z (j+1) (by omega) (by omega)
   have hcut:=fun X:World=>ZP (s.extract 1 s.size) (k - 1) X fI (by simp;omega) K;rw[V4 s k h1 (by omega),Nat.sub_add_cancel h1,NN s k]at hcut;have m:Hid (parts (c.toNat:Int) s=if loc (s.extract 1 k)=true/\Ha (s.extract (k+1) s.size)=true then(s.extract 1 k,s.extract (k+1) s.size,true)else(aH,aH,false)):=FD _ s k hg h1 hk S Z;have I:(s.extract 1 k).size<=140737488351232:=by simp;omega
   have z:(s.extract (k+1) s.size).size<=140737488351232:=by simp;omega
   obtain⟨t1,x⟩:∃t,t=s.extract 1 k:=⟨_,rfl⟩;obtain⟨t2,u⟩:∃t,t=s.extract (k+1) s.size:=⟨_,rfl⟩;rw[<-x,<-u]at m hcut;rw[<-x]at I;rw[<-u]at z;clear x u K f Z S
   by_cases T:loc t1=true
   ·by_cases hS:Ha t2=true
    ·go_enter Tryz.func126,Tryz.ntmps126;go_wp2_with(first
      | (go_at_call 130;refine(kI s c _ G h0 A).mono ?_;rintro e w' ⟨rfl,rfl⟩)
      | (go_at_call 149;refine(hcut _).mono ?_;rintro e w1 ⟨rfl,d⟩)
      | (go_at_call 150;refine(zf t1 _ I).mono ?_;rintro e w2 ⟨rfl,E⟩)
      | (go_at_call 99;refine(xh t2 _ z).mono ?_;rintro e w3 ⟨rfl,Y⟩))
     go_ret3
     have c2:=d.trans (E.mono d.size);exact⟨kJ (by rw[m.out,if_pos ⟨T,hS⟩]),c2.trans (Y.mono c2.size)⟩
    ·have V:Ha t2=false:=by simpa using hS
     go_enter Tryz.func126,Tryz.ntmps126;go_wp2_with(first
      | (go_at_call 130;refine(kI s c _ G h0 A).mono ?_;rintro e w' ⟨rfl,rfl⟩)
      | (go_at_call 149;refine(hcut _).mono ?_;rintro e w1 ⟨rfl,d⟩)
      | (go_at_call 150;refine(zf t1 _ I).mono ?_;rintro e w2 ⟨rfl,E⟩)
      | (go_at_call 99;refine(xh t2 _ z).mono ?_;rintro e w3 ⟨rfl,Y⟩))
     go_ret3
     have c2:=d.trans (E.mono d.size);exact⟨kJ (by rw[m.out,if_neg (by simp[V])];rfl),c2.trans (Y.mono c2.size)⟩
   ·have N:loc t1=false:=by simpa using T
    clear T;go_enter Tryz.func126,Tryz.ntmps126;go_wp2_with(first
     | (go_at_call 130;refine(kI s c _ G h0 A).mono ?_;rintro e w' ⟨rfl,rfl⟩)
     | (go_at_call 149;refine(hcut _).mono ?_;rintro e w1 ⟨rfl,d⟩)
     | (go_at_call 150;refine(zf t1 _ I).mono ?_;rintro e w2 ⟨rfl,E⟩))
    go_ret3
    exact⟨kJ (by rw[m.out,if_neg (by simp[N])];rfl),d.trans (E.mono d.size)⟩
  ·have K:Lib.indexByte (s.extract 1 s.size).data.toList 58= -1:=by
     refine V3 _ fun j U=> ?_;rw[<-Lib.size_eq]at U;simp at U;rw[f,mO];exact F (j+1) (by omega) (by omega)
   have m:Hid (parts (c.toNat:Int) s=(aH,aH,false)):=pE _ _ (.inr (.inr F));have hcut:=fun X:World=>zbO (s.extract 1 s.size) X K;go_enter Tryz.func126,Tryz.ntmps126;go_wp2_with(first
    | (go_at_call 130;refine(kI s c _ G h0 A).mono ?_;rintro e w' ⟨rfl,rfl⟩)
    | (go_at_call 149;refine(hcut _).mono ?_;rintro e w1 ⟨rfl,d⟩))
   go_ret3
   exact⟨kJ m.out,d⟩
theorem V6(s:ByteArray)(w:World)(d:s.size<=140737488351232):
    Calls Tryz.prog 94 #[.string s] w fun e w'=>e=.returned (told (parts 64 s))/\Below w.heap.size w w':=by
 go_enter Tryz.func94,Tryz.ntmps94;go_wp2_with(go_at_call 126;refine(FE s 64 _ d).mono ?_;rintro e f ⟨rfl,c⟩;unfold told)
 go_ret3
 exact⟨rfl,c⟩
theorem V7(s:ByteArray)(w:World)(d:s.size<=140737488351232):
    Calls Tryz.prog 93 #[.string s] w fun e w'=>e=.returned (told (parts 33 s))/\Below w.heap.size w w':=by
 go_enter Tryz.func93,Tryz.ntmps93;go_wp2_with(go_at_call 126;refine(FE s 33 _ d).mono ?_;rintro e f ⟨rfl,c⟩;unfold told)
 go_ret3
 exact⟨rfl,c⟩
end Go.Proofs.YtldkblgclochjaaGreatDoor.Id

/- A part. -/
import Derived.Test.YtldkblgclochjaaGreatDoorE07
import Derived.Lib.ItoaLen
set_option maxRecDepth 100000
set_option maxHeartbeats 16000000
namespace Go.Proofs.YtldkblgclochjaaGreatDoor
open Go.RowKit
theorem Sj(b:Bool)(w:World):Calls Tryz.prog 101 #[.bool b] w fun x w'=>x=.returned (.string (if b=true then⟨#[116,114,117,101]⟩else⟨#[102,97,108,115,101]⟩))/\w=w':=by
 cases b
 all_goals
  go_enter Tryz.func101,Tryz.ntmps101;go_wp2;go_ret;exact⟨rfl,rfl⟩
theorem VL(n:Int)(h0: -9223372036854775808<=n)(h1:n<=9223372036854775807){K:Nat}{w:World}(c:Uy K w):
    Calls Tryz.prog 102 #[.int .i64 n,.int .i64 10] w fun x w'=>x=.returned (.string ⟨(Lib.itoa n).toArray⟩)/\ag (fun _=>False) w w':=by
 refine(Tryz.strconv_FormatInt_10 n h0 h1 w c.here).mono ?_;rintro x w' ⟨rfl,k,os,rfl⟩;exact⟨rfl,ag.fJ (Lib.below_grow _ w (Nat.le_refl _) k os)⟩
theorem iW.box{w w':World}{B K:Nat}{out s:List Int}{x:Ending}{o:Obj}(h:iW (w.alloc o) w' B K out s x):iW w w' B K out s x:=⟨h.1,h.2.1,((NB.refl B K w).alloc o).trans h.2.2⟩
theorem JD:y9 0:=by
 intro w B K out O j k i t pk pl nk ck nl cl u h d f c m;unfold qK goodJ at c
 cases c
theorem JE{d:Nat}(V:y9 d):y9 (d+1):=by
 intro w B K out O j k i t pk pl nk ck nl cl hw F T hT f hj
 cases j with
 | mk k' i' t' ks l=>
  unfold isJ at hj;obtain⟨GX,Er,GY,vD,e,ll,JF,mf⟩:=hj
  cases e
  unfold qK goodJ wideJ at f;simp only[Bool.and_eq_true]at f;obtain⟨⟨_,f⟩,I,z⟩:=f;have I:=of_decide_eq_true I;have fI:=hw.size;have bQ:=hw.lt;have m:=hw.alloc (.cells #[.int .i64 k,.int .i64 i,.string t,.slice pk ks.length ck,.slice pl l.length cl] 25);have Y:NB B K w (w.alloc (.cells #[.int .i64 k,.int .i64 i,.string t,.slice pk ks.length ck,.slice pl l.length cl] 25)):=(NB.refl _ _ _).alloc _;have xW:Uy K (w.alloc (.cells #[.int .i64 k,.int .i64 i,.string t,.slice pk ks.length ck,.slice pl l.length cl] 25)):=NC hT Y (by omega) (by omega);have zf6:=ll.carry (mI Y fI T);have S:=mf.carry (mI Y fI T)
  by_cases k0:k=0
  ·subst k0;have A:=j_ m F ⟨#[110,117,108,108]⟩ (by decide);go_enter Tryz.func64,Tryz.ntmps64;go_wp2_with(go_at_call 100;refine A.mono ?_;intro x G c;obtain⟨rfl,c⟩:=c)
   go_end0
   exact iW.box ⟨rfl,c⟩
  rw[if_neg k0]at f
  by_cases k1:k=1
  ·subst k1;rw[if_pos rfl]at f;have E:=fun b=>Sj b (w.alloc (.cells #[.int .i64 1,.int .i64 i,.string t,.slice pk ks.length ck,.slice pl l.length cl] 25))
   by_cases h1:i=1
   ·subst h1;have A:=j_ m F ⟨#[116,114,117,101]⟩ (by decide);have E:=E true;rw[if_pos rfl]at E;go_enter Tryz.func64,Tryz.ntmps64;go_wp2_with(first
     | (go_at_call 101;refine E.mono ?_;rintro x w' ⟨rfl,rfl⟩)
     | (go_at_call 100;refine A.mono ?_;intro x G c;obtain⟨rfl,c⟩:=c))
    go_end0
    exact iW.box ⟨rfl,c⟩
   ·have h1:i=0:=by
      simp only[Bool.or_eq_true,decide_eq_true_eq]at f;omega
    subst h1;have A:=j_ m F ⟨#[102,97,108,115,101]⟩ (by decide);have E:=E false;rw[if_neg (by decide)]at E;go_enter Tryz.func64,Tryz.ntmps64;go_wp2_with(first
     | (go_at_call 101;refine E.mono ?_;rintro x w' ⟨rfl,rfl⟩)
     | (go_at_call 100;refine A.mono ?_;intro x G c;obtain⟨rfl,c⟩:=c))
    go_end0
    exact iW.box ⟨rfl,c⟩
  rw[if_neg k1]at f
  by_cases k2:k=2
  ·subst k2;rw[if_pos rfl]at f;simp only[Bool.and_eq_true,decide_eq_true_eq]at f;unfold bI at f;have fi:=VL i (by omega) (by omega) xW;have cB:=Lib.itoa_length_le i (by omega) (by omega);obtain⟨u,U⟩:∃u:ByteArray,(⟨(Lib.itoa i).toArray⟩:ByteArray)=u:=⟨_,rfl⟩;have HU:Hid (ints u=aY (.mk 2 i t ks l)):=by
    show _=_
    rw[<-U];unfold aY vU ints
    rfl
   have Z:u.size<=100:=by
    rw[<-U]
    show(Lib.itoa i).toArray.size<=100
    simp;omega
   rw[U]at fi;clear U cB;go_enter Tryz.func64,Tryz.ntmps64;go_wp2_with(first
    | (go_at_call 102;refine fi.mono ?_;rintro x w3 ⟨rfl,fB⟩;have A:=j_ (m.zaX fB) F u Z)
    | (go_at_call 100;refine A.mono ?_;intro x G c;obtain⟨rfl,c⟩:=c))
   go_end0
   rw[HU.out]at c;exact iW.box ⟨rfl,c.1,(NB.bf (fB.mono fun _ _ h=>h.elim)).trans c.2⟩
  rw[if_neg k2]at f
  by_cases k3:k=3
  ·subst k3;rw[if_pos rfl]at f;have A:=Jz m F t (Option.isNone_iff_eq_none.1 f);go_enter Tryz.func64,Tryz.ntmps64;go_wp2_with(go_at_call 103;refine A.mono ?_;intro x G c;obtain⟨rfl,c⟩:=c)
   go_end0
   exact iW.box ⟨rfl,by unfold aY;exact c⟩
  rw[if_neg k3]at f
  by_cases k4:k=4
  ·subst k4;rw[if_pos rfl]at f;have H:l.all (qK d)=true:=by
    rw[List.all_eq_true]at f z ⊢;intro x N;unfold qK;rw[f x N,z x N]
    rfl
   have A:=zbD V m F T xW H S JF (by omega);clear f z H;go_enter Tryz.func64,Tryz.ntmps64;go_wp2_with(go_at_call 104;refine A.mono ?_;intro x G c;obtain⟨rfl,c⟩:=c)
   go_end0
   exact iW.box ⟨rfl,by unfold aY;exact c⟩
  rw[if_neg k4]at f
  by_cases k5:k=5
  ·subst k5;rw[if_pos rfl]at f;simp only[Bool.and_eq_true,decide_eq_true_eq]at f;obtain⟨⟨X,Bn,_⟩,f⟩:=f;have H:l.all (qK d)=true:=by
    rw[List.all_eq_true]at f z ⊢;intro x N;unfold qK;rw[f x N,z x N]
    rfl
   have A:=ZA V m F T xW H Bn X zf6 S JF (by omega);clear f z H Bn;have Ec:Hid (ks.length=l.length):=X;clear X;go_enter Tryz.func64,Tryz.ntmps64;go_wp2_with(go_at_call 105;refine A.mono ?_;intro x G c;obtain⟨rfl,c⟩:=c)
   go_end0
   exact iW.box ⟨rfl,by unfold aY;exact c⟩
  rw[if_neg k5]at f
  cases f
theorem writes:∀d,y9 d
 | 0=>JD
 | d+1=>JE (writes d)
theorem Ag(s:ByteArray)(w:World)(f:s.size<=1000000000):Calls Tryz.prog 109 #[.string s] w fun x w'=>x=.returned (.bool (letters s))/\Below w.heap.size w w':=by
 have c:=Fs s w f
 cases lM:iB (ints s)with
 | none=>
  have d:Hid (letters s=true):=by show letters s=true;unfold letters;rw[lM];rfl
  rw[lM]at c;go_enter Tryz.func109,Tryz.ntmps109;go_wp2_with(go_at_call 55;refine c.mono ?_;rintro x h ⟨rfl,pos,rfl⟩);go_ret;exact⟨ak d.out.symm,(Below.refl _ _).alloc (Nat.le_refl _) _⟩
 | some p=>
  have d:Hid (letters s=false):=by show letters s=false;unfold letters;rw[lM];rfl
  rw[lM]at c;go_enter Tryz.func109,Tryz.ntmps109;go_wp2_with(go_at_call 55;refine c.mono ?_;rintro x h ⟨rfl,pos,rfl⟩);go_ret;exact⟨ak d.out.symm,(Below.refl _ _).alloc (Nat.le_refl _) _⟩
theorem Qf{t:ByteArray}:(t.toList== [])=decide (t.size=0):=by
 rw[Lib.toList_data,Bool.eq_iff_iff];simp only[beq_iff_eq,decide_eq_true_eq]
 constructor
 ·intro h
  show t.data.size=0
  rw[<-Array.length_toList,h];rfl
 ·intro h;exact List.eq_nil_of_length_eq_zero (by rw[Array.length_toList];exact h)
def bT(k i:Int)(t:ByteArray)(nk nl:Nat):Bool:=(decide (i=0) || decide (k=1) || decide (k=2))&&(decide (t.size=0) || decide (k=3))&&(decide (nk=0) || decide (k=5))&&(decide (nl=0) || decide (k=4) || decide (k=5))
theorem VM(k i:Int)(t:ByteArray)(pk pl:Option Addr)(nk ck nl cl:Nat)(w:World):
    Calls Tryz.prog 108 #[.agg #[.int .i64 k,.int .i64 i,.string t,.slice pk nk ck,.slice pl nl cl]] w fun x w'=>x=.returned (.bool (bT k i t nk nl))/\Below w.heap.size w w':=by
 have f:=Qf (t:=t)
 by_cases h1:i=0
 ·subst h1
  by_cases h2:t.size=0
  ·rw[decide_eq_true h2]at f
   by_cases h3:nk=0
   ·subst h3
    by_cases h4:nl=0
    ·subst h4;have c:Hid (bT k 0 t 0 0=true):=by show _=_;unfold bT;simp[*]
     go_enter Tryz.func108,Tryz.ntmps108;go_wp2;go_ret;refine⟨ak ?_,(Below.refl _ _).alloc (Nat.le_refl _) _⟩
     first| exact c.out.symm| (rw[c.out];simp;omega)
    ·skip
     by_cases a1:k=4
     ·subst a1;have c:Hid (bT 4 0 t 0 nl=true):=by show _=_;unfold bT;simp[*]
      go_enter Tryz.func108,Tryz.ntmps108;go_wp2;go_ret;refine⟨ak ?_,(Below.refl _ _).alloc (Nat.le_refl _) _⟩
      first| exact c.out.symm| (rw[c.out];simp;omega)
     ·skip
      by_cases a2:k=5
      ·subst a2;have c:Hid (bT 5 0 t 0 nl=true):=by show _=_;unfold bT;simp[*]
       go_enter Tryz.func108,Tryz.ntmps108;go_wp2;go_ret;refine⟨ak ?_,(Below.refl _ _).alloc (Nat.le_refl _) _⟩
       first| exact c.out.symm| (rw[c.out];simp;omega)
      ·skip
       have c:Hid (bT k 0 t 0 nl=false):=by show _=_;unfold bT;simp[*]
       go_enter Tryz.func108,Tryz.ntmps108;go_wp2;go_ret;refine⟨ak ?_,(Below.refl _ _).alloc (Nat.le_refl _) _⟩
       first| exact c.out.symm| (rw[c.out];simp;omega)
   ·have d:0<nk:=by omega
    by_cases a3:k=5
    ·subst a3
     by_cases h4:nl=0
     ·subst h4;have c:Hid (bT 5 0 t nk 0=true):=by show _=_;unfold bT;simp[*]
      go_enter Tryz.func108,Tryz.ntmps108;go_wp2;go_ret;refine⟨ak ?_,(Below.refl _ _).alloc (Nat.le_refl _) _⟩
      first| exact c.out.symm| (rw[c.out];simp;omega)
     ·skip
      have c:Hid (bT 5 0 t nk nl=true):=by show _=_;unfold bT;simp[*]
      go_enter Tryz.func108,Tryz.ntmps108;go_wp2;go_ret;refine⟨ak ?_,(Below.refl _ _).alloc (Nat.le_refl _) _⟩
      first| exact c.out.symm| (rw[c.out];simp;omega)
    ·skip
     have c:Hid (bT k 0 t nk nl=false):=by show _=_;unfold bT;simp[*]
     go_enter Tryz.func108,Tryz.ntmps108;go_wp2;go_ret;refine⟨ak ?_,(Below.refl _ _).alloc (Nat.le_refl _) _⟩
     first| exact c.out.symm| (rw[c.out];simp;omega)
  ·rw[decide_eq_false h2]at f
   by_cases a4:k=3
   ·subst a4
    by_cases h3:nk=0
    ·subst h3
     by_cases h4:nl=0
     ·subst h4;have c:Hid (bT 3 0 t 0 0=true):=by show _=_;unfold bT;simp[*]
      go_enter Tryz.func108,Tryz.ntmps108;go_wp2;go_ret;refine⟨ak ?_,(Below.refl _ _).alloc (Nat.le_refl _) _⟩
      first| exact c.out.symm| (rw[c.out];simp;omega)
     ·skip
      have c:Hid (bT 3 0 t 0 nl=false):=by show _=_;unfold bT;simp[*]
      go_enter Tryz.func108,Tryz.ntmps108;go_wp2;go_ret;refine⟨ak ?_,(Below.refl _ _).alloc (Nat.le_refl _) _⟩
      first| exact c.out.symm| (rw[c.out];simp;omega)
    ·have d:0<nk:=by omega
     have c:Hid (bT 3 0 t nk nl=false):=by show _=_;unfold bT;simp[*]
     go_enter Tryz.func108,Tryz.ntmps108;go_wp2;go_ret;refine⟨ak ?_,(Below.refl _ _).alloc (Nat.le_refl _) _⟩
     first| exact c.out.symm| (rw[c.out];simp;omega)
   ·skip
    have c:Hid (bT k 0 t nk nl=false):=by show _=_;unfold bT;simp[*]
    go_enter Tryz.func108,Tryz.ntmps108;go_wp2;go_ret;refine⟨ak ?_,(Below.refl _ _).alloc (Nat.le_refl _) _⟩
    first| exact c.out.symm| (rw[c.out];simp;omega)
 ·skip
  by_cases a5:k=1
  ·subst a5
   by_cases h2:t.size=0
   ·rw[decide_eq_true h2]at f
    by_cases h3:nk=0
    ·subst h3
     by_cases h4:nl=0
     ·subst h4;have c:Hid (bT 1 i t 0 0=true):=by show _=_;unfold bT;simp[*]
      go_enter Tryz.func108,Tryz.ntmps108;go_wp2;go_ret;refine⟨ak ?_,(Below.refl _ _).alloc (Nat.le_refl _) _⟩
      first| exact c.out.symm| (rw[c.out];simp;omega)
     ·skip
      have c:Hid (bT 1 i t 0 nl=false):=by show _=_;unfold bT;simp[*]
      go_enter Tryz.func108,Tryz.ntmps108;go_wp2;go_ret;refine⟨ak ?_,(Below.refl _ _).alloc (Nat.le_refl _) _⟩
      first| exact c.out.symm| (rw[c.out];simp;omega)
    ·have d:0<nk:=by omega
     have c:Hid (bT 1 i t nk nl=false):=by show _=_;unfold bT;simp[*]
     go_enter Tryz.func108,Tryz.ntmps108;go_wp2;go_ret;refine⟨ak ?_,(Below.refl _ _).alloc (Nat.le_refl _) _⟩
     first| exact c.out.symm| (rw[c.out];simp;omega)
   ·rw[decide_eq_false h2]at f;have c:Hid (bT 1 i t nk nl=false):=by show _=_;unfold bT;simp[*]
    go_enter Tryz.func108,Tryz.ntmps108;go_wp2;go_ret;refine⟨ak ?_,(Below.refl _ _).alloc (Nat.le_refl _) _⟩
    first| exact c.out.symm| (rw[c.out];simp;omega)
  ·skip
   by_cases h:k=2
   ·subst h
    by_cases h2:t.size=0
    ·rw[decide_eq_true h2]at f
     by_cases h3:nk=0
     ·subst h3
      by_cases h4:nl=0
      ·subst h4;have c:Hid (bT 2 i t 0 0=true):=by show _=_;unfold bT;simp[*]
       go_enter Tryz.func108,Tryz.ntmps108;go_wp2;go_ret;refine⟨ak ?_,(Below.refl _ _).alloc (Nat.le_refl _) _⟩
       first| exact c.out.symm| (rw[c.out];simp;omega)
      ·skip
       have c:Hid (bT 2 i t 0 nl=false):=by show _=_;unfold bT;simp[*]
       go_enter Tryz.func108,Tryz.ntmps108;go_wp2;go_ret;refine⟨ak ?_,(Below.refl _ _).alloc (Nat.le_refl _) _⟩
       first| exact c.out.symm| (rw[c.out];simp;omega)
     ·have d:0<nk:=by omega
      have c:Hid (bT 2 i t nk nl=false):=by show _=_;unfold bT;simp[*]
      go_enter Tryz.func108,Tryz.ntmps108;go_wp2;go_ret;refine⟨ak ?_,(Below.refl _ _).alloc (Nat.le_refl _) _⟩
      first| exact c.out.symm| (rw[c.out];simp;omega)
    ·rw[decide_eq_false h2]at f;have c:Hid (bT 2 i t nk nl=false):=by show _=_;unfold bT;simp[*]
     go_enter Tryz.func108,Tryz.ntmps108;go_wp2;go_ret;refine⟨ak ?_,(Below.refl _ _).alloc (Nat.le_refl _) _⟩
     first| exact c.out.symm| (rw[c.out];simp;omega)
   ·skip
    have b1:(i !=0)=true:=by simp[h1]
    have b2:(k !=1)=true:=by simp[*]
    have b3:(k !=2)=true:=by simp[*]
    have c:Hid (bT k i t nk nl=false):=by show _=_;unfold bT;simp[*]
    go_enter Tryz.func108,Tryz.ntmps108;go_wp2;go_ret;refine⟨ak ?_,(Below.refl _ _).alloc (Nat.le_refl _) _⟩
    first| exact c.out.symm| (rw[c.out];simp;omega)
def iE(ks:List ByteArray):Bool:=ks.all letters&&noKeyTwice ks
section
variable {w : World} {g : Nat} {L : List Nat} {ks : List ByteArray}
theorem ND(c:kT w g L ks):L.length=ks.length:=by rw[c.1.length_eq];simp
theorem qM(d:kT w g L ks){i:Nat}(c:i<L.length):L.getD i 0<ks.length:=by
 have:=d.1.subset (List.getElem_mem c);rw[List.getD_eq_getElem?_getD,List.getElem?_eq_getElem c];simpa using this
theorem uK(d:kT w g L ks){n:Nat}(f:n<ks.length):∃i,i<L.length/\L.getD i 0=n:=by
 have:n∈L:=d.1.mem_iff.2 (by simpa using f);obtain⟨i,c,e⟩:=List.getElem_of_mem this;exact⟨i,c,by rw[List.getD_eq_getElem?_getD,List.getElem?_eq_getElem c];exact e⟩
theorem Sl(m:kT w g L ks){i j:Nat}(f:i<L.length)(d:j<L.length)(c:i≠j):L.getD i 0≠L.getD j 0:=by
 have k:L.Nodup:=m.1.nodup_iff.2 List.nodup_range;rw[List.getD_eq_getElem?_getD,List.getElem?_eq_getElem f,List.getD_eq_getElem?_getD,List.getElem?_eq_getElem d];simp only[Option.getD_some]
 rcases Nat.lt_or_gt_of_ne c with h| h
 ·exact List.pairwise_iff_getElem.1 k i j f d h
 ·exact fun e=>List.pairwise_iff_getElem.1 k j i d f h e.symm
theorem fQ{n:Nat}(c:n<ks.length):aM ks n=ks[n]:=by
 unfold aM;rw[List.getD_eq_getElem?_getD,List.getElem?_eq_getElem c];rfl
def Sm(L:List Nat)(ks:List ByteArray)(m:Nat):Prop:=∀i,i<m->letters (aM ks (L.getD i 0))=true/\(0<i->aM ks (L.getD (i - 1) 0)≠aM ks (L.getD i 0))
theorem NF(d:kT w g L ks)(h:Sm L ks L.length):iE ks=true:=by
 unfold iE;rw[Bool.and_eq_true]
 constructor
 ·rw[List.all_eq_true];intro k x;obtain⟨n,f,rfl⟩:=List.getElem_of_mem x;obtain⟨i,u,e⟩:=uK d f;have:=(h i u).1;rw[e,fQ f]at this;exact this
 ·apply gU
  rw[List.pairwise_iff_getElem];intro n m f A K e;obtain⟨i,u,F⟩:=uK d f;obtain⟨j,H,N⟩:=uK d A;have key:∀a b,a<b->b<L.length->aM ks (L.getD a 0)=aM ks (L.getD b 0)->False:=by
   intro a b S z x;have h1:=d.2.1 (b - 1) b (by omega) z;have h2:pQ (aM ks (L.getD (b - 1) 0)) (aM ks (L.getD a 0))=false:=by
    by_cases I:a=b - 1
    ·subst I;exact jL _
    ·exact d.2.1 a (b - 1) (by omega) (by omega)
   have G:=(h b z).2 (by omega)
   rcases qB G with c| c
   ·rw[x,c]at h2;cases h2
   ·rw[c]at h1;cases h1
  have E:aM ks (L.getD i 0)=aM ks (L.getD j 0):=by rw[F,N,fQ f,fQ A];exact e
  rcases Nat.lt_trichotomy i j with c| c| c
  ·exact key i j c H E
  ·subst c;omega
  ·exact key j i c u E.symm
theorem Es(d:kT w g L ks){i:Nat}(f:i<L.length)(h:letters (aM ks (L.getD i 0))=false):iE ks=false:=by
 have c:=qM d f;rw[fQ c]at h
 cases hg:iE ks with
 | false=>rfl
 | true=>
  unfold iE at hg;rw[Bool.and_eq_true,List.all_eq_true]at hg;rw[hg.1 _ (List.getElem_mem c)]at h
  cases h
theorem JG(c:kT w g L ks){i:Nat}(m:i<L.length)(h0:0<i)(h:aM ks (L.getD (i - 1) 0)=aM ks (L.getD i 0)):iE ks=false:=by
 have j:=qM c m;have d:=qM c (i:=i - 1) (by omega);have u:=Sl c (i:=i - 1) (by omega) m (by omega);rw[fQ j,fQ d]at h
 cases hg:iE ks with
 | false=>rfl
 | true=>
  unfold iE at hg;rw[Bool.and_eq_true]at hg;have k:=List.pairwise_iff_getElem.1 (iD hg.2)
  rcases Nat.lt_or_gt_of_ne u with f| f
  ·exact absurd h (k _ _ d j f)
  ·exact absurd h.symm (k _ _ j d f)
end
theorem kT.bf{w w':World}{g:Nat}{L:List Nat}{ks:List ByteArray}(h:kT w g L ks)(e:w'.heap[g]?=w.heap[g]?):kT w' g L ks:=
 ⟨h.1,h.2.1,fun j c=>(World.cell?_of_block (a:=⟨g,j,none⟩) e).trans (h.2.2 j c)⟩
theorem Sm.step{L:List Nat}{ks:List ByteArray}{m:Nat}(h:Sm L ks m)(h1:letters (aM ks (L.getD m 0))=true)(h2:0<m->aM ks (L.getD (m - 1) 0)≠aM ks (L.getD m 0)):Sm L ks (m+1):=by
 intro i c
 by_cases e:i=m
 ·subst e;exact⟨h1,h2⟩
 ·exact h i (by omega)
theorem toList_inj{a b:ByteArray}(h:a.toList=b.toList):a=b:=by
 rw[Lib.toList_data,Lib.toList_data]at h
 cases a;cases b
 exact congrArg ByteArray.mk (Array.toList_inj.1 h)
theorem xX{O:Nat->Prop}{ks:List ByteArray}{p:Option Addr}{c:Nat}{w:World}(mF:j5 O w p c ks)(hO:∀k,O k->k<w.heap.size)(hl:ks.length<=100000)(Et:∀k∈ks,k.size<=1000000000):
    Calls Tryz.prog 111 #[.slice p ks.length c] w fun x w'=>x=.returned (.bool (iE ks))/\Below w.heap.size w w':=by
 have Y:=BP mF hO (by omega);obtain⟨n,hn⟩:∃n,ks.length=n:=⟨_,rfl⟩;have HN:Hid (ks.length=n):=hn;rw[hn]at Y hl ⊢;go_enter Tryz.func111,Tryz.ntmps111;go_wp2_with(go_at_call 112;refine Y.mono ?_;rintro x f ⟨g,L,rfl,hP,hg0,hg1,bK⟩);clear Y hn;have D_:Hid (L.length=n):=(ND hP).trans HN.out;have UR:=bK.size
 go_loopw [10] (fun i wr=>∃k:Nat,i=.int .i64 k/\k<=n/\Sm L ks k/\Below f.heap.size f wr) (fun i _=>n - (intOf i).toNat)
 case atStart=>exact⟨0,rfl,Nat.zero_le _,fun i hi=>absurd hi (by omega),Below.refl _ _⟩
 case round=>
  obtain⟨k,rfl,U,hF,j⟩:=hrel;have HF:Hid (Sm L ks k):=hF;clear hF;have S:=hP.bf (j.block g hg1)
  by_cases IE:k<n
  ·have T:k<L.length:=by rw[D_.out];exact IE
   have JC:(k:Int)<(n:Int):=by omega
   have gc:=S.2.2 k T;have jK:=qM S T;obtain⟨a,ha⟩:∃a,L.getD k 0=a:=⟨_,rfl⟩;have HA:Hid (L.getD k 0=a):=ha;rw[ha]at gc jK;obtain⟨ad,hpe,xf,jr⟩:=mF.2 a jK;have X:∀(x:Nat),x<ks.length->∀W:World,Below f.heap.size f W->W.cell? (ad.add x)=some (.string (aM ks x)):=by
    intro x hx W hW;obtain⟨ad',zdU,VN,zdV⟩:=mF.2 x hx;rw[hpe]at zdU
    cases zdU
    have e1:=hO _ VN;exact(World.cell?_of_block (by rw[bu];exact(hW.block _ (by omega)).trans (bK.block _ e1))).trans zdV
   subst hpe;have DW:a<n:=by rw[<-HN.out];exact jK
   have Zj:n<=c:=by have:=mF.1;rw[HN.out]at this;exact this
   have haI:(a:Int)<(n:Int):=by omega
   have Z:=Ag (aM ks a);have hza:(aM ks a).size<=1000000000:=by rw[fQ jK];exact Et _ (List.getElem_mem jK)
   have Me:=fun W hW=>X a jK W hW;obtain⟨key,qL⟩:∃key,aM ks a=key:=⟨_,rfl⟩;have H:Hid (aM ks a=key):=qL;rw[qL]at Z hza Me;have G:=fun W=>Z W hza;have HCK:Hid (∀(x:Nat),x<ks.length->∀W:World,Below f.heap.size f W->W.cell? (ad.add x)=some (.string (aM ks x))):=X;clear jr Z ha qL X;have Qg:letters key=true\/ letters key=false:=by cases letters key<;>simp
   rcases Qg with Cu| Cu
   ·rw[Cu]at G
    cases k with
    | zero=>
     go_wp2;have E:Below f.heap.size f wr.drew:=⟨j.os,j.tape,j.output,j.size,j.block⟩;refine aD (by kernel_rfl) (fun W=>Below f.heap.size f W) ?_;change wpIn _ _ _ _ _ _ _ _ (World.drew _);refine aa (i:=0) (d:=some 15) rfl ?_;refine aa (i:=1) (d:=some 16) rfl ?_;refine aa (i:=2) (d:=some 17) rfl ?_;refine aC (i:=3) (d:=some 18) rfl (by(intro F A;have I:=Me F A;go_simp;first| done| with_reducible rfl)) ?_;refine av (i:=4) E rfl ?_;intro K hK;go_simp;go_wp2_with(go_at_call 109;refine(G _).mono ?_;rintro x w3 ⟨rfl,u⟩);have z:Below f.heap.size f w3:=E.trans ⟨u.os,u.tape,u.output,u.size,fun k U=>u.block k (by have:=E.size;omega)⟩;clear E;refine aa (i:=5) (d:=some 20) rfl ?_;refine aa (i:=6) (d:=some 21) rfl ?_;refine aa (i:=7) (d:=some 22) rfl ?_;refine aa (i:=8) (d:=some 23) rfl ?_;refine aa (i:=9) (d:=some 24) rfl ?_;refine ay (i:=10) (d:=some 25) rfl ?_;refine ay (i:=11) (d:=some 26) rfl ?_;refine ay (i:=12) (d:=some 27) rfl ?_;refine ay (i:=13) (d:=some 28) rfl ?_;refine ay (i:=14) (d:=some 29) rfl ?_;refine ay (i:=15) (d:=some 30) rfl ?_;refine ay (i:=16) (d:=some 31) rfl ?_;refine ay (i:=17) (d:=some 32) rfl ?_;refine ay (i:=18) (d:=some 33) rfl ?_;refine ay (i:=19) (d:=some 34) rfl ?_;refine ay (i:=20) (d:=some 35) rfl ?_;refine ay (i:=21) (d:=some 36) rfl ?_;refine ay (i:=22) (d:=some 37) rfl ?_;refine aa (i:=23) (d:=some 38) rfl ?_;refine aa (i:=24) (d:=some 39) rfl ?_;refine aB z (by kernel_rfl) ?_ _;go_wp2;go_roundw
     case rel=>exact⟨1,by go_num,IE,HF.out.step (by rw[HA.out,H.out];exact Cu) (fun h=>absurd h (by omega)),z⟩
     case measure=>simp[intOf];omega
    | succ m=>
     have gm:=S.2.2 m (by omega);have N:=qM S (i:=m) (by omega);obtain⟨b,zb⟩:∃b,L.getD m 0=b:=⟨_,rfl⟩;have HB:Hid (L.getD m 0=b):=zb;rw[zb]at gm N;have V:=fun W hW=>HCK.out b N W hW;have DX:b<n:=by rw[<-HN.out];exact N
     have hbI:(b:Int)<(n:Int):=by omega
     have hmI:(m:Int)<(n:Int):=by omega
     have hwm:IntKind.i64.wrap (m:Int)=(m:Int):=by first| go_num| (simp[IntKind.wrap,IntKind.bits,IntKind.signed];omega)
     have hGM:∀W:World,Below f.heap.size f W->W.cell? ⟨g,m,none⟩=some (.int .i64 (b:Int)):=fun W hW=>by
      have h1:=hP.2.2 m (by omega);rw[zb]at h1;exact(World.cell?_of_block (a:=⟨g,m,none⟩) (hW.block g hg1)).trans h1
     obtain⟨kb,ZC⟩:∃kb,aM ks b=kb:=⟨_,rfl⟩;have IK:Hid (aM ks b=kb):=ZC;rw[ZC]at V;clear zb ZC N
     by_cases Qh:kb=key
     ·have heq:(kb.toList==key.toList)=true:=by rw[Qh];simp
      go_wp2;have E:Below f.heap.size f wr.drew:=⟨j.os,j.tape,j.output,j.size,j.block⟩;refine aD (by kernel_rfl) (fun W=>Below f.heap.size f W) ?_;change wpIn _ _ _ _ _ _ _ _ (World.drew _);refine aa (i:=0) (d:=some 15) rfl ?_;refine aa (i:=1) (d:=some 16) rfl ?_;refine aa (i:=2) (d:=some 17) rfl ?_;refine aC (i:=3) (d:=some 18) rfl (by(intro F A;have I:=Me F A;go_simp;first| done| with_reducible rfl)) ?_;refine av (i:=4) E rfl ?_;intro K hK;go_simp;go_wp2_with(go_at_call 109;refine(G _).mono ?_;rintro x w3 ⟨rfl,u⟩);have z:Below f.heap.size f w3:=E.trans ⟨u.os,u.tape,u.output,u.size,fun k U=>u.block k (by have:=E.size;omega)⟩;clear E;refine aa (i:=5) (d:=some 20) rfl ?_;refine aa (i:=6) (d:=some 21) rfl ?_;refine aa (i:=7) (d:=some 22) rfl ?_;refine aa (i:=8) (d:=some 23) rfl ?_;refine aa (i:=9) (d:=some 24) rfl ?_;refine aa (i:=10) (d:=some 25) rfl ?_;refine aa (i:=11) (d:=some 26) rfl ?_;refine aa (i:=12) (d:=some 27) rfl ?_;refine aa (i:=13) (d:=some 28) rfl ?_;refine aa (i:=14) (d:=some 29) rfl ?_;refine aC (i:=15) (d:=some 30) rfl (by(intro F A;have I:=hGM F A;go_simp;first| done| with_reducible rfl)) ?_;refine aa (i:=16) (d:=some 31) rfl ?_;refine aC (i:=17) (d:=some 32) rfl (by(intro F A;have I:=V F A;go_simp;first| done| with_reducible rfl)) ?_;refine aa (i:=18) (d:=some 33) rfl ?_;refine aa (i:=19) (d:=some 34) rfl ?_;refine aa (i:=20) (d:=some 35) rfl ?_;refine aC (i:=21) (d:=some 36) rfl (by(intro F A;have I:=Me F A;go_simp;first| done| with_reducible rfl)) ?_;refine aa (i:=22) (d:=some 37) rfl ?_;refine aa (i:=23) (d:=some 38) rfl ?_;refine aa (i:=24) (d:=some 39) rfl ?_;refine aB z (by kernel_rfl) ?_ _;go_wp2;go_ret;exact⟨ak (JG hP T (by omega) (by rw[HA.out,H.out];show aM ks (L.getD m 0)=_;rw[HB.out,IK.out];exact Qh)).symm,bK.trans ⟨z.os,z.tape,z.output,z.size,fun k U=>z.block k (by omega)⟩⟩
     ·have heq:(kb.toList==key.toList)=false:=by rw[beq_eq_false_iff_ne];intro e;exact Qh (toList_inj e)
      go_wp2;have E:Below f.heap.size f wr.drew:=⟨j.os,j.tape,j.output,j.size,j.block⟩;refine aD (by kernel_rfl) (fun W=>Below f.heap.size f W) ?_;change wpIn _ _ _ _ _ _ _ _ (World.drew _);refine aa (i:=0) (d:=some 15) rfl ?_;refine aa (i:=1) (d:=some 16) rfl ?_;refine aa (i:=2) (d:=some 17) rfl ?_;refine aC (i:=3) (d:=some 18) rfl (by(intro F A;have I:=Me F A;go_simp;first| done| with_reducible rfl)) ?_;refine av (i:=4) E rfl ?_;intro K hK;go_simp;go_wp2_with(go_at_call 109;refine(G _).mono ?_;rintro x w3 ⟨rfl,u⟩);have z:Below f.heap.size f w3:=E.trans ⟨u.os,u.tape,u.output,u.size,fun k U=>u.block k (by have:=E.size;omega)⟩;clear E;refine aa (i:=5) (d:=some 20) rfl ?_;refine aa (i:=6) (d:=some 21) rfl ?_;refine aa (i:=7) (d:=some 22) rfl ?_;refine aa (i:=8) (d:=some 23) rfl ?_;refine aa (i:=9) (d:=some 24) rfl ?_;refine aa (i:=10) (d:=some 25) rfl ?_;refine aa (i:=11) (d:=some 26) rfl ?_;refine aa (i:=12) (d:=some 27) rfl ?_;refine aa (i:=13) (d:=some 28) rfl ?_;refine aa (i:=14) (d:=some 29) rfl ?_;refine aC (i:=15) (d:=some 30) rfl (by(intro F A;have I:=hGM F A;go_simp;first| done| with_reducible rfl)) ?_;refine aa (i:=16) (d:=some 31) rfl ?_;refine aC (i:=17) (d:=some 32) rfl (by(intro F A;have I:=V F A;go_simp;first| done| with_reducible rfl)) ?_;refine aa (i:=18) (d:=some 33) rfl ?_;refine aa (i:=19) (d:=some 34) rfl ?_;refine aa (i:=20) (d:=some 35) rfl ?_;refine aC (i:=21) (d:=some 36) rfl (by(intro F A;have I:=Me F A;go_simp;first| done| with_reducible rfl)) ?_;refine aa (i:=22) (d:=some 37) rfl ?_;refine aa (i:=23) (d:=some 38) rfl ?_;refine aa (i:=24) (d:=some 39) rfl ?_;refine aB z (by kernel_rfl) ?_ _;go_wp2;go_roundw
      case rel=>exact⟨m+1+1,by go_num,IE,HF.out.step (by rw[HA.out,H.out];exact Cu) (fun _=>by rw[HA.out,H.out];show aM ks (L.getD m 0)≠_;rw[HB.out,IK.out];exact Qh),z⟩
      case measure=>simp[intOf];omega
   ·rw[Cu]at G;go_wp2;have E:Below f.heap.size f wr.drew:=⟨j.os,j.tape,j.output,j.size,j.block⟩;refine aD (by kernel_rfl) (fun W=>Below f.heap.size f W) ?_;change wpIn _ _ _ _ _ _ _ _ (World.drew _);refine aa (i:=0) (d:=some 15) rfl ?_;refine aa (i:=1) (d:=some 16) rfl ?_;refine aa (i:=2) (d:=some 17) rfl ?_;refine aC (i:=3) (d:=some 18) rfl (by(intro F A;have I:=Me F A;go_simp;first| done| with_reducible rfl)) ?_;refine av (i:=4) E rfl ?_;intro K hK;go_simp;go_wp2_with(go_at_call 109;refine(G _).mono ?_;rintro x w3 ⟨rfl,u⟩);have z:Below f.heap.size f w3:=E.trans ⟨u.os,u.tape,u.output,u.size,fun k U=>u.block k (by have:=E.size;omega)⟩;clear E;refine aa (i:=5) (d:=some 20) rfl ?_;refine aa (i:=6) (d:=some 21) rfl ?_;refine ay (i:=7) (d:=some 22) rfl ?_;refine ay (i:=8) (d:=some 23) rfl ?_;refine ay (i:=9) (d:=some 24) rfl ?_;refine ay (i:=10) (d:=some 25) rfl ?_;refine ay (i:=11) (d:=some 26) rfl ?_;refine ay (i:=12) (d:=some 27) rfl ?_;refine ay (i:=13) (d:=some 28) rfl ?_;refine ay (i:=14) (d:=some 29) rfl ?_;refine ay (i:=15) (d:=some 30) rfl ?_;refine ay (i:=16) (d:=some 31) rfl ?_;refine ay (i:=17) (d:=some 32) rfl ?_;refine ay (i:=18) (d:=some 33) rfl ?_;refine ay (i:=19) (d:=some 34) rfl ?_;refine ay (i:=20) (d:=some 35) rfl ?_;refine ay (i:=21) (d:=some 36) rfl ?_;refine ay (i:=22) (d:=some 37) rfl ?_;refine ay (i:=23) (d:=some 38) rfl ?_;refine aa (i:=24) (d:=some 39) rfl ?_;refine aB z (by kernel_rfl) ?_ _;go_wp2;go_ret;exact⟨ak (Es hP T (by rw[HA.out,H.out];exact Cu)).symm,bK.trans ⟨z.os,z.tape,z.output,z.size,fun k U=>z.block k (by omega)⟩⟩
  ·obtain rfl:k=n:=by omega
   go_wp2;go_ret;exact⟨ak (NF hP (by rw[D_.out];exact HF.out)).symm,bK.trans ⟨j.os,j.tape,j.output,j.size,fun k U=>j.block k (by omega)⟩⟩
def szJ:Nat->J->Bool
 | 0,_=>true
 | d+1,.mk _ _ t ks l=>decide (t.size<=1000000000)&&(decide (ks.length<=100000)&&(ks.all (fun k=>decide (k.size<=1000000000))&&(decide (l.length<=100000)&&l.all (szJ d))))
def JH(d:Nat):Prop:=∀(w:World) (O:Nat->Prop) (j:J) (k i deep:Int) (t:ByteArray) (pk pl:Option Addr) (nk ck nl cl:Nat),(∀x,O x->x<w.heap.size)->deep=13 - (d:Int)->szJ d j=true→
 isJ O w j [.int .i64 k,.int .i64 i,.string t,.slice pk nk ck,.slice pl nl cl]→
 Calls Tryz.prog 80 #[.agg #[.int .i64 k,.int .i64 i,.string t,.slice pk nk ck,.slice pl nl cl],.int .i64 deep] w fun x w'=>x=.returned (.bool (goodJ d j))/\Below w.heap.size w w'
theorem ae{a b c:World}(h:Below a.heap.size a b)(g:Below b.heap.size b c):Below a.heap.size a c:=h.trans ⟨g.os,g.tape,g.output,g.size,fun k d=>g.block k (by have:=h.size;omega)⟩
theorem lS{α:Type}{P:α->Bool}{l:List α}{n:Nat}{z:α}(h:l.all P=true)(c:n<l.length):P (l.getD n z)=true:=by
 rw[List.getD_eq_getElem?_getD,List.getElem?_eq_getElem c];exact List.all_eq_true.1 h _ (List.getElem_mem c)
theorem Cv{P:J->Bool}{l:List J}{n:Nat}(c:n<l.length):(l.take (n+1)).all P=((l.take n).all P&&P (l.getD n J.zero)):=by
 rw[iA c,List.all_append];simp
theorem Qi{P:J->Bool}{l:List J}{n:Nat}(c:n<l.length)(h:P (l.getD n J.zero)=false):l.all P=false:=by
 cases ha:l.all P with
 | false=>rfl
 | true=>rw[lS (z:=J.zero) ha c]at h;cases h
theorem Ah{d:Nat}(V:JH d){w:World}{O:Nat->Prop}{l:List J}{pl:Option Addr}{cl:Nat}{deep:Int}(X:∀x,O x->x<w.heap.size)(lq:deep=13 - (d:Int))(fI:l.all (szJ d)=true)(hj:isJs O w pl 0 l)(hc:l.length<=cl)(cB:l.length<=100000):
    Calls Tryz.prog 110 #[.slice pl l.length cl,.int .i64 deep] w fun x w'=>x=.returned (.bool (l.all (goodJ d)))/\Below w.heap.size w w':=by
 have HD:Hid (deep=13 - (d:Int)):=lq;clear lq;obtain⟨n,Z⟩:∃n,l.length=n:=⟨_,rfl⟩;have HN:Hid (l.length=n):=Z;rw[Z]at hc cB ⊢;clear Z;go_enter Tryz.func110,Tryz.ntmps110;go_wp2
 go_loopw [9] (fun i wr=>∃k:Nat,i=.int .i64 k/\k<=n/\(l.take k).all (goodJ d)=true/\Below w.heap.size w wr) (fun i _=>n - (intOf i).toNat)
 case atStart=>exact⟨0,rfl,Nat.zero_le _,rfl,Below.refl _ _⟩
 case round=>
  obtain⟨k,rfl,hk,Zl,G⟩:=hrel;have A:Hid ((l.take k).all (goodJ d)=true):=Zl;clear Zl
  by_cases gZ:k<n
  ·have y_:k<l.length:=by rw[HN.out];exact gZ
   have D_:Hid (k<l.length):=y_;obtain⟨E,Y,cs,rO,za,bL,iV⟩:=isJs.at l 0 k hj y_;subst rO;obtain⟨z,K,U,F,nv,H,S,T,N,rfl⟩:=dD iV;have gT:=G.block E (X E za);have u:∀m v, [Value.int .i64 z,.int .i64 K,.string U,.slice F nv H,.slice S T N][m]?=some v->wr.cell? ⟨E,Y+k*5+m,none⟩=some v:=fun m v h=>by
    have:=bL m v h;rw[Nat.zero_add]at this;exact(World.cell?_of_block (a:=⟨E,Y+k*5+m,none⟩) gT).trans this
   have y0:wr.cell? ⟨E,Y+k*5,none⟩=some (.int .i64 z):=u 0 _ rfl;have y1:=u 1 _ rfl;have y2:=u 2 _ rfl;have y3:=u 3 _ rfl;have y4:=u 4 _ rfl;clear u bL y_;have JC:(k:Int)<(n:Int):=by omega
   have f:Below w.heap.size w (wr.alloc (.cells #[.int .i64 z,.int .i64 K,.string U,.slice F nv H,.slice S T N] 25)):=G.alloc G.size _;have I:=V (wr.alloc (.cells #[.int .i64 z,.int .i64 K,.string U,.slice F nv H,.slice S T N] 25)) O (l.getD k J.zero) z K deep U F S nv H T N (fun x j=>Nat.lt_of_lt_of_le (X x j) f.size) HD.out (lS fI D_.out) (iV.carry fun x j=>⟨j,f.block x (X x j)⟩)
   cases hgj:goodJ d (l.getD k J.zero)with
   | true=>
    rw[hgj]at I;go_wp2_with(go_at_call 80;refine I.mono ?_;rintro x w4 ⟨rfl,c⟩);go_roundw
    case rel=>exact⟨k+1,by go_num,gZ,by rw[Cv D_.out,A.out,hgj];rfl,f.trans ⟨c.os,c.tape,c.output,c.size,fun x j=>c.block x (by have:=f.size;omega)⟩⟩
    case measure=>simp[intOf];omega
   | false=>
    rw[hgj]at I;go_wp2_with(go_at_call 80;refine I.mono ?_;rintro x w4 ⟨rfl,c⟩);go_ret;exact⟨ak (Qi D_.out hgj).symm,f.trans ⟨c.os,c.tape,c.output,c.size,fun x j=>c.block x (by have:=f.size;omega)⟩⟩
  ·obtain rfl:k=n:=by omega
   go_wp2;go_ret;have:=A.out;rw[List.take_of_length_le (by rw[HN.out];omega)]at this;exact⟨ak this.symm,G⟩
theorem NG:JH 0:=by
 intro w O j k i deep t pk pl nk ck nl cl u h c d;have f:deep=13:=by omega
 clear h;subst f;have m:Hid (goodJ 0 j=false):=by show _=_;unfold goodJ;rfl
 clear d c;go_enter Tryz.func80,Tryz.ntmps80;go_wp2;go_ret;exact⟨ak m.out.symm,(Below.refl _ _).alloc (Nat.le_refl _) _⟩
theorem GZ(k i:Int)(t:ByteArray)(ks:List ByteArray)(l:List J):bare (.mk k i t ks l)=bT k i t ks.length l.length:=by unfold bare bT;rfl
theorem NH{d:Nat}(V:JH d)(hd:d+1<=12):JH (d+1):=by
 intro w O j k i deep t pk pl nk ck nl cl H lq X hj;have En:0<=deep:=by omega
 have rQ:deep<=12:=by omega
 have HD:Hid (deep+1=13 - (d:Int)):=by show _=_;omega
 clear lq
 cases j with
 | mk k' i' t' ks l=>
  unfold isJ at hj;obtain⟨GX,Er,GY,vD,e,ll,JF,mf⟩:=hj
  cases e
  unfold szJ at X;simp only[Bool.and_eq_true,decide_eq_true_eq]at X;obtain⟨ht,gZ,Et,rM,Bn⟩:=X;have N:∀x∈ks,x.size<=1000000000:=fun x E=>of_decide_eq_true (List.all_eq_true.1 Et x E);have dM:Below w.heap.size w (w.alloc (.cells #[.int .i64 k,.int .i64 i,.string t,.slice pk ks.length ck,.slice pl l.length cl] 25)):=(Below.refl _ _).alloc (Nat.le_refl _) _;have F:=VM k i t pk pl ks.length ck l.length cl (w.alloc (.cells #[.int .i64 k,.int .i64 i,.string t,.slice pk ks.length ck,.slice pl l.length cl] 25));have m:Hid (goodJ (d+1) (.mk k i t ks l)=(bT k i t ks.length l.length&&
   (if k=0 then true else if k=1 then decide (i=0) || decide (i=1)else if k=2 then decide (-bI<=i)&&decide (i<=bI)else if k=3 then letters t else if k=4 then l.all (goodJ d)
    else if k=5 then decide (ks.length=l.length)&&(ks.all letters&&noKeyTwice ks)&&l.all (goodJ d)else false))):=by show _=_;rw[goodJ,GZ]
  have u:∀c:World,Below (w.alloc (.cells #[.int .i64 k,.int .i64 i,.string t,.slice pk ks.length ck,.slice pl l.length cl] 25)).heap.size (w.alloc (.cells #[.int .i64 k,.int .i64 i,.string t,.slice pk ks.length ck,.slice pl l.length cl] 25)) c→
      c.heap[w.heap.size]?=some (.cells #[.int .i64 k,.int .i64 i,.string t,.slice pk ks.length ck,.slice pl l.length cl] 25 (0,0))/\Below w.heap.size w c:=fun c h2=>
   ⟨by rw[h2.block w.heap.size (by simp)];exact heap_alloc_new _ _,dM.trans ⟨h2.os,h2.tape,h2.output,h2.size,fun x E=>h2.block x (by simp;omega)⟩⟩
  clear Et
  cases gV:bT k i t ks.length l.length with
  | false=>
   have A:Hid (goodJ (d+1) (.mk k i t ks l)=false):=by show _=_;rw[m.out,gV];rfl
   rw[gV]at F;go_enter Tryz.func80,Tryz.ntmps80;go_wp2_with(first
    | (go_at_call 108;refine F.mono ?_;rintro x c ⟨rfl,z⟩;obtain⟨h,f⟩:=u c z;clear u;obtain⟨c0,c1,c2,c3,c4⟩:=aj h))
   go_ret;exact⟨ak A.out.symm,f⟩
  | true=>
   rw[gV]at F m;simp only[Bool.true_and]at m
   by_cases k0:k=0
   ·subst k0;have A:Hid (goodJ (d+1) (.mk 0 i t ks l)=true):=by show _=_;rw[m.out];rfl
    go_enter Tryz.func80,Tryz.ntmps80;go_wp2_with(first
     | (go_at_call 108;refine F.mono ?_;rintro x c ⟨rfl,z⟩;obtain⟨h,f⟩:=u c z;clear u;obtain⟨c0,c1,c2,c3,c4⟩:=aj h))
    go_ret;exact⟨ak A.out.symm,f⟩
   rw[if_neg k0]at m
   by_cases k1:k=1
   ·subst k1;rw[if_pos rfl]at m
    by_cases i0:i=0
    ·subst i0;have A:Hid (goodJ (d+1) (.mk 1 0 t ks l)=true):=by show _=_;rw[m.out];rfl
     go_enter Tryz.func80,Tryz.ntmps80;go_wp2_with(first
      | (go_at_call 108;refine F.mono ?_;rintro x c ⟨rfl,z⟩;obtain⟨h,f⟩:=u c z;clear u;obtain⟨c0,c1,c2,c3,c4⟩:=aj h))
     go_ret;exact⟨ak A.out.symm,f⟩
    ·by_cases G:i=1
     ·subst G;have A:Hid (goodJ (d+1) (.mk 1 1 t ks l)=true):=by show _=_;rw[m.out];rfl
      go_enter Tryz.func80,Tryz.ntmps80;go_wp2_with(first
       | (go_at_call 108;refine F.mono ?_;rintro x c ⟨rfl,z⟩;obtain⟨h,f⟩:=u c z;clear u;obtain⟨c0,c1,c2,c3,c4⟩:=aj h))
      go_ret;exact⟨ak A.out.symm,f⟩
     ·skip
      have A:Hid (goodJ (d+1) (.mk 1 i t ks l)=false):=by show _=_;rw[m.out];simp[i0,G]
      go_enter Tryz.func80,Tryz.ntmps80;go_wp2_with(first
       | (go_at_call 108;refine F.mono ?_;rintro x c ⟨rfl,z⟩;obtain⟨h,f⟩:=u c z;clear u;obtain⟨c0,c1,c2,c3,c4⟩:=aj h))
      go_ret;refine⟨ak ?_,f⟩;rw[A.out]
      first| rfl| simp[i0,G]
   rw[if_neg k1]at m
   by_cases k2:k=2
   ·subst k2;rw[if_pos rfl]at m;unfold bI at m
    by_cases i0: -9007199254740991<=i
    ·skip
     by_cases G:i<=9007199254740991
     ·skip
      have A:Hid (goodJ (d+1) (.mk 2 i t ks l)=true):=by show _=_;rw[m.out];simp[i0,G]
      go_enter Tryz.func80,Tryz.ntmps80;go_wp2_with(first
       | (go_at_call 108;refine F.mono ?_;rintro x c ⟨rfl,z⟩;obtain⟨h,f⟩:=u c z;clear u;obtain⟨c0,c1,c2,c3,c4⟩:=aj h))
      go_ret;refine⟨ak ?_,f⟩
      first| exact A.out.symm| (rw[A.out];simp[i0,G])
     ·skip
      have A:Hid (goodJ (d+1) (.mk 2 i t ks l)=false):=by show _=_;rw[m.out];simp[G]
      go_enter Tryz.func80,Tryz.ntmps80;go_wp2_with(first
       | (go_at_call 108;refine F.mono ?_;rintro x c ⟨rfl,z⟩;obtain⟨h,f⟩:=u c z;clear u;obtain⟨c0,c1,c2,c3,c4⟩:=aj h))
      go_ret;refine⟨ak ?_,f⟩
      first| exact A.out.symm| (rw[A.out];simp[G])
    ·skip
     have A:Hid (goodJ (d+1) (.mk 2 i t ks l)=false):=by show _=_;rw[m.out];simp[i0]
     go_enter Tryz.func80,Tryz.ntmps80;go_wp2_with(first
      | (go_at_call 108;refine F.mono ?_;rintro x c ⟨rfl,z⟩;obtain⟨h,f⟩:=u c z;clear u;obtain⟨c0,c1,c2,c3,c4⟩:=aj h))
     go_ret;refine⟨ak ?_,f⟩
     first| exact A.out.symm| (rw[A.out];simp[i0])
   rw[if_neg k2]at m
   by_cases k3:k=3
   ·subst k3;rw[if_pos rfl]at m;go_enter Tryz.func80,Tryz.ntmps80;go_wp2_with(first
     | (go_at_call 108;refine F.mono ?_;rintro x c ⟨rfl,z⟩;obtain⟨h,f⟩:=u c z;clear u;obtain⟨c0,c1,c2,c3,c4⟩:=aj h)
     | (go_at_call 109;refine(Ag t c ht).mono ?_;rintro x w3 ⟨rfl,K⟩))
    go_ret;exact⟨ak m.out.symm,ae f K⟩
   rw[if_neg k3]at m
   by_cases k4:k=4
   ·subst k4;rw[if_pos rfl]at m;go_enter Tryz.func80,Tryz.ntmps80;go_wp2_with(first
     | (go_at_call 108;refine F.mono ?_;rintro x c ⟨rfl,z⟩;obtain⟨h,f⟩:=u c z;clear u;obtain⟨c0,c1,c2,c3,c4⟩:=aj h)
     | (go_at_call 110;refine(Ah V (fun x E=>Nat.lt_of_lt_of_le (H x E) (f).size) HD.out Bn (mf.carry fun x E=>⟨E,(f).block x (H x E)⟩) JF rM).mono ?_;rintro x w4 ⟨rfl,eQ⟩))
    go_ret;exact⟨ak m.out.symm,ae f eQ⟩
   rw[if_neg k4]at m
   by_cases k5:k=5
   ·subst k5;rw[if_pos rfl]at m
    by_cases T:ks.length=l.length
    ·have U:((ks.length:Int)==(l.length:Int))=true:=by simp[T]
     have HE:Hid (ks.length=l.length):=T;clear T
     cases r9:iE ks with
     | true=>
      have I:Hid (iE ks=true):=r9;have A:Hid (goodJ (d+1) (.mk 5 i t ks l)=l.all (goodJ d)):=by
       show _=_
       rw[m.out];unfold iE at r9;rw[r9,decide_eq_true HE.out]
       rfl
      clear r9;go_enter Tryz.func80,Tryz.ntmps80;go_wp2_with(first
       | (go_at_call 108;refine F.mono ?_;rintro x c ⟨rfl,z⟩;obtain⟨h,f⟩:=u c z;clear u;obtain⟨c0,c1,c2,c3,c4⟩:=aj h)
       | (go_at_call 111;refine(xX (ll.carry fun x E=>⟨E,f.block x (H x E)⟩) (fun x E=>Nat.lt_of_lt_of_le (H x E) f.size) gZ N).mono ?_;rw[I.out];rintro x w3 ⟨rfl,K⟩;have Y:=(K.block w.heap.size (Array.getElem?_eq_some_iff.1 h).1).trans h;have S:=ae f K;obtain⟨c03,rV,c23,Z,c43⟩:=aj Y)
       | (go_at_call 110;refine(Ah V (fun x E=>Nat.lt_of_lt_of_le (H x E) (S).size) HD.out Bn (mf.carry fun x E=>⟨E,(S).block x (H x E)⟩) JF rM).mono ?_;rintro x w4 ⟨rfl,eQ⟩))
      go_ret;exact⟨ak A.out.symm,ae S eQ⟩
     | false=>
      have I:Hid (iE ks=false):=r9;have A:Hid (goodJ (d+1) (.mk 5 i t ks l)=false):=by
       show _=_
       rw[m.out];unfold iE at r9;rw[r9,decide_eq_true HE.out]
       rfl
      clear r9;go_enter Tryz.func80,Tryz.ntmps80;go_wp2_with(first
       | (go_at_call 108;refine F.mono ?_;rintro x c ⟨rfl,z⟩;obtain⟨h,f⟩:=u c z;clear u;obtain⟨c0,c1,c2,c3,c4⟩:=aj h)
       | (go_at_call 111;refine(xX (ll.carry fun x E=>⟨E,f.block x (H x E)⟩) (fun x E=>Nat.lt_of_lt_of_le (H x E) f.size) gZ N).mono ?_;rw[I.out];rintro x w3 ⟨rfl,K⟩;have Y:=(K.block w.heap.size (Array.getElem?_eq_some_iff.1 h).1).trans h;have S:=ae f K;obtain⟨c03,rV,c23,Z,c43⟩:=aj Y))
      go_ret;exact⟨ak A.out.symm,S⟩
    ·have U:((ks.length:Int)==(l.length:Int))=false:=by simp;omega
     have A:Hid (goodJ (d+1) (.mk 5 i t ks l)=false):=by
      show _=_
      rw[m.out,decide_eq_false T]
      rfl
     clear T;go_enter Tryz.func80,Tryz.ntmps80;go_wp2_with(first
      | (go_at_call 108;refine F.mono ?_;rintro x c ⟨rfl,z⟩;obtain⟨h,f⟩:=u c z;clear u;obtain⟨c0,c1,c2,c3,c4⟩:=aj h))
     go_ret;exact⟨ak A.out.symm,f⟩
   ·rw[if_neg k5]at m;go_enter Tryz.func80,Tryz.ntmps80;go_wp2_with(first
     | (go_at_call 108;refine F.mono ?_;rintro x c ⟨rfl,z⟩;obtain⟨h,f⟩:=u c z;clear u;obtain⟨c0,c1,c2,c3,c4⟩:=aj h))
    go_ret;exact⟨ak m.out.symm,f⟩
theorem zaY:∀d,d<=12->JH d
 | 0,_=>NG
 | d+1,h=>NH (zaY d (by omega)) h
def Elo(O:Nat->Prop)(B:Nat)(v:Value)(w:World):Nat->Prop:=fun k=>O k\/ (B<=k/\k<w.heap.size/\v.ownBlock≠some k)
structure AI(O:Nat->Prop)(B b:Nat)(WA:World)(qN:Array Value)(dF:List J)(vl:Value)(wr:World):Prop where
 box:wr.heap[b]?=some (.cells qN 25 (0,0))
 res:wr.heap[b+1]?=some (.cells #[.int .i64 0,.int .i64 0,.string ⟨#[]⟩,.slice none 0 0,.slice none 0 0] 25 (0,0))
 eD:∃xs,wr.ownsRow B 25 5 vl dF.length xs/\isRow (Elo O B vl wr) wr dF xs
 below:Below B WA wr
 MN:WA.heap.size=B
 lt:b+1<B
 low:∀k,O k->k<b
section
variable {O : Nat -> Prop} {B b : Nat} {WA W W4 W5 : World} {qN : Array Value} {dF : List J} {vl iM : Value} {o1 o2 : Obj} {y : J} {cs xs : List Value}
theorem AI.size(h:AI O B b WA qN dF vl W):B<=W.heap.size:=by have:=h.below.size;have:=h.MN;omega
theorem AI.more(h:AI O B b WA qN dF vl W)(c:Below W.heap.size W W4):AI O B b WA qN dF vl W4:=by
 have m:=h.size;have f:=h.lt;have j:=c.size;obtain⟨xs,h1,h2⟩:=h.eD;have kp:ag (fun _=>False) W W4:=ag.fJ c;refine⟨(c.block b (by omega)).trans h.box,(c.block (b+1) (by omega)).trans h.res,⟨xs,aX h1 kp fun _ _ h=>h,h2.carry fun k d=> ?_⟩,h.below.trans ⟨c.os,c.tape,c.output,c.size,fun k d=>c.block k (by omega)⟩,h.MN,f,h.low⟩
 rcases d with d| d
 ·have:=h.low k d;exact⟨.inl d,c.block k (by omega)⟩
 ·exact⟨.inr ⟨d.1,by have:=d.2.1;omega,d.2.2⟩,c.block k d.2.1⟩
theorem AI.alloc(h:AI O B b WA qN dF vl W)(o:Obj):AI O B b WA qN dF vl (W.alloc o):=h.more ((Below.refl _ _).alloc (Nat.le_refl _) o)
theorem AI.push(h:AI O B b WA qN dF vl W)(h1:W.ownsRow B 25 5 vl dF.length xs)(h2:isRow (Elo O B vl W) W dF xs)(j:isJ (Elo O B vl W) W y cs)
    (x:W5.ownsRow B 25 5 iM (dF.length+1) (xs++cs)) (d:W.grownBy W5 vl.ownBlock) (m:iM.ownBlock=vl.ownBlock\/ iM.ownBlock=some W.heap.size):AI O B b WA qN (dF++ [y]) iM W5:=by
 have E:=h.size;have u:=h.lt;have A:=d.size;have z:=aJ h1;have low:∀k,k<B->W5.heap[k]?=W.heap[k]?:=fun k c=>d.block k (by omega) fun e=>by have:=(z k e.symm).1;omega
 have carry:∀k,Elo O B vl W k->Elo O B iM W5 k/\W5.heap[k]?=W.heap[k]?:=by
  intro k c
  rcases c with c| c
  ·have:=h.low k c;exact⟨.inl c,low k (by omega)⟩
  ·refine⟨.inr ⟨c.1,by have:=c.2.1;omega,fun e=> ?_⟩,d.block k c.2.1 fun e=>c.2.2 e.symm⟩
   rcases m with f| f
   ·exact c.2.2 (f ▸ e)
   ·rw[f]at e;have:=Option.some.inj e;have:=c.2.1;omega
 exact⟨(low b (by omega)).trans h.box,(low (b+1) (by omega)).trans h.res,⟨xs++cs,by rw[List.length_append];exact x,isRow.snoc j.qC (j.carry carry) dF xs (h2.carry carry)⟩,h.below.trans ⟨d.os,d.tape,d.output,d.size,low⟩,h.MN,u,h.low⟩
theorem AI.new(h:AI O B b WA qN dF vl W)(d:Below W.heap.size W W4)(j:isJ (fun k=>O k\/ gH W W4 k) W4 y cs)(o:Obj):isJ (Elo O B vl (W4.alloc o)) (W4.alloc o) y cs:=by
 have x:=h.size;have m:=d.size;obtain⟨xs,h1,_⟩:=h.eD;refine j.carry fun k c=> ?_
 rcases c with c| c
 ·have:=h.low k c;have:=h.lt;exact⟨.inl c,Below.heap_alloc _ _ _ (by omega)⟩
 ·have u:=c.1;have f:=c.2;exact⟨.inr ⟨by omega,by simp;omega,fun e=>by have:=(aJ h1 k e).2;omega⟩,Below.heap_alloc _ _ _ f⟩
end
theorem dI:∀l:List J,(ordL l).length=l.length
 | []=>by simp[ordL]
 | j::r=>by simp[ordL,dI r]
theorem qO(j:J):∀l:List J,ordL (l++ [j])=ordL l++ [ord j]
 | []=>by simp[ordL]
 | i::r=>by simp[ordL,qO j r]
def ZF(d:Nat):Prop:=∀(w:World) (O:Nat->Prop) (j:J) (k i:Int) (t:ByteArray) (pk pl:Option Addr) (nk ck nl cl:Nat),(∀x,O x->x<w.heap.size)->goodJ d j=true->szJ d j=true→
 isJ O w j [.int .i64 k,.int .i64 i,.string t,.slice pk nk ck,.slice pl nl cl]→
 Calls Tryz.prog 41 #[.agg #[.int .i64 k,.int .i64 i,.string t,.slice pk nk ck,.slice pl nl cl]] w fun x w'=>∃k i t pk nk ck pl nl cl,x=.returned (.agg #[.int .i64 k,.int .i64 i,.string t,.slice pk nk ck,.slice pl nl cl])∧
  isJ (fun x=>O x\/ gH w w' x) w' (ord j) [.int .i64 k,.int .i64 i,.string t,.slice pk nk ck,.slice pl nl cl]/\Below w.heap.size w w'
theorem Sn:ZF 0:=by
 intro w O j k i t pk pl nk ck nl cl d c;unfold goodJ at c
 cases c
theorem iF{d:Nat}{k i:Int}{t:ByteArray}{ks:List ByteArray}{l:List J}(h:goodJ (d+1) (.mk k i t ks l)=true):l.all (goodJ d)=true/\(k=5->ks.length=l.length/\ks.Pairwise (· ≠ ·))/\(k≠5->ks= []):=by
 rw[goodJ,Bool.and_eq_true]at h;obtain⟨c,h⟩:=h;unfold bare at c;simp only[Bool.and_eq_true,Bool.or_eq_true,decide_eq_true_eq]at c;obtain⟨⟨⟨_,_⟩,m⟩,u⟩:=c;refine⟨?_,fun e=> ?_,fun e=> ?_⟩
 ·by_cases j:k=4
  ·subst j;simpa using h
  ·by_cases f:k=5
   ·subst f;simp at h;rw[List.all_eq_true];exact h.2
   ·have:l= []:=List.eq_nil_of_length_eq_zero (by omega);subst this;rfl
 ·subst e;rw[if_neg (by decide),if_neg (by decide),if_neg (by decide),if_neg (by decide),if_neg (by decide),if_pos rfl]at h;simp only[Bool.and_eq_true,decide_eq_true_eq]at h;exact⟨h.1.1,iD h.1.2.2⟩
 ·exact List.eq_nil_of_length_eq_zero (by omega)
theorem VP{O:Nat->Prop}{w:World}(c:∀x,O x->x<w.heap.size)(qN:Array Value):AI O (w.heap.size+2) w.heap.size ((w.alloc (.cells qN 25)).alloc zJ) qN [] (.slice none 0 0) ((w.alloc (.cells qN 25)).alloc zJ):=by
 refine⟨?_, ?_,⟨[],World.ownsRow_nil _ _ _ _,rfl⟩,Below.refl _ _,by simp,by omega,c⟩
 ·rw[Below.heap_alloc _ _ _ (by simp)];exact heap_alloc_new _ _
 ·have:=heap_alloc_new (w.alloc (.cells qN 25)) zJ;rw[show(w.alloc (.cells qN 25)).heap.size=w.heap.size+1 by simp]at this;exact this
theorem JJ{O:Nat->Prop}{w wr:World}{qN:Array Value}{dF:List J}{vl:Value}(h:AI O (w.heap.size+2) w.heap.size ((w.alloc (.cells qN 25)).alloc zJ) qN dF vl wr):Below w.heap.size w wr:=by
 have h1:Below w.heap.size w ((w.alloc (.cells qN 25)).alloc zJ):=((Below.refl _ _).alloc (Nat.le_refl _) _).alloc (by simp) _;have h2:=h.below;exact h1.trans ⟨h2.os,h2.tape,h2.output,h2.size,fun k c=>h2.block k (by omega)⟩
theorem Fw{w wr W5:World}(h:Below w.heap.size w wr)(c:ag (One (w.heap.size+1)) wr W5):Below w.heap.size w W5:=
 h.trans (c.below h.size fun k d=>by unfold One;omega)
theorem Qj{w wr W5:World}{O:Nat->Prop}{j:J}{cs:List Value}(d:ag (One (w.heap.size+1)) wr W5)(h:isJ (fun x=>O x\/ (w.heap.size+2<=x/\x<wr.heap.size)) wr j cs)(f:∀x,O x->x<w.heap.size)(u:w.heap.size+2<=wr.heap.size):isJ (fun x=>O x\/ gH w W5 x) W5 j cs:=by
 have m:=d.size;refine h.carry fun k c=> ?_
 rcases c with c| c
 ·have:=f k c;exact⟨.inl c,d.block k (by omega) (by unfold One;omega)⟩
 ·exact⟨.inr ⟨by have:=c.1;omega,by have:=c.2;omega⟩,d.block k c.2 (by unfold One;have:=c.1;omega)⟩
theorem Sq{d:Nat}(V:ZF d):ZF (d+1):=by
 intro w O j k i t pk pl nk ck nl cl I hg fI hj
 cases j with
 | mk k' i' t' ks l=>
  unfold isJ at hj;obtain⟨GX,Er,GY,vD,e,ll,JF,mf⟩:=hj
  cases e
  unfold szJ at fI;simp only[Bool.and_eq_true,decide_eq_true_eq]at fI;obtain⟨ht,gZ,Et,rM,Bn⟩:=fI;obtain⟨vE,lu,IM⟩:=iF hg;have HG5:Hid (k=5->ks.length=l.length/\ks.Pairwise (· ≠ ·)):=lu;have HGN:Hid (k≠5->ks= []):=IM;clear lu IM hg Et;obtain⟨n,hn⟩:∃n,l.length=n:=⟨_,rfl⟩;have HN:Hid (l.length=n):=hn;obtain⟨m,hm⟩:∃m,ks.length=m:=⟨_,rfl⟩;have HM:Hid (ks.length=m):=hm;rw[hn,hm];rw[hn]at rM JF;rw[hm]at gZ;have zdX:=VP I #[.int .i64 k,.int .i64 i,.string t,.slice pk m ck,.slice pl n cl];clear hn hm;go_enter Tryz.func41,Tryz.ntmps41;go_wp2
  go_loopw [3,9] (fun vl S wr=>∃q:Nat,S=.int .i64 q/\q<=n/\AI O (w.heap.size+2) w.heap.size ((w.alloc (.cells #[.int .i64 k,.int .i64 i,.string t,.slice pk m ck,.slice pl n cl] 25)).alloc zJ) #[.int .i64 k,.int .i64 i,.string t,.slice pk m ck,.slice pl n cl] (ordL (l.take q)) vl wr) (fun _ S _=>n - (intOf S).toNat)
  case atStart=>exact⟨0,rfl,Nat.zero_le _,by rw[List.take_zero];exact zdX⟩
  case round=>
   clear zdX;obtain⟨q,rfl,hq,u⟩:=hrel;obtain⟨xs0,Uv,_⟩:=u.eD;obtain⟨z,sl2,f,rfl⟩:=gp Uv;clear Uv;obtain⟨c0,c1,c2,c3,c4⟩:=aj u.box;have dK:=JJ u
   by_cases hql:q<n
   ·have zbF:q<l.length:=by rw[HN.out];exact hql
    have Y:Hid (q<l.length):=zbF;obtain⟨lb,lo,cs,rO,za,bL,iV⟩:=isJs.at l 0 q mf zbF;subst rO;obtain⟨kv,S,tv,pv,nv,cv,qv,mv,dv,rfl⟩:=dD iV;have gT:=dK.block lb (I lb za);have cc:∀m v, [Value.int .i64 kv,.int .i64 S,.string tv,.slice pv nv cv,.slice qv mv dv][m]?=some v->wr.cell? ⟨lb,lo+q*5+m,none⟩=some v:=fun m v h=>by
     have:=bL m v h;rw[Nat.zero_add]at this;exact(World.cell?_of_block (a:=⟨lb,lo+q*5+m,none⟩) gT).trans this
    have y0:wr.cell? ⟨lb,lo+q*5,none⟩=some (.int .i64 kv):=cc 0 _ rfl;have y1:=cc 1 _ rfl;have y2:=cc 2 _ rfl;have y3:=cc 3 _ rfl;have y4:=cc 4 _ rfl;clear cc bL zbF;have hqc:(q:Int)<(n:Int):=by omega
    have zbG:=u.alloc (.cells #[.int .i64 kv,.int .i64 S,.string tv,.slice pv nv cv,.slice qv mv dv] 25);have bK:=JJ zbG;have hV:=V (wr.alloc (.cells #[.int .i64 kv,.int .i64 S,.string tv,.slice pv nv cv,.slice qv mv dv] 25)) O (l.getD q J.zero) kv S tv pv qv nv cv mv dv (fun x c=>Nat.lt_of_lt_of_le (I x c) bK.size) (lS vE Y.out) (lS Bn Y.out) (iV.carry fun x c=>⟨c,bK.block x (I x c)⟩);go_wp2_with(first
     | (go_at_call 41;refine hV.mono ?_;rintro x w4 ⟨F,H,T,K,U,E,N,G,A,rfl,Mf,eQ⟩
        have hy:=zbG.new eQ Mf (.cells #[.int .i64 F,.int .i64 H,.string T,.slice K U E,.slice N G A] 25);have Z:=(zbG.more eQ).alloc (.cells #[.int .i64 F,.int .i64 H,.string T,.slice K U E,.slice N G A] 25);obtain⟨xs,cK,fC⟩:=Z.eD)
     | (at_builtin;refine r_ rfl _ _ 23 rfl (w.heap.size+2) 25 (.agg #[.int .i64 0,.int .i64 0,.string ⟨#[]⟩,.slice none 0 0,.slice none 0 0]) 5 80 Tryz.underlying23 Tryz.eB rfl (by decide) (by decide) (.slice z sl2 f) (ordL (l.take q)).length xs rfl cK _ [.int .i64 F,.int .i64 H,.string T,.slice K U E,.slice N G A] rfl rfl (vC rfl) MQ (by rw[dI,List.length_take];omega) Z.size ?_
        intro oh W5 dN lu jw;obtain⟨q5,n5,c5,xc⟩:=gp dN;subst xc;have zf7:=Z.push cK fC hy dN lu jw;clear dN lu jw))
    go_roundw
    case rel=>exact⟨q+1,by go_num,hql,by rw[iA Y.out,qO];exact zf7⟩
    case measure=>simp[intOf];omega
   ·obtain rfl:q=n:=by omega
    have bQ:l.take q=l:=List.take_of_length_le (by rw[HN.out];omega);rw[bQ]at u;clear bQ;obtain⟨xs,cK,fC⟩:=u.eD;obtain⟨q2,pO,xA,xN,RG⟩:=rZ cK fC;have Zt:isJs (fun x=>O x\/ (w.heap.size+2<=x/\x<wr.heap.size)) wr q2 0 (ordL l):=RG.carry fun x c=>⟨by
     rcases c with(c| c)| c
     ·exact .inl c
     ·exact .inr ⟨c.1,c.2.1⟩
     ·exact .inr c,rfl⟩
    have HRJ:Hid (isJs (fun x=>O x\/ (w.heap.size+2<=x/\x<wr.heap.size)) wr q2 0 (ordL l)):=Zt;have JK:Hid ((ordL l).length<=pO):=xN;have YN:Hid ((ordL l).length=q):=(dI l).trans HN.out;rw[YN.out]at xA
    cases xA
    have zdY:j5 (fun x=>O x\/ (w.heap.size+2<=x/\x<wr.heap.size)) wr pk ck ks:=ll.carry fun x c=>⟨.inl c,dK.block x (I x c)⟩;have HRK:Hid (j5 (fun x=>O x\/ (w.heap.size+2<=x/\x<wr.heap.size)) wr pk ck ks):=zdY;have hOw:∀x,(O x\/ (w.heap.size+2<=x/\x<wr.heap.size))->x<wr.heap.size:=fun x c=>by
     rcases c with c| c
     ·have:=I x c;have:=dK.size;omega
     ·exact c.2
    obtain⟨i0,i1,i2,i3,i4⟩:=aj u.res;obtain⟨z0,z1,z2,z3,z4⟩:=aN u.res;have hsR:=u.size;clear RG Zt zdY xN cK fC ll mf
    by_cases k5:k=5
    ·subst k5;obtain⟨IE,Ad⟩:=HG5.out rfl;have hmo:=Fg (cl:=f) HRK.out HRJ.out (by rw[YN.out,<-HN.out];exact IE) hOw (by rw[HM.out];exact gZ) Ad;rw[HM.out,YN.out]at hmo;clear IE Ad;go_wp2_with(first
     | (go_at_call 81;refine hmo.mono ?_;rintro x w8 ⟨csr,rfl,Mf,qj⟩
        obtain⟨F,H,T,K,U,E,N,G,A,Qg⟩:=dD Mf;obtain rfl:csr=#[.int .i64 F,.int .i64 H,.string T,.slice K U E,.slice N G A]:=by rw[<-Array.toList_inj];exact Qg
        have oJ:=(qj.block _ (Array.getElem?_eq_some_iff.1 u.res).1).trans u.res;obtain⟨j0,j1,j2,j3,j4⟩:=aj oJ;obtain⟨x0,x1,x2,x3,x4⟩:=aN oJ))
     have h5:=aK oJ (.int .i64 F) (.int .i64 H) (.string T) (.slice K U E) (.slice N G A);have X:ag (One (w.heap.size+1)) w8 _:=aI w8 (w.heap.size+1) (.int .i64 F) (.int .i64 H) (.string T) (.slice K U E) (.slice N G A);unfold di at h5 X;obtain⟨k0,k1,k2,k3,k4⟩:=aj h5;refine bodyPost_ret (v:=.agg #[.int .i64 F,.int .i64 H,.string T,.slice K U E,.slice N G A]) (by simp[results,Tryz.results41,go_sem,k0,k1,k2,k3,k4]) rfl ?_;have zb:=Fw (ae dK qj) X;refine⟨_,_,_,_,_,_,_,_,_,rfl, ?_,zb⟩;have e:ord (.mk 5 i t ks l)=mapOf ks (ordL l):=by rw[ord,if_pos rfl]
     rw[e];exact Qj X (Mf.carry fun x c=>⟨by
      rcases c with(c| c)| c
      ·exact .inl c
      ·exact .inr ⟨c.1,by have:=qj.size;have:=c.2;omega⟩
      ·exact .inr ⟨by have:=c.1;omega,c.2⟩,rfl⟩) (fun x c=>I x c) (by have:=qj.size;omega)
    ·have HE:Hid (ord (.mk k i t ks l)=.mk k i t [] (ordL l)):=by show _=_;rw[ord,if_neg k5]
     go_wp2;have h5:=aK u.res (.int .i64 k) (.int .i64 i) (.string t) (.slice none 0 0) (.slice z q f);have X:ag (One (w.heap.size+1)) wr _:=aI wr (w.heap.size+1) (.int .i64 k) (.int .i64 i) (.string t) (.slice none 0 0) (.slice z q f);unfold di at h5 X;obtain⟨k0,k1,k2,k3,k4⟩:=aj h5;refine bodyPost_ret (v:=.agg #[.int .i64 k,.int .i64 i,.string t,.slice none 0 0,.slice z q f]) (by simp[results,Tryz.results41,go_sem,k0,k1,k2,k3,k4]) rfl ?_;have zb:=Fw dK X;refine⟨_,_,_,_,_,_,_,_,_,rfl, ?_,zb⟩;rw[HE.out];refine Qj X (cs:=_) ?_ (fun x c=>I x c) hsR;unfold isJ;exact⟨none,0,z,f,by rw[YN.out];rfl,j5.nil _ _,JK.out,HRJ.out⟩
theorem ZG:∀d,ZF d
 | 0=>Sn
 | d+1=>Sq (ZG d)
end Go.Proofs.YtldkblgclochjaaGreatDoor

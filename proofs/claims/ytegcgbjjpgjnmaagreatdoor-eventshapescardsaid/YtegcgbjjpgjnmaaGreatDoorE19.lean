/- A part. -/
import Derived.Test.YtegcgbjjpgjnmaaGreatDoorE18
set_option maxRecDepth 100000
set_option maxHeartbeats 16000000
namespace Go.Proofs.YtegcgbjjpgjnmaaGreatDoor
open Go.RowKit
theorem Ub{d:Nat}{ks:List ByteArray}{l:List J}(cB:ks.length=l.length)(oN:ks.all letters=true)(hp:ks.Pairwise (· ≠ ·))(hl:l.all (goodJ d)=true):goodJ (d+1) (mapOf ks l)=true:=by
 have pk:=o8 cB;have pv:=jJ cB;unfold mapOf;rw[goodJ];have e1:((fA (ks.zip l)).map (·.1)).all letters=true:=by
  rw[List.all_eq_true]at oN ⊢;exact fun x hx=>oN x (pk.mem_iff.1 hx)
 have e2:noKeyTwice ((fA (ks.zip l)).map (·.1))=true:=gB (pk.symm.pairwise hp fun{_ _} h=>h.symm);have e3:((fA (ks.zip l)).map (·.2)).all (goodJ d)=true:=by
  rw[List.all_eq_true]at hl ⊢;exact fun x hx=>hl x (pv.mem_iff.1 hx)
 rw[e1,e2,e3];simp[bare,aH,ByteArray.size]
theorem Qv{ks:List ByteArray}{l:List J}(cB:ks.length=l.length)(hp:ks.Pairwise (· ≠ ·))(hl:∀x∈l,inOrd x=true):inOrd (mapOf ks l)=true:=by
 have pv:=jJ cB;unfold mapOf;rw[inOrd,Bool.and_eq_true,mh];refine⟨lC _ ?_,fun x hx=>hl x (pv.mem_iff.1 hx)⟩;have:((ks.zip l).map (·.1)).Pairwise (· ≠ ·):=by rw[List.map_fst_zip (by omega)];exact hp
 exact List.pairwise_map.1 this
theorem zak{d:Nat}{ks:List ByteArray}{l:List J}(cB:ks.length=l.length)(rQ:ks.all (fun k=>decide (k.size<=1000000000))=true)(hl:l.all (szJ d)=true)(hn:l.length<=100000):szJ (d+1) (mapOf ks l)=true:=by
 have pk:=o8 cB;have pv:=jJ cB;unfold mapOf szJ;have e1:((fA (ks.zip l)).map (·.1)).all (fun k=>decide (k.size<=1000000000))=true:=by
  rw[List.all_eq_true]at rQ ⊢;exact fun x hx=>rQ x (pk.mem_iff.1 hx)
 have e3:((fA (ks.zip l)).map (·.2)).all (szJ d)=true:=by
  rw[List.all_eq_true]at hl ⊢;exact fun x hx=>hl x (pv.mem_iff.1 hx)
 rw[e1,e3,pk.length_eq,pv.length_eq,decide_eq_true hn,decide_eq_true (by omega:ks.length<=100000)]
 rfl
def Fit(d:Nat)(j:J):Prop:=goodJ d j=true/\inOrd j=true/\szJ d j=true
theorem Fit.list{d:Nat}{l:List J}(h:∀x∈l,Fit d x)(hn:l.length<=100000):Fit (d+1) (.mk 4 0 aH [] l):=by
 refine⟨?_, ?_, ?_⟩
 ·rw[goodJ];have:l.all (goodJ d)=true:=List.all_eq_true.2 fun x hx=>(h x hx).1;rw[this];simp[bare,aH,ByteArray.size]
 ·rw[inOrd,Bool.and_eq_true,mh];exact⟨rfl,fun x hx=>(h x hx).2.1⟩
 ·unfold szJ;have:l.all (szJ d)=true:=List.all_eq_true.2 fun x hx=>(h x hx).2.2;rw[this,decide_eq_true hn]
  rfl
theorem Fit.map{d:Nat}{ks:List ByteArray}{l:List J}(cB:ks.length=l.length)(hk:∀k∈ks,letters k=true/\k.size<=1000000000)(hp:ks.Pairwise (· ≠ ·))(h:∀x∈l,Fit d x)(hn:l.length<=100000):Fit (d+1) (mapOf ks l):=
 ⟨Ub cB (List.all_eq_true.2 fun k iK=>(hk k iK).1) hp (List.all_eq_true.2 fun x hx=>(h x hx).1),Qv cB hp fun x hx=>(h x hx).2.1,
  zak cB (List.all_eq_true.2 fun k iK=>decide_eq_true (hk k iK).2) (List.all_eq_true.2 fun x hx=>(h x hx).2.2) hn⟩
theorem I8{t:List Int}{d:Nat}{f:Nat->Res J}(hf:∀p j q,Fair t p->f p=.ok j q->Fit d j/\Fair t q):
    ∀(m p:Nat) (dz:List J) (j:J) (q:Nat),Fair t p->(∀x∈dz,Fit d x)->dz.length+m<=100000->listL t f m p dz=.ok j q->Fit (d+1) j/\Fair t q
 | 0,_,_,_,_,_,_,_,h=>by unfold listL at h;cases h
 | m+1,p,dz,j,q,hp,ha,hn,h=>by
  rw[Aw]at h
  cases hv:f (aG t p)with
  | bad e a=>rw[hv]at h;cases h
  | ok v r=>
   rw[hv]at h;obtain⟨hF,hr⟩:=hf _ v r hp.aG hv;have hr':=hr.aG;have Nw:∀x∈dz++ [v],Fit d x:=fun x hx=>by
    rcases List.mem_append.1 hx with hx| hx
    ·exact ha x hx
    ·rw[List.mem_singleton.1 hx];exact hF
   simp only[Res.bind]at h
   split at h
   ·rename_i UZ
    cases h
    exact⟨Fit.list Nw (by simp;omega),hr'.one (by omega)⟩
   ·split at h
    ·exact I8 hf m _ (dz++ [v]) j q (hr'.one (by omega)) Nw (by simp;omega) h
    ·cases h
theorem WL{t:List Int}(ht:Bytes t)(htl:t.length<=20000){ks:List ByteArray}{p q:Nat}{k:ByteArray}(hp:Fair t p)(h:jX t ks p=.ok k q):letters k=true/\k.size<=1000000000/\(∀x∈ks,x≠k)/\Fair t q:=by
 unfold jX at h
 split at h
 ·rename_i hb
  cases hq:quoted t p with
  | bad e a=>rw[hq]at h;cases h
  | ok s r=>
   rw[hq]at h;obtain⟨h1,h2,h3⟩:=sV ht hp hb hq;simp only[Res.bind]at h
   split at h
   ·cases h
   ·rename_i hany
    cases hm:pM t 58 (aG t r)with
    | bad e a=>rw[hm]at h;cases h
    | ok u r2=>
     rw[hm]at h
     cases h
     refine⟨h1,by omega,fun x hx hxk=>hany ?_,(Ed h2.aG (by omega) hm).aG⟩;exact List.any_eq_true.2 ⟨x,hx,decide_eq_true (by rw[hxk])⟩
 ·cases h
theorem Ej{t:List Int}(ht:Bytes t)(htl:t.length<=20000){d:Nat}{f:Nat->Res J}(hf:∀p j q,Fair t p->f p=.ok j q->Fit d j/\Fair t q):
    ∀(m p:Nat) (ks:List ByteArray) (dz:List J) (j:J) (q:Nat),Fair t p->ks.length=dz.length->(∀k∈ks,letters k=true/\k.size<=1000000000)->ks.Pairwise (· ≠ ·)->(∀x∈dz,Fit d x)->dz.length+m<=100000->pairsL t f m p ks dz=.ok j q->Fit (d+1) j/\Fair t q
 | 0,_,_,_,_,_,_,_,_,_,_,_,h=>by unfold pairsL at h;cases h
 | m+1,p,ks,dz,j,q,hp,cB,hk,hd,ha,hn,h=>by
  rw[yB]at h
  cases jH:jX t ks (aG t p)with
  | bad e a=>rw[jH]at h;cases h
  | ok k r0=>
   rw[jH]at h;obtain⟨k1,k2,k3,k4⟩:=WL ht htl hp.aG jH;simp only[Res.bind]at h
   cases hv:f r0 with
   | bad e a=>rw[hv]at h;cases h
   | ok v r=>
    rw[hv]at h;obtain⟨hF,hr⟩:=hf _ v r k4 hv;have hr':=hr.aG;have Nw:∀x∈dz++ [v],Fit d x:=fun x hx=>by
     rcases List.mem_append.1 hx with hx| hx
     ·exact ha x hx
     ·rw[List.mem_singleton.1 hx];exact hF
    have iK:∀x∈ks++ [k],letters x=true/\x.size<=1000000000:=fun x hx=>by
     rcases List.mem_append.1 hx with hx| hx
     ·exact hk x hx
     ·rw[List.mem_singleton.1 hx];exact⟨k1,k2⟩
    have YD:(ks++ [k]).Pairwise (· ≠ ·):=by
     rw[List.pairwise_append];exact⟨hd,List.pairwise_singleton _ _,fun x hx y hy=>by rw[List.mem_singleton.1 hy];exact k3 x hx⟩
    have wM:(ks++ [k]).length=(dz++ [v]).length:=by simp;exact cB
    simp only at h
    split at h
    ·cases h
     exact⟨Fit.map wM iK YD Nw (by simp;omega),hr'.one (by omega)⟩
    ·split at h
     ·exact Ej ht htl hf m _ (ks++ [k]) (dz++ [v]) j q (hr'.one (by omega)) wM iK YD Nw (by simp;omega) h
     ·cases h
theorem Oi(d:Nat)(k i:Int):szJ (d+1) (.mk k i aH [] [])=true:=by
 unfold szJ;rw[decide_eq_true (show aH.size<=1000000000 by decide)]
 rfl
theorem Oj:∀(l:List Int) (n:Int),0<=n->(∀c∈l,bX c=true)->0<=l.foldl (fun n c=>if n<=bK then n*10+(c - 48)else n) n
 | [],n,h,_=>h
 | c::l,n,h,hl=>by
  rw[List.foldl_cons];refine Oj l _ ?_ fun x hx=>hl x (List.mem_cons_of_mem _ hx);have:=hl c (List.mem_cons_self ..);unfold bX at this;simp only[Bool.and_eq_true,decide_eq_true_eq]at this
  split
  ·omega
  ·exact h
theorem MC{t:List Int}{p q:Nat}{j:J}(d:Nat)(hp:Fair t p)(h:number t p=.ok j q):Fit (d+1) j/\Fair t q:=by
 unfold number at h;have hs:Fair t (if ag t p=45 then p+1 else p):=by
  split
  ·exact hp.one (by omega)
  ·exact hp
 generalize hsd:(if ag t p=45 then p+1 else p)=s at h hs
 split at h
 ·rename_i hdig;simp only at h
  split at h
  ·cases h
  ·rename_i hno
   cases h
   have zy:0<=(digits t s).1:=by
    unfold digits
    split
    ·exact Int.le_refl _
    ·refine Oj _ 0 (Int.le_refl _) fun c hc=> ?_;exact List.all_eq_true.1 List.all_takeWhile c hc
   have hfa:Fair t (digits t s).2:=by
    unfold digits
    split
    ·exact hs.one (by omega)
    ·exact hs.nV
   have hm: -bK<=(if ag t p=45 then -(digits t s).1 else(digits t s).1)/\(if ag t p=45 then -(digits t s).1 else(digits t s).1)<=bK:=by
    unfold bK at hno ⊢
    split<;>omega
   refine⟨⟨?_,rfl,Oi d _ _⟩,hfa⟩;generalize (if ag t p=45 then -(digits t s).1 else(digits t s).1)=n at hm;rw[goodJ,if_neg (by decide),if_neg (by decide),if_pos rfl,decide_eq_true hm.1,decide_eq_true hm.2];simp[bare,aH,ByteArray.size]
 ·cases h
theorem Bz(d:Nat)(k i:Int)(h:k=0/\i=0\/ k=1/\(i=0\/ i=1)):Fit (d+1) (.mk k i aH [] []):=by
 refine⟨?_,rfl,Oi d k i⟩;rw[goodJ]
 rcases h with⟨rfl,rfl⟩| ⟨rfl,rfl| rfl⟩<;>simp[bare,aH,ByteArray.size]
theorem El{t:List Int}(ht:Bytes t)(htl:t.length<=20000):∀(d p:Nat) (j:J) (q:Nat),Fair t p->value t d p=.ok j q->Fit d j/\Fair t q
 | 0,p,j,q,_,h=>by
  unfold value at h
  split at h<;>cases h
 | d+1,p,j,q,hp,h=>by
  have hf:=fun p' j' q'=>El ht htl d p' j' q';unfold value at h
  split at h
  ·split at h
   ·cases hw:word t [110,117,108,108] p with
    | bad e a=>rw[hw]at h;cases h
    | ok u r=>rw[hw]at h;cases h;exact⟨Bz d 0 0 (.inl ⟨rfl,rfl⟩),uj _ _ _ u hp (by intro c hc;simp at hc;omega) hw⟩
   split at h
   ·cases hw:word t [116,114,117,101] p with
    | bad e a=>rw[hw]at h;cases h
    | ok u r=>rw[hw]at h;cases h;exact⟨Bz d 1 1 (.inr ⟨rfl,.inr rfl⟩),uj _ _ _ u hp (by intro c hc;simp at hc;omega) hw⟩
   split at h
   ·cases hw:word t [102,97,108,115,101] p with
    | bad e a=>rw[hw]at h;cases h
    | ok u r=>rw[hw]at h;cases h;exact⟨Bz d 1 0 (.inr ⟨rfl,.inl rfl⟩),uj _ _ _ u hp (by intro c hc;simp at hc;omega) hw⟩
   split at h
   ·rename_i hb
    cases hq:quoted t p with
    | bad e a=>rw[hq]at h;cases h
    | ok s r=>
     rw[hq]at h
     cases h
     obtain⟨h1,h2,h3⟩:=sV ht hp hb hq;refine⟨⟨?_,rfl, ?_⟩,h2⟩
     ·rw[goodJ,if_neg (by decide),if_neg (by decide),if_neg (by decide),if_pos rfl,h1];simp[bare]
     ·unfold szJ;rw[decide_eq_true (by omega:(strOfNums s).size<=1000000000)]
      rfl
   split at h
   ·unfold lu at h;have h1:Fair t (aG t (p+1)):=(hp.one (by omega)).aG
    split at h
    ·cases h
     exact⟨Fit.list (by simp) (by simp),h1.one (by omega)⟩
    ·exact I8 hf _ _ [] j q h1 (by simp) (by simp;omega) h
   split at h
   ·unfold iG at h;have h1:Fair t (aG t (p+1)):=(hp.one (by omega)).aG
    split at h
    ·cases h
     have:=Fit.map (d:=d) (ks:= []) (l:= []) rfl (by simp) List.Pairwise.nil (by simp) (by simp);exact⟨this,h1.one (by omega)⟩
    ·exact Ej ht htl hf _ _ [] [] j q h1 rfl (by simp) List.Pairwise.nil (by simp) (by simp;omega) h
   ·exact MC d hp h
  ·cases h
theorem ME{t:List Int}(ht:Bytes t){j:J}{q:Nat}(h:decode t=.ok j q):Fit 12 j:=by
 unfold decode at h
 split at h
 ·cases h
 ·rename_i cB
  split at h
  ·cases h
  ·rename_i hs;unfold whole at h
   cases hv:value t 12 (aG t 0)with
   | bad e a=>rw[hv]at h;cases h
   | ok v r=>
    rw[hv]at h;simp only[Res.bind]at h
    split at h
    ·cases h
    ·cases h
     exact(El ht (by omega) 12 _ _ _ (CX hs).aG hv).1
open Go.RowKit Go.Maps
theorem Ol{d:Nat}(ih:∀j,goodJ d j=true->szJ d j=true->szJ d (ord j)=true):∀l:List J,l.all (goodJ d)=true->l.all (szJ d)=true->(ordL l).all (szJ d)=true
 | [],_,_=>rfl
 | j::r,hg,hs=>by
  rw[List.all_cons,Bool.and_eq_true]at hg hs;rw[ordL,List.all_cons,ih j hg.1 hs.1,Ol ih r hg.2 hs.2]
  rfl
theorem MF:∀(d:Nat) (j:J),goodJ d j=true->szJ d j=true->szJ d (ord j)=true
 | 0,j,_,_=>by unfold szJ;rfl
 | d+1,.mk k i t ks l,hg,hs=>by
  obtain⟨zA,lh,Ik⟩:=iN hg;unfold szJ at hs;simp only[Bool.and_eq_true,decide_eq_true_eq]at hs;obtain⟨RD,JU,rQ,uI,Ce⟩:=hs;have hol:=Ol (MF d) l zA Ce
  by_cases h5:k=5
  ·subst h5;have cB:ks.length=(ordL l).length:=by rw[dZ];exact(lh rfl).1
   have p1:=o8 cB;have p2:=jJ cB;rw[ord,if_pos rfl];unfold mapOf szJ;simp only[Bool.and_eq_true,decide_eq_true_eq];refine⟨by decide,by rw[p1.length_eq];exact JU, ?_,by rw[p2.length_eq,dZ];exact uI, ?_⟩
   ·rw[List.all_eq_true]at rQ ⊢;exact fun x hx=>rQ x (p1.subset hx)
   ·rw[List.all_eq_true]at hol ⊢;exact fun x hx=>hol x (p2.subset hx)
  ·rw[ord,if_neg h5];unfold szJ;simp only[Bool.and_eq_true,decide_eq_true_eq];exact⟨RD,by simp,by rfl,by rw[dZ];exact uI,hol⟩
theorem Om:∀(d:Nat) (j:J),goodJ d j=true->szJ d j=true->szJ (d+1) j=true
 | 0,j,h,_=>by unfold goodJ at h;cases h
 | d+1,.mk k i t ks l,h,hs=>by
  unfold goodJ at h;rw[Bool.and_eq_true]at h;unfold szJ at hs ⊢;simp only[Bool.and_eq_true]at hs ⊢;refine⟨hs.1,hs.2.1,hs.2.2.1,hs.2.2.2.1, ?_⟩;rw[List.all_eq_true];intro x hx;have zX:=List.all_eq_true.1 hs.2.2.2.2 x hx;refine Om d x ?_ zX;have hb:=h.1;unfold bare at hb;simp only[Bool.and_eq_true,Bool.or_eq_true,decide_eq_true_eq]at hb
  rcases hb.2 with(hb| hb)| hb
  ·rw[List.eq_nil_of_length_eq_zero hb]at hx;cases hx
  ·subst hb;have h2:=h.2;simp only[show(4:Int)=0↔False by decide,show(4:Int)=1↔False by decide,show(4:Int)=2↔False by decide,show(4:Int)=3↔False by decide,if_false,if_true]at h2;exact List.all_eq_true.1 h2 x hx
  ·subst hb;have h2:=h.2;simp only[show(5:Int)=0↔False by decide,show(5:Int)=1↔False by decide,show(5:Int)=2↔False by decide,show(5:Int)=3↔False by decide,show(5:Int)=4↔False by decide,if_false,if_true,Bool.and_eq_true]at h2;exact List.all_eq_true.1 h2.2 x hx
theorem rz{d:Nat}{j:J}(h:goodJ (d+1) j=true):j.keys.length<=j.list.length/\j.keys.Pairwise (· ≠ ·)/\(∀x∈j.list,goodJ d x=true)/\(j.kind≠5->j.keys= []):=by
 cases j with
 | mk k i t ks l=>
  unfold goodJ at h;rw[Bool.and_eq_true]at h;have hb:=h.1;unfold bare at hb;simp only[Bool.and_eq_true,Bool.or_eq_true,decide_eq_true_eq]at hb;simp only[J.keys,J.list,J.kind];have hk:k≠5->ks= []:=fun hn=>by
   rcases hb.1.2 with e| e
   ·exact List.eq_nil_of_length_eq_zero e
   ·exact absurd e hn
  by_cases h5:k=5
  ·subst h5;have h2:=h.2;simp only[show(5:Int)=0↔False by decide,show(5:Int)=1↔False by decide,show(5:Int)=2↔False by decide,show(5:Int)=3↔False by decide,show(5:Int)=4↔False by decide,if_false,if_true,Bool.and_eq_true,decide_eq_true_eq]at h2;exact⟨by omega,gW h2.1.2.2,List.all_eq_true.1 h2.2,hk⟩
  ·rw[hk h5];refine⟨by simp,List.Pairwise.nil,fun x hx=> ?_,fun _=>rfl⟩
   rcases hb.2 with(e| e)| e
   ·rw[List.eq_nil_of_length_eq_zero e]at hx;cases hx
   ·subst e;have h2:=h.2;simp only[show(4:Int)=0↔False by decide,show(4:Int)=1↔False by decide,show(4:Int)=2↔False by decide,show(4:Int)=3↔False by decide,if_false,if_true]at h2;exact List.all_eq_true.1 h2 x hx
   ·exact absurd e h5
theorem gZ{d:Nat}{j:J}(h:szJ (d+1) j=true):j.text.size<=1000000000/\j.keys.length<=100000/\(∀x∈j.keys,x.size<=1000000000)/\j.list.length<=100000/\∀x∈j.list,szJ d x=true:=by
 cases j with
 | mk k i t ks l=>
  unfold szJ at h;simp only[Bool.and_eq_true,decide_eq_true_eq]at h;obtain⟨h1,h2,h3,h4,h5⟩:=h;exact⟨h1,h2,fun x hx=>of_decide_eq_true (List.all_eq_true.1 h3 x hx),h4,fun x hx=>List.all_eq_true.1 h5 x hx⟩
def xR(d:Nat)(j:J):Prop:=goodJ d j=true/\szJ d j=true
theorem Em(d:Nat):xR (d+1) J.zero:=⟨by unfold J.zero goodJ bare;simp[show aH.size=0 from rfl],by unfold J.zero szJ;rfl⟩
theorem lK{d:Nat}{ps:List (ByteArray×J)}(h:∀x∈ps.map (·.2),xR (d+1) x)(s:ByteArray):xR (d+1) (iA ps s):=by
 unfold iA
 cases e:lookJ ps s with
 | none=>exact Em d
 | some j=>exact h j (Og e)
theorem kE{d:Nat}{ps:List (ByteArray×J)}(h:∀x∈ps.map (·.2),xR (d+1) x)(s:ByteArray):∀x∈(lg ps s).map (·.2),xR (d+1) x:=fun x hx=>h x (((I4 ps s).map _).subset hx)
theorem Qw{d:Nat}{j:J}(h:xR (d+1) j):xP j:=⟨(gZ h.2).2.2.2.1,(rz h.1).1⟩
theorem xS{j:J}(hg:goodJ 12 j=true)(hs:szJ 12 j=true):CG (dG j):=by
 have N0:∀x∈(o_ j).map (·.2),xR 11 x:=fun x hx=>by
  obtain⟨p,hp,rfl⟩:=List.mem_map.1 hx;have:=(List.of_mem_zip hp).2;exact⟨(rz hg).2.2.1 _ this,(gZ hs).2.2.2.2 _ this⟩
 have N1:=kE N0 eX;have N2:=kE N1 gH;have N3:=kE N2 bZ;have N4:=kE N3 aS;have N5:=kE N4 eu;have N6:=kE N5 dA;have N7:=kE N6 cu;have N8:=kE N7 uL;have N9:=kE N8 dO;have N10:=kE N9 fP;have tx:∀{x:J},xR 11 x->(∀y∈x.list.map J.text,y.size<=1000000000):=fun{x} hx y hy=>by
  obtain⟨z,hz,rfl⟩:=List.mem_map.1 hy;exact(gZ ((gZ hx.2).2.2.2.2 z hz)).1
 have g4:xR 11 (oh j):=lK N4 eu;have g5:xR 11 (om j):=lK N5 dA;have g9:xR 11 (nC j):=lK N9 fP;have g3:xR 11 (rG3 j):=lK N3 aS;refine⟨(gZ (lK N0 eX).2).1,(gZ (lK N1 gH).2).1,(gZ (lK N2 bZ).2).1, ?_,(gZ (lK N8 dO).2).1,Om 11 _ g3.1 g3.2, ?_,tx g4, ?_,tx g5, ?_,fun x hx=> ?_⟩
 ·show(if Qt j=true then(oo j).text else aH).size<=1000000000
  split
  ·exact(gZ (lK N10 lY).2).1
  ·decide
 ·show((oh j).list.map J.text).length<=100000
  rw[List.length_map];exact(gZ g4.2).2.2.2.1
 ·show((om j).list.map J.text).length<=100000
  rw[List.length_map];exact(gZ g5.2).2.2.2.1
 ·show(bH (nC j)).length<=100000
  rw[IZ (rz g9.1).1];exact(gZ g9.2).2.1
 ·have hx:x∈(nC j).keys.zip ((nC j).list.map J.text):=hx;exact⟨(gZ g9.2).2.2.1 _ (List.of_mem_zip hx).1,tx g9 _ (List.of_mem_zip hx).2⟩
theorem BA{O:Nat->Prop}{w:World}{j:J}{k i:Int}{t:ByteArray}{pk pl:Option Addr}{nk ck nl cl:Nat}(hO:∀x,O x->x<w.heap.size)(hj:isJ O w j [.int .i64 k,.int .i64 i,.string t,.slice pk nk ck,.slice pl nl cl])(hg:goodJ 12 j=true)(hs:szJ 12 j=true)(hn:j.keys.length<=80000):
    Calls Tryz.prog 34 #[.agg #[.int .i64 k,.int .i64 i,.string t,.slice pk nk ck,.slice pl nl cl]] w fun x w'=>(∃p,x=.returned (.tuple #[ed (dG j) p,.bool (jP j)])/\mF (fun q=>O q\/ fB w w' q) w' (dG j) p)/\Below w.heap.size w w':=by
 have g:=rz hg;have z:=gZ hs;have tm:∀x∈j.list,xP x:=fun x hx=>Qw (d:=10) ⟨g.2.2.1 x hx,z.2.2.2.2 x hx⟩
 cases lV:Qt j with
 | false=>
  cases hb:xO j with
  | true=>exact zh hO hj g.1 g.2.1 hn z.2.2.2.1 z.2.2.1 tm lV hb
  | false=>exact xQ hO hj g.1 g.2.1 hn z.2.2.2.1 z.2.2.1 tm lV hb
 | true=>
  cases hb:I1 j with
  | true=>exact Bv hO hj g.1 g.2.1 hn z.2.2.2.1 z.2.2.1 tm lV hb
  | false=>exact zi hO hj g.1 g.2.1 hn z.2.2.2.1 z.2.2.1 tm lV hb
def iU(j:J):Ev×Int:=if jP j=true then(if gL (dG j)=0 then(dG j,0)else(Ev.zero,gL (dG j)))else(Ev.zero,50)
theorem xU{j:J}(hs:szJ 12 j=true):xR 12 (fM j):=by
 unfold fM
 split
 ·rename_i h;exact⟨gY 12 j h,MF 12 j h hs⟩
 ·exact Em 11
theorem qw:∀{d:Nat} {j:J},goodJ d j=true->goodJ (d+1) j=true
 | 0,j,h=>by unfold goodJ at h;cases h
 | d+1,.mk k i t ks l,h=>by
  unfold goodJ at h ⊢;rw[Bool.and_eq_true]at h ⊢;refine⟨h.1, ?_⟩;have h2:=h.2;have up:l.all (goodJ d)=true->l.all (goodJ (d+1))=true:=fun hl=>List.all_eq_true.2 fun x hx=>qw (List.all_eq_true.1 hl x hx)
  split at h2
  ·rw[if_pos ‹_›]
  ·rw[if_neg ‹_›]
   split at h2
   ·rw[if_pos ‹_›];exact h2
   ·rw[if_neg ‹_›]
    split at h2
    ·rw[if_pos ‹_›];exact h2
    ·rw[if_neg ‹_›]
     split at h2
     ·rw[if_pos ‹_›];exact h2
     ·rw[if_neg ‹_›]
      split at h2
      ·rw[if_pos ‹_›];exact up h2
      ·rw[if_neg ‹_›]
       split at h2
       ·rw[if_pos ‹_›];rw[Bool.and_eq_true]at h2 ⊢;exact⟨h2.1,up h2.2⟩
       ·cases h2
def jw(e:Ev):Ev:=⟨e.room,e.aQ,e.ah,e.st,e.key,ord e.content,e.prev,e.aC,e.depth,e.ts,e.hash,e.sigs⟩
theorem BB:∀l:List ByteArray,ordL (l.map aL)=l.map aL
 | []=>rfl
 | a::r=>by
  rw[List.map_cons,ordL,BB r]
  rfl
theorem En(l:List ByteArray):ord (dB l)=dB l:=by
 show J.mk 4 0 aH [] (ordL (l.map aL))=_
 rw[BB]
 rfl
theorem nK:∀l:List ByteArray,inOrdL (l.map aL)=true
 | []=>rfl
 | a::r=>by
  rw[List.map_cons,inOrdL,nK r]
  rfl
theorem MG:∀l:List (ByteArray×ByteArray),riseS l=true->rises (l.map (·.1))=true:=by
 intro l h;have hp:=xM l h;clear h
 induction l with
 | nil=>rfl
 | cons a r ih=>
  rw[List.pairwise_cons]at hp;rw[List.map_cons];unfold rises;rw[ih hp.2,Bool.and_true,List.all_eq_true];intro x hx;obtain⟨y,hy,rfl⟩:=List.mem_map.1 hx;exact hp.1 y hy
theorem Qx(l:List (ByteArray×ByteArray)):(l.map fun s=>aL s.2)=(l.map (·.2)).map aL:=by rw[List.map_map];rfl
theorem wV{l:List (ByteArray×ByteArray)}(h:riseS l=true):inOrd (dF l)=true:=by
 unfold dF inOrd;rw[MG l h,Qx,nK]
 rfl
theorem MH{l:List (ByteArray×ByteArray)}(h:riseS l=true)(hl:∀x∈l,letters x.1=true/\letters x.2=true):ord (dF l)=dF l:=
 qj 2 _ (yL (d:=0) hl h) (wV h)
theorem Eo{e:Ev}(hr:riseS e.sigs=true)(hl:∀x∈e.sigs,letters x.1=true/\letters x.2=true):ordL ((gp e).map (·.2))=(gp (jw e)).map (·.2):=by
 have h1:=En e.aC;have h2:=En e.prev;have h3:=MH hr hl;obtain⟨room,aQ,ah,st,key,content,prev,aC,depth,ts,hash,sigs⟩:=e;simp only at h1 h2 h3
 cases st
 ·show [ord (dB aC),ord content,ord (gz depth),ord (aL hash),ord (dB prev),ord (aL room),ord (aL ah),ord (dF sigs),ord (gz ts),ord (aL aQ)]=_
  rw[h1,h2,h3]
  rfl
 ·show [ord (dB aC),ord content,ord (gz depth),ord (aL hash),ord (aL key),ord (dB prev),ord (aL room),ord (aL ah),ord (dF sigs),ord (gz ts),ord (aL aQ)]=_
  rw[h1,h2,h3]
  rfl
theorem Qy(e:Ev):(gp (jw e)).map (·.1)=(gp e).map (·.1):=by
 rw[qm,qm]
 rfl
theorem I9(b:Bool):rises (if b=true then [dA,aS,cu,dO,lY,eu,eX,bZ,fP,uL,gH]else [dA,aS,cu,dO,eu,eX,bZ,fP,uL,gH])=true:=by
 cases b<;>kernel_rfl
theorem MJ{e:Ev}(hr:riseS e.sigs=true)(hc:inOrd e.content=true):inOrd (dI e)=true:=by
 unfold dI inOrd;rw[qm,I9,Bool.true_and];have h1:=nK e.aC;have h2:=nK e.prev;have h3:=wV hr;obtain⟨room,aQ,ah,st,key,content,prev,aC,depth,ts,hash,sigs⟩:=e;simp only at h1 h2 h3 hc;have g1:inOrd (dB aC)=true:=by unfold dB inOrd;rw[h1];rfl
 have g2:inOrd (dB prev)=true:=by unfold dB inOrd;rw[h2];rfl
 cases st
 ·show(inOrd (dB aC)&&(inOrd content&&(inOrd (gz depth)&&(inOrd (aL hash)&&(inOrd (dB prev)&&(inOrd (aL room)&&(inOrd (aL ah)&&(inOrd (dF sigs)&&(inOrd (gz ts)&&(inOrd (aL aQ)&&true))))))))))=true
  rw[g1,g2,h3,hc]
  rfl
 ·show(inOrd (dB aC)&&(inOrd content&&(inOrd (gz depth)&&(inOrd (aL hash)&&(inOrd (aL key)&&(inOrd (dB prev)&&(inOrd (aL room)&&(inOrd (aL ah)&&(inOrd (dF sigs)&&(inOrd (gz ts)&&(inOrd (aL aQ)&&true)))))))))))=true
  rw[g1,g2,h3,hc]
  rfl
theorem tq{e:Ev}(h:aO e=true):aO (jw e)=true:=by
 obtain⟨p1,p2,p3,p4,p5,p6,p7,p8,p9⟩:=iY h;have g:=kV p3;have hk:(ord e.content).kind=5:=by
  obtain⟨room,aQ,ah,st,key,⟨k,i,t,ks,l⟩,prev,aC,depth,ts,hash,sigs⟩:=e;obtain rfl:k=5:=g.2
  rfl
 have hf:fq (ord e.content)=true:=by
  have:=gY 11 _ g.1;unfold fq;rw[hk,decide_eq_true rfl,Bool.true_and];unfold goodJ;simp[this,bare,show aH.size=0 from rfl]
 have q1:fJ (jw e)=true:=p1;have q2:ig (jw e)=true:=p2;unfold aO;rw[q1,q2]
 show(true&&true&&fq (ord e.content)&&bU 20 e.prev&&bU 10 e.aC&&dQ e.depth 1099511627776&&dQ e.ts bK&&(decide (e.hash.size=0) || iH e.hash)&&di e.sigs)=true
 rw[hf,p4,p5,p6,p7,p9]
 rcases p8 with p8| p8
 ·rw[decide_eq_true p8];rfl
 ·rw[p8,Bool.or_true];rfl
theorem I_{e:Ev}(h:aO e=true):ord (dI e)=dI (jw e):=by
 obtain⟨_,_,_,_,_,hl,hr⟩:=Eg h;have hb:=tq h;have hg:=kV (iY h).2.2.1;have e1:ord (dI e)=ord (dI (jw e)):=by
  have e2:ordL ((gp (jw e)).map (·.2))=ordL ((gp e).map (·.2)):=by
   have e3:=Eo (e:=jw e) hr hl;rw[e3,Eo hr hl];have e4:ord (ord e.content)=ord e.content:=qj 11 _ (gY 11 _ hg.1) (nR 11 _ hg.1);unfold jw;rw[e4]
  show mapOf ((gp e).map (·.1)) (ordL ((gp e).map (·.2)))=mapOf ((gp (jw e)).map (·.1)) (ordL ((gp (jw e)).map (·.2)))
  rw[e2,Qy]
 rw[e1];exact qj 12 _ (fC hb) (MJ hr (nR 11 _ hg.1))
theorem Qz{e:Ev}(h:aO e=true):fM (ord (dI e))=ord (dI e):=by
 have hg:=fC h;have m_:=gY 12 _ hg;unfold fM;rw[if_pos m_];exact qj 12 _ m_ (nR 12 _ hg)
open Go.RowKit
theorem FC{w:World}{b:Nat}{t:TypeId}{u0 u1 u2 u3 u4 u5 u6 u7 u8 u9 u10 u11 u12 u13 u14 u15:Value}(h:w.heap[b]?=some (.cells #[u0,u1,u2,u3,u4,u5,u6,u7,u8,u9,u10,u11,u12,u13,u14,u15] t (0,0))):(Instr.loadAt 28 (.pointer (some ⟨b,0,none⟩))).run Tryz.prog w=.ok (.agg #[u0,u1,u2,u3,u4,u5,u6,u7,u8,u9,u10,u11,u12,u13,u14,u15]) w:=by
 have k0:=az h 0 _ rfl;have k1:=az h 1 _ rfl;have k2:=az h 2 _ rfl;have k3:=az h 3 _ rfl;have k4:=az h 4 _ rfl;have k5:=az h 5 _ rfl;have k6:=az h 6 _ rfl;have k7:=az h 7 _ rfl;have k8:=az h 8 _ rfl;have k9:=az h 9 _ rfl;have Oh:=az h 10 _ rfl;have TL:=az h 11 _ rfl;have Mm:=az h 12 _ rfl;have TM:=az h 13 _ rfl;have TN:=az h 14 _ rfl;have TP:=az h 15 _ rfl;simp[Instr.loadAt,go_sem,k0,k1,k2,k3,k4,k5,k6,k7,k8,k9,Oh,TL,Mm,TM,TN,TP]
section
variable {w : World} {eH : Array Oper} {rest : List Oper} {o : Oper} {a : Act} {Q : Exit -> Act -> World -> Prop} {b : Nat} {t : TypeId} {u0 u1 u2 u3 u4 u5 u6 u7 u8 u9 u10 u11 u12 u13 u14 u15 : Value}
theorem df(hg:o.guard=none)(m:Operand)(Qq:o.op=Op.load 28 m)(hm:a.eval m=.pointer (some ⟨b,0,none⟩))(h:w.heap[b]?=some (.cells #[u0,u1,u2,u3,u4,u5,u6,u7,u8,u9,u10,u11,u12,u13,u14,u15] t (0,0)))
    (hK:wpList Tryz.prog eH Q rest (a.put o.dst (.agg #[u0,u1,u2,u3,u4,u5,u6,u7,u8,u9,u10,u11,u12,u13,u14,u15])) w):wpList Tryz.prog eH Q (o::rest) a w:=by
 refine wpList_plain hg fun K' hK'=> ?_;have hl:=FC h;unfold Oper.wp;simp[execOp,Qq,hm,hl,Result.andThen];exact hK' _ _ hK
end
theorem BC{α:Type}{z:α}{a b:List α}(hl:a.length=b.length)(h:∀n,n<a.length->a.getD n z=b.getD n z):a=b:=by
 apply List.ext_getElem hl
 intro n h1 h2;have:=h n h1;rw[List.getD_eq_getElem?_getD,List.getD_eq_getElem?_getD,List.getElem?_eq_getElem h1,List.getElem?_eq_getElem h2]at this;exact this
def Oo(d:Nat):Prop:=∀(w:World) (O:Nat->Prop) (x y:J) (k i:Int) (t:ByteArray) (pk pl:Option Addr) (nk ck nl cl:Nat) (k' i':Int) (t':ByteArray) (F7 F8:Option Addr) (nk' DL nl' uG:Nat),(∀b,O b->b<w.heap.size)->goodJ d x=true->szJ d x=true→
 isJ O w x [.int .i64 k,.int .i64 i,.string t,.slice pk nk ck,.slice pl nl cl]->isJ O w y [.int .i64 k',.int .i64 i',.string t',.slice F7 nk' DL,.slice F8 nl' uG]→
 Calls Tryz.prog 12 #[.agg #[.int .i64 k,.int .i64 i,.string t,.slice pk nk ck,.slice pl nl cl],.agg #[.int .i64 k',.int .i64 i',.string t',.slice F7 nk' DL,.slice F8 nl' uG]] w fun r w'=>(∃b,r=.returned (.bool b)/\(b=true↔x=y))/\Below w.heap.size w w'
theorem Ep{O:Nat->Prop}{w:World}{kx ix:Int}{tx:ByteArray}{ks:List ByteArray}{l:List J}{k i:Int}{t:ByteArray}{pk pl:Option Addr}{nk ck nl cl:Nat}(h:isJ O w (.mk kx ix tx ks l) [.int .i64 k,.int .i64 i,.string t,.slice pk nk ck,.slice pl nl cl]):
    k=kx/\i=ix/\t=tx/\nk=ks.length/\nl=l.length/\jT O w pk ck ks/\l.length<=cl/\isJs O w pl 0 l:=by
 unfold isJ at h;obtain⟨F7,DL,F8,uG,e,h1,h2,h3⟩:=h;simp only[List.cons.injEq,Value.int.injEq,Value.string.injEq,Value.slice.injEq,true_and,and_true]at e;obtain⟨rfl,rfl,rfl,⟨rfl,rfl,rfl⟩,rfl,rfl,rfl⟩:=e;exact⟨rfl,rfl,rfl,rfl,rfl,h1,h2,h3⟩
theorem jT.cellAt{O:Nat->Prop}{w:World}{p:Option Addr}{c:Nat}{ks:List ByteArray}(h:jT O w p c ks){n:Nat}(hn:n<ks.length):∃a,p=some a/\O a.block/\w.cell? (a.add n)=some (.string (aN ks n)):=h.2 n hn
theorem QA:Oo 0:=fun _ _ x _ _ _ _ _ _ _ _ _ _ _ _ _ _ _ _ _ _ _ _ hg=>by unfold goodJ at hg;cases hg
theorem QB{d:Nat}(V:Oo d):Oo (d+1):=by
 intro w O x y k i t pk pl nk ck nl cl k' i' t' F7 F8 nk' DL nl' uG hO hg fI hx hy;obtain⟨kx,ix,tx,ks,l⟩:=x;obtain⟨ky,iy,ty,ms,r⟩:=y;obtain⟨rfl,rfl,rfl,rfl,rfl,hkx,hlx,hsx⟩:=Ep hx;obtain⟨rfl,rfl,rfl,rfl,rfl,hky,hly,hsy⟩:=Ep hy;clear hx hy;unfold szJ at fI;simp only[Bool.and_eq_true,decide_eq_true_eq]at fI;obtain⟨_,rQ,_,uI,Ja⟩:=fI;have HGL:Hid (l.all (goodJ d)=true):=(iN hg).1;have HLS:Hid (l.all (szJ d)=true):=Ja;clear hg Ja;obtain⟨nk,oq⟩:∃n,ks.length=n:=⟨_,rfl⟩;obtain⟨nm,hnm⟩:∃n,ms.length=n:=⟨_,rfl⟩;obtain⟨nl,mV⟩:∃n,l.length=n:=⟨_,rfl⟩;obtain⟨nr,hnr⟩:∃n,r.length=n:=⟨_,rfl⟩;have jy:Hid (ks.length=nk):=oq;have Rf:Hid (ms.length=nm):=hnm;have qP:Hid (l.length=nl):=mV;have HNR:Hid (r.length=nr):=hnr;have zet:=hkx.1;have zeu:=hky.1;rw[oq]at rQ zet ⊢;rw[hnm]at zeu ⊢;rw[mV]at uI hlx ⊢;rw[hnr]at hly ⊢;clear oq hnm mV hnr;have dP:Below w.heap.size w ((w.alloc (.cells #[.int .i64 k,.int .i64 i,.string t,.slice pk nk ck,.slice pl nl cl] 25)).alloc (.cells #[.int .i64 k',.int .i64 i',.string t',.slice F7 nm DL,.slice F8 nr uG] 25)):=((Below.refl _ _).alloc (Nat.le_refl _) _).alloc (by simp) _
 by_cases e1:k=k'
 rotate_left
 ·go_enter Tryz.func12,Tryz.ntmps12;go_wp2;go_ret;exact⟨⟨false,rfl,fun h=>(by cases h),fun h=>absurd (J.mk.inj h).1 e1⟩,((Below.refl _ _).alloc (Nat.le_refl _) _).alloc (by simp) _⟩
 by_cases e2:i=i'
 rotate_left
 ·go_enter Tryz.func12,Tryz.ntmps12;go_wp2;go_ret;exact⟨⟨false,rfl,fun h=>(by cases h),fun h=>absurd (J.mk.inj h).2.1 e2⟩,((Below.refl _ _).alloc (Nat.le_refl _) _).alloc (by simp) _⟩
 by_cases e3:t=t'
 rotate_left
 ·have Yo:(t.toList==t'.toList)=false:=by rw[beq_eq_false_iff_ne];intro e;exact e3 (toList_inj e)
  go_enter Tryz.func12,Tryz.ntmps12;go_wp2;go_ret;exact⟨⟨false,rfl,fun h=>(by cases h),fun h=>absurd (J.mk.inj h).2.2.1 e3⟩,((Below.refl _ _).alloc (Nat.le_refl _) _).alloc (by simp) _⟩
 by_cases e4:nk=nm
 rotate_left
 ·go_enter Tryz.func12,Tryz.ntmps12;go_wp2;go_ret;exact⟨⟨false,rfl,fun h=>(by cases h),fun h=>absurd (by rw[<-jy.out,<-Rf.out,(J.mk.inj h).2.2.2.1]) e4⟩,((Below.refl _ _).alloc (Nat.le_refl _) _).alloc (by simp) _⟩
 by_cases e5:nl=nr
 rotate_left
 ·go_enter Tryz.func12,Tryz.ntmps12;go_wp2;go_ret;exact⟨⟨false,rfl,fun h=>(by cases h),fun h=>absurd (by rw[<-qP.out,<-HNR.out,(J.mk.inj h).2.2.2.2]) e5⟩,((Below.refl _ _).alloc (Nat.le_refl _) _).alloc (by simp) _⟩
 subst e1 e2 e3 e4 e5;obtain⟨wB,nA⟩:∃wB,wB=((w.alloc (.cells #[.int .i64 k,.int .i64 i,.string t,.slice pk nk ck,.slice pl nl cl] 25)).alloc (.cells #[.int .i64 k,.int .i64 i,.string t,.slice F7 nk DL,.slice F8 nl uG] 25)):=⟨_,rfl⟩;have hA:wB.heap[w.heap.size]?=some (.cells #[.int .i64 k,.int .i64 i,.string t,.slice pk nk ck,.slice pl nl cl] 25 (0,0)):=by
  rw[nA,Below.heap_alloc _ _ _ (by simp)];exact heap_alloc_new _ _
 have hB:wB.heap[w.heap.size+1]?=some (.cells #[.int .i64 k,.int .i64 i,.string t,.slice F7 nk DL,.slice F8 nl uG] 25 (0,0)):=by
  rw[nA];have:=heap_alloc_new (w.alloc (.cells #[.int .i64 k,.int .i64 i,.string t,.slice pk nk ck,.slice pl nl cl] 25)) (.cells #[.int .i64 k,.int .i64 i,.string t,.slice F7 nk DL,.slice F8 nl uG] 25);simpa using this
 rw[<-nA]at dP;have wU:w.heap.size+2<=wB.heap.size:=by rw[nA];simp
 have Cr:Hid (∀W:World,Below wB.heap.size wB W->∀n v, [Value.int .i64 k,.int .i64 i,.string t,.slice pk nk ck,.slice pl nl cl][n]?=some v->W.cell? ⟨w.heap.size,n,none⟩=some v):=fun W hW n v hv=>
  (World.cell?_of_block (a:=⟨w.heap.size,n,none⟩) (hW.block w.heap.size (by omega))).trans (aR (cur:= [.int .i64 k,.int .i64 i,.string t,.slice pk nk ck,.slice pl nl cl]) hA n v hv)
 have Vh:Hid (∀W:World,Below wB.heap.size wB W->∀n v, [Value.int .i64 k,.int .i64 i,.string t,.slice F7 nk DL,.slice F8 nl uG][n]?=some v->W.cell? ⟨w.heap.size+1,n,none⟩=some v):=fun W hW n v hv=>
  (World.cell?_of_block (a:=⟨w.heap.size+1,n,none⟩) (hW.block (w.heap.size+1) (by omega))).trans (aR (cur:= [.int .i64 k,.int .i64 i,.string t,.slice F7 nk DL,.slice F8 nl uG]) hB n v hv)
 clear hA hB;go_enter Tryz.func12,Tryz.ntmps12;go_wp2;rw[<-nA];clear nA
 go_loopw [5] (fun v wr=>∃n:Nat,v=.int .i64 n/\n<=nk/\Hid (∀m,m<n->aN ks m=aN ms m)/\wr.heap=wB.heap/\Below wB.heap.size wB wr) (fun v _=>nk - (intOf v).toNat)
 case atStart=>exact⟨0,rfl,Nat.zero_le _,fun m hm=>absurd hm (by omega),rfl,Below.refl _ _⟩
 case round=>
  obtain⟨n,rfl,hn,HE,zbO,iB⟩:=hrel;have a3:=Cr.out wr iB 3 _ rfl;have b3:=Vh.out wr iB 3 _ rfl
  by_cases oq:n<nk
  ·have hni:(n:Int)<(nk:Int):=by omega
   obtain⟨ka,Cy,uC,Jb⟩:=hkx.cellAt (n:=n) (by rw[jy.out];exact oq);obtain⟨kb,hpm,xz,zbP⟩:=hky.cellAt (n:=n) (by rw[Rf.out];exact oq);subst Cy hpm;have Yc:∀W:World,Below wB.heap.size wB W->W.cell? (ka.add n)=some (.string (aN ks n)):=fun W hW=>
    (World.cell?_of_block (by rw[aY];exact(hW.block _ (by have:=hO _ uC;omega)).trans (dP.block _ (hO _ uC)))).trans Jb
   have S_:∀W:World,Below wB.heap.size wB W->W.cell? (kb.add n)=some (.string (aN ms n)):=fun W hW=>
    (World.cell?_of_block (by rw[aY];exact(hW.block _ (by have:=hO _ xz;omega)).trans (dP.block _ (hO _ xz)))).trans zbP
   obtain⟨u,hu⟩:∃u,aN ks n=u:=⟨_,rfl⟩;obtain⟨v,hv⟩:∃v,aN ms n=v:=⟨_,rfl⟩;have HU:Hid (aN ks n=u):=hu;have HV:Hid (aN ms n=v):=hv;rw[hu]at Yc;rw[hv]at S_;have Yd:Hid (∀W:World,Below wB.heap.size wB W->W.cell? (ka.add n)=some (.string u)):=Yc;have Ia:Hid (∀W:World,Below wB.heap.size wB W->W.cell? (kb.add n)=some (.string v)):=S_;clear hu hv Yc S_ Jb zbP;have fE:Below wB.heap.size wB wr.drew:=⟨iB.os,iB.tape,iB.output,iB.size,iB.block⟩
   by_cases QC:u=v
   ·have Yo:(u.toList==v.toList)=true:=by rw[QC];simp
    go_wp2;refine aD (by kernel_rfl) (fun W=>Below wB.heap.size wB W) ?_;change wpIn _ _ _ _ _ _ _ _ (World.drew _);refine aa (i:=0) (d:=some 51) rfl ?_;refine aB (i:=1) (d:=some 52) rfl (by(intro wq hq;have q0:=Cr.out wq hq 3 _ rfl;have q1:=Vh.out wq hq 3 _ rfl;have q2:=Yd.out wq hq;have q3:=Ia.out wq hq;go_simp;first| done| with_reducible rfl)) ?_;refine aa (i:=2) (d:=some 53) rfl ?_;refine aa (i:=3) (d:=some 54) rfl ?_;refine aB (i:=4) (d:=some 55) rfl (by(intro wq hq;have q0:=Cr.out wq hq 3 _ rfl;have q1:=Vh.out wq hq 3 _ rfl;have q2:=Yd.out wq hq;have q3:=Ia.out wq hq;go_simp;first| done| with_reducible rfl)) ?_;refine aa (i:=5) (d:=some 56) rfl ?_;refine aB (i:=6) (d:=some 57) rfl (by(intro wq hq;have q0:=Cr.out wq hq 3 _ rfl;have q1:=Vh.out wq hq 3 _ rfl;have q2:=Yd.out wq hq;have q3:=Ia.out wq hq;go_simp;first| done| with_reducible rfl)) ?_;refine aa (i:=7) (d:=some 58) rfl ?_;refine aa (i:=8) (d:=some 59) rfl ?_;refine aB (i:=9) (d:=some 60) rfl (by(intro wq hq;have q0:=Cr.out wq hq 3 _ rfl;have q1:=Vh.out wq hq 3 _ rfl;have q2:=Yd.out wq hq;have q3:=Ia.out wq hq;go_simp;first| done| with_reducible rfl)) ?_;refine aa (i:=10) (d:=some 61) rfl ?_;refine aA fE (by kernel_rfl) ?_ _;go_wp2;go_roundw
    case rel=>exact⟨n+1,by go_num,oq,fun m hm=>(Nat.lt_succ_iff_lt_or_eq.1 hm).elim (HE.out m) fun e=>by rw[e,HU.out,HV.out,QC],zbO,fE⟩
    case measure=>simp[intOf];omega
   ·have Yo:(u.toList==v.toList)=false:=by rw[beq_eq_false_iff_ne];intro e;exact QC (toList_inj e)
    go_wp2;refine aD (by kernel_rfl) (fun W=>Below wB.heap.size wB W) ?_;change wpIn _ _ _ _ _ _ _ _ (World.drew _);refine aa (i:=0) (d:=some 51) rfl ?_;refine aB (i:=1) (d:=some 52) rfl (by(intro wq hq;have q0:=Cr.out wq hq 3 _ rfl;have q1:=Vh.out wq hq 3 _ rfl;have q2:=Yd.out wq hq;have q3:=Ia.out wq hq;go_simp;first| done| with_reducible rfl)) ?_;refine aa (i:=2) (d:=some 53) rfl ?_;refine aa (i:=3) (d:=some 54) rfl ?_;refine aB (i:=4) (d:=some 55) rfl (by(intro wq hq;have q0:=Cr.out wq hq 3 _ rfl;have q1:=Vh.out wq hq 3 _ rfl;have q2:=Yd.out wq hq;have q3:=Ia.out wq hq;go_simp;first| done| with_reducible rfl)) ?_;refine aa (i:=5) (d:=some 56) rfl ?_;refine aB (i:=6) (d:=some 57) rfl (by(intro wq hq;have q0:=Cr.out wq hq 3 _ rfl;have q1:=Vh.out wq hq 3 _ rfl;have q2:=Yd.out wq hq;have q3:=Ia.out wq hq;go_simp;first| done| with_reducible rfl)) ?_;refine aa (i:=7) (d:=some 58) rfl ?_;refine aa (i:=8) (d:=some 59) rfl ?_;refine aB (i:=9) (d:=some 60) rfl (by(intro wq hq;have q0:=Cr.out wq hq 3 _ rfl;have q1:=Vh.out wq hq 3 _ rfl;have q2:=Yd.out wq hq;have q3:=Ia.out wq hq;go_simp;first| done| with_reducible rfl)) ?_;refine aa (i:=10) (d:=some 61) rfl ?_;refine aA fE (by kernel_rfl) ?_ _;go_wp2;go_ret;exact⟨⟨false,rfl,fun h=>(by cases h),fun h=>absurd (by rw[<-HU.out,<-HV.out,(J.mk.inj h).2.2.2.1]) QC⟩,dU dP (by omega) fE⟩
  ·obtain rfl:n=nk:=by omega
   have TQ:Hid (ks=ms):=BC (z:=aH) (by rw[jy.out,Rf.out]) fun m hm=>HE.out m (by rw[<-jy.out];exact hm);clear a3 b3;have a3:=Cr.out wr iB 3 _ rfl;go_wp2
   go_loopw [6] (fun v w2=>∃m:Nat,v=.int .i64 m/\m<=nl/\Hid (∀j,j<m->l.getD j J.zero=r.getD j J.zero)/\Below wB.heap.size wB w2) (fun v _=>nl - (intOf v).toNat)
   case atStart=>exact⟨0,rfl,Nat.zero_le _,fun m hm=>absurd hm (by omega),iB⟩
   case round=>
    obtain⟨m,rfl,hm,HJ,bM⟩:=hrel;have a4:=Cr.out wr bM 4 _ rfl
    by_cases mW:m<nl
    ·have oL:(m:Int)<(nl:Int):=by omega
     have iP:m<l.length:=by rw[qP.out];exact mW
     have zev:m<r.length:=by rw[HNR.out];exact mW
     obtain⟨lb,lo,cs,tY,uY,bY,jF⟩:=isJs.at l 0 m hsx iP;obtain⟨rb,ro,ds,hpr,Ka,Oq,zal⟩:=isJs.at r 0 m hsy zev;subst tY hpr;obtain⟨x0,x1,x2,p3,n3,c3,p4,n4,c4,rfl⟩:=dD jF;obtain⟨y0,y1,y2,p3',n3',c3',p4',n4',Nn,rfl⟩:=dD zal;have Uc:Hid (∀W:World,Below wB.heap.size wB W->∀n v, [Value.int .i64 x0,.int .i64 x1,.string x2,.slice p3 n3 c3,.slice p4 n4 c4][n]?=some v->W.cell? ⟨lb,lo+m*5+n,none⟩=some v):=fun W hW n v h=>by
      have h1:=bY n v h;rw[Nat.zero_add]at h1;exact(World.cell?_of_block (a:=⟨lb,lo+m*5+n,none⟩) ((hW.block lb (by have:=hO _ uY;omega)).trans (dP.block lb (hO _ uY)))).trans h1
     have HYC:Hid (∀W:World,Below wB.heap.size wB W->∀n v, [Value.int .i64 y0,.int .i64 y1,.string y2,.slice p3' n3' c3',.slice p4' n4' Nn][n]?=some v->W.cell? ⟨rb,ro+m*5+n,none⟩=some v):=fun W hW n v h=>by
      have h1:=Oq n v h;rw[Nat.zero_add]at h1;exact(World.cell?_of_block (a:=⟨rb,ro+m*5+n,none⟩) ((hW.block rb (by have:=hO _ Ka;omega)).trans (dP.block rb (hO _ Ka)))).trans h1
     have fE:Below wB.heap.size wB wr.drew:=⟨bM.os,bM.tape,bM.output,bM.size,bM.block⟩;have hV:=V wr.drew O (l.getD m J.zero) (r.getD m J.zero) x0 x1 x2 p3 p4 n3 c3 n4 c4 y0 y1 y2 p3' p4' n3' c3' n4' Nn (fun b hb=>Nat.lt_of_lt_of_le (hO b hb) (by have:=dP.size;have:=fE.size;omega)) (lG HGL.out iP) (lG HLS.out iP)
      (jF.carry fun b hb=>⟨hb,(fE.block _ (by have:=hO _ hb;omega)).trans (dP.block _ (hO _ hb))⟩) (zal.carry fun b hb=>⟨hb,(fE.block _ (by have:=hO _ hb;omega)).trans (dP.block _ (hO _ hb))⟩)
     clear bY Oq jF zal;go_wp2;refine aD (by kernel_rfl) (fun W=>Below wB.heap.size wB W) ?_;change wpIn _ _ _ _ _ _ _ _ (World.drew _);refine aa (i:=0) (d:=some 69) rfl ?_;refine aB (i:=1) (d:=some 70) rfl (by(intro wq hq;have q0:=Cr.out wq hq 4 _ rfl;go_simp;first| done| with_reducible rfl)) ?_;refine aa (i:=2) (d:=some 71) rfl ?_;refine aa (i:=3) (d:=some 72) rfl ?_;refine aB (i:=4) (d:=some 73) rfl (by(intro wq hq;have q0:=Uc.out wq hq 0 _ rfl;rw[Nat.add_zero]at q0;have q1:=Uc.out wq hq 1 _ rfl;have q2:=Uc.out wq hq 2 _ rfl;have q3:=Uc.out wq hq 3 _ rfl;have q4:=Uc.out wq hq 4 _ rfl;go_simp;first| done| with_reducible rfl)) ?_;refine aa (i:=5) (d:=some 74) rfl ?_;refine aB (i:=6) (d:=some 75) rfl (by(intro wq hq;have q0:=Vh.out wq hq 4 _ rfl;go_simp;first| done| with_reducible rfl)) ?_;refine aa (i:=7) (d:=some 76) rfl ?_;refine aa (i:=8) (d:=some 77) rfl ?_;refine aB (i:=9) (d:=some 78) rfl (by(intro wq hq;have q0:=HYC.out wq hq 0 _ rfl;rw[Nat.add_zero]at q0;have q1:=HYC.out wq hq 1 _ rfl;have q2:=HYC.out wq hq 2 _ rfl;have q3:=HYC.out wq hq 3 _ rfl;have q4:=HYC.out wq hq 4 _ rfl;go_simp;first| done| with_reducible rfl)) ?_;refine ak (i:=10) fE rfl ?_;intro K hK;go_simp;go_wp2_with(go_at_call 12;refine hV.mono ?_;rintro x w3 ⟨⟨b,rfl,Ye⟩,a_⟩);have h_:Below wB.heap.size wB w3:=dU fE fE.size a_;have HBI:Hid (b=true↔l.getD m J.zero=r.getD m J.zero):=Ye;clear fE Ye hV;refine aa (i:=11) (d:=some 80) rfl ?_;refine aA h_ (by kernel_rfl) ?_ _
     cases b with
     | true=>
      go_wp2;go_roundw
      case rel=>exact⟨m+1,by go_num,mW,fun j hj=>(Nat.lt_succ_iff_lt_or_eq.1 hj).elim (HJ.out j) fun e=>by rw[e];exact HBI.out.1 rfl,h_⟩
      case measure=>simp[intOf];omega
     | false=>
      go_wp2;go_ret;refine⟨⟨false,rfl,fun h=>(by cases h),fun h=> ?_⟩,dU dP (by omega) h_⟩;have e:=(J.mk.inj h).2.2.2.2;exact HBI.out.2 (by rw[e])
    ·obtain rfl:m=nl:=by omega
     go_wp2;go_ret;refine⟨⟨true,rfl,fun _=> ?_,fun _=>rfl⟩,dU dP (by omega) bM⟩;rw[TQ.out,BC (z:=J.zero) (by rw[qP.out,HNR.out]) fun j hj=>HJ.out j (by rw[<-qP.out];exact hj)]
theorem Ud:∀d,Oo d
 | 0=>QA
 | d+1=>QB (Ud d)
theorem Ue{B:Nat}{a b:World}(h:Below B a b)(n:Nat):Below B a (b.drewN n):=⟨h.os,h.tape,h.output,h.size,h.block⟩
theorem BD{O:Nat->Prop}{l:List ByteArray}{p q:Option Addr}{c d:Nat}{w:World}(h1:jT O w p c l)(h2:jT O w q d l)(hO:∀k,O k->k<w.heap.size)(hl:l.length<=100000):
    Calls Tryz.prog 38 #[.slice p l.length c,.slice q l.length d] w fun x w'=>x=.returned (.bool true)/\Below w.heap.size w w':=by
 obtain⟨n,hn⟩:∃n,l.length=n:=⟨_,rfl⟩;have HN:Hid (l.length=n):=hn;have GI:=h1.1;have vw:=h2.1;rw[hn]at hl GI vw ⊢;clear hn;go_enter Tryz.func38,Tryz.ntmps38;go_wp2
 go_loopw [5] (fun v wr=>∃m:Nat,v=.int .i64 m/\m<=n/\Below w.heap.size w wr) (fun v _=>n - (intOf v).toNat)
 case atStart=>exact⟨0,rfl,Nat.zero_le _,Below.refl _ _⟩
 case round=>
  obtain⟨m,rfl,hm,hb⟩:=hrel
  by_cases mW:m<n
  ·have oL:(m:Int)<(n:Int):=by omega
   have EG:m<l.length:=by rw[HN.out];exact mW
   obtain⟨a,hp,uC,yw⟩:=h1.2 m EG;obtain⟨b,hq,xz,BV⟩:=h2.2 m EG;subst hp hq;have hA:wr.cell? (a.add m)=some (.string (l.getD m aH)):=(World.cell?_of_block (by rw[aY];exact hb.block _ (hO _ uC))).trans yw;have hB:wr.cell? (b.add m)=some (.string (l.getD m aH)):=(World.cell?_of_block (by rw[aY];exact hb.block _ (hO _ xz))).trans BV;obtain⟨u,hu⟩:∃u,l.getD m aH=u:=⟨_,rfl⟩;rw[hu]at hA hB;clear hu yw BV EG;go_wp2;go_quiet (fail);go_wp2;go_roundw
   case rel=>exact⟨m+1,by go_num,mW,Ue hb _⟩
   case measure=>simp[intOf];omega
  ·obtain rfl:m=n:=by omega
   go_wp2;go_ret;exact⟨rfl,hb⟩
theorem Uf{O:Nat->Prop}(e:Ev)(p p2:Pt)(w:World)(h1:mF O w e p)(h2:mF O w e p2)(hO:∀k,O k->k<w.heap.size)(hz:CG e)(hg:goodJ 12 e.content=true)(hs:e.sigs= []):
    Calls Tryz.prog 19 #[ed e p,ed e p2] w fun x w'=>x=.returned (.bool true)/\Below w.heap.size w w':=by
 obtain⟨room,aQ,ah,st,key,⟨k,i,t,ks,l⟩,prev,aC,depth,ts,hash,sigs⟩:=e;obtain⟨pk,ck,pl,cl,pp,cp,pa,ca,ps,cs⟩:=p;obtain⟨Cb,U4,U5,U6,pp2,cp2,pa2,ca2,ps2,cs2⟩:=p2;simp only at hs;subst hs;obtain⟨WA,Fy⟩:∃WA,WA=(w.alloc (.cells #[.string room,.string aQ,.string ah,.bool st,.string key,.int .i64 k,.int .i64 i,.string t,.slice pk ks.length ck,.slice pl l.length cl,.slice pp prev.length cp,.slice pa aC.length ca,.int .i64 depth,.int .i64 ts,.string hash,.slice ps 0 cs] 28)).alloc (.cells #[.string room,.string aQ,.string ah,.bool st,.string key,.int .i64 k,.int .i64 i,.string t,.slice Cb ks.length U4,.slice U5 l.length U6,.slice pp2 prev.length cp2,.slice pa2 aC.length ca2,.int .i64 depth,.int .i64 ts,.string hash,.slice ps2 0 cs2] 28):=⟨_,rfl⟩;have dP:Below w.heap.size w WA:=by rw[Fy];exact((Below.refl _ _).alloc (Nat.le_refl _) _).alloc (by simp) _
 have Oa:w.heap.size+2<=WA.heap.size:=by rw[Fy];simp
 have hxA:WA.heap[w.heap.size]?=some (.cells #[.string room,.string aQ,.string ah,.bool st,.string key,.int .i64 k,.int .i64 i,.string t,.slice pk ks.length ck,.slice pl l.length cl,.slice pp prev.length cp,.slice pa aC.length ca,.int .i64 depth,.int .i64 ts,.string hash,.slice ps 0 cs] 28 (0,0)):=by rw[Fy];exact jL _ _
 have hxB:WA.heap[w.heap.size+1]?=some (.cells #[.string room,.string aQ,.string ah,.bool st,.string key,.int .i64 k,.int .i64 i,.string t,.slice Cb ks.length U4,.slice U5 l.length U6,.slice pp2 prev.length cp2,.slice pa2 aC.length ca2,.int .i64 depth,.int .i64 ts,.string hash,.slice ps2 0 cs2] 28 (0,0)):=by rw[Fy];exact iq _ _
 have HC:Hid (∀W,Below WA.heap.size WA W->(∀j v, [.string room,.string aQ,.string ah,.bool st,.string key,.int .i64 k,.int .i64 i,.string t,.slice pk ks.length ck,.slice pl l.length cl,.slice pp prev.length cp,.slice pa aC.length ca,.int .i64 depth,.int .i64 ts,.string hash,.slice ps 0 cs][j]?=some v->W.cell? ⟨w.heap.size,j,none⟩=some v)/\(∀j v, [.string room,.string aQ,.string ah,.bool st,.string key,.int .i64 k,.int .i64 i,.string t,.slice Cb ks.length U4,.slice U5 l.length U6,.slice pp2 prev.length cp2,.slice pa2 aC.length ca2,.int .i64 depth,.int .i64 ts,.string hash,.slice ps2 0 cs2][j]?=some v->W.cell? ⟨w.heap.size+1,j,none⟩=some v)):=fun W hW=>⟨fun j v hj=>aR ((hW.block _ (by omega)).trans hxA) j v hj,fun j v hj=>aR ((hW.block _ (by omega)).trans hxB) j v hj⟩;have Ea:∀W,Below WA.heap.size WA W->∀k,O k->k<W.heap.size:=fun W hW k hk=>Nat.lt_of_lt_of_le (hO k hk) (ae dP hW).size;have T1:=BD (h1.below hO dP).prev (h2.below hO dP).prev (Ea WA (Below.refl _ _)) hz.prev;have S2:Hid (∀W,Below WA.heap.size WA W->Calls Tryz.prog 38 #[.slice pa aC.length ca,.slice pa2 aC.length ca2] W fun x w'=>x=.returned (.bool true)/\Below W.heap.size W w'):=fun W hW=>BD (h1.below hO (ae dP hW)).aC (h2.below hO (ae dP hW)).aC (Ea W hW) hz.aC;have S3:Hid (∀W,Below WA.heap.size WA W->Calls Tryz.prog 12 #[.agg #[.int .i64 k,.int .i64 i,.string t,.slice pk ks.length ck,.slice pl l.length cl],.agg #[.int .i64 k,.int .i64 i,.string t,.slice Cb ks.length U4,.slice U5 l.length U6]] W fun x w'=>x=.returned (.bool true)/\Below W.heap.size W w'):=fun W hW=>(Ud 12 W O ⟨k,i,t,ks,l⟩ ⟨k,i,t,ks,l⟩ k i t pk pl ks.length ck l.length cl k i t Cb U5 ks.length U4 l.length U6 (Ea W hW) hg hz.cont (h1.below hO (ae dP hW)).cont (h2.below hO (ae dP hW)).cont).mono (by rintro x w' ⟨⟨b,rfl,hb⟩,bM⟩;exact⟨by rw[hb.2 rfl],bM⟩);have rO:Hid (Below w.heap.size w WA):=dP;simp only[ed,eP,J.kind,J.int,J.text,J.keys,J.list,List.length_nil]at T1 ⊢;rw[Fy]at T1;have HWA:Hid (WA=(w.alloc (.cells #[.string room,.string aQ,.string ah,.bool st,.string key,.int .i64 k,.int .i64 i,.string t,.slice pk ks.length ck,.slice pl l.length cl,.slice pp prev.length cp,.slice pa aC.length ca,.int .i64 depth,.int .i64 ts,.string hash,.slice ps 0 cs] 28)).alloc (.cells #[.string room,.string aQ,.string ah,.bool st,.string key,.int .i64 k,.int .i64 i,.string t,.slice Cb ks.length U4,.slice U5 l.length U6,.slice pp2 prev.length cp2,.slice pa2 aC.length ca2,.int .i64 depth,.int .i64 ts,.string hash,.slice ps2 0 cs2] 28)):=Fy;clear Fy hxA hxB dP Oa Ea h1 h2 hz hg hO;go_enter Tryz.func19,Tryz.ntmps19;go_wp2_with(first
  | (go_at_call 12;refine T3.mono ?_;rintro x w3 ⟨rfl,a_⟩
     have g3:=ae g2 a_)
  | (go_at_call 38;have _g:=T2;refine T2.mono ?_;rintro x w2 ⟨rfl,bM⟩
     have g2:=ae g1 bM;have T3:=S3.out w2 g2;clear T2;have u2:=HC.out w2 g2;have zfi:=u2.1 15 _ rfl;have zfj:=u2.2 15 _ rfl;have zf5:=u2.1 5 _ rfl;have zf6:=u2.2 5 _ rfl;have zf7:=u2.1 6 _ rfl;have zf8:=u2.2 6 _ rfl;have zf9:=u2.1 7 _ rfl;have zga:=u2.2 7 _ rfl;have zgb:=u2.1 8 _ rfl;have zgc:=u2.2 8 _ rfl;have zgd:=u2.1 9 _ rfl;have zge:=u2.2 9 _ rfl;clear u2)
  | (go_at_call 38;refine T1.mono ?_;rintro x w1 ⟨rfl,bI⟩
     rw[<-HWA.out]at bI;have g1:=bI;have T2:=S2.out w1 g1;have u1:=HC.out w1 g1;have zfk:=u1.1 11 _ rfl;have zfl:=u1.2 11 _ rfl;clear u1))
 go_loopw [5] (fun v wr=>v=.int .i64 0/\Below WA.heap.size WA wr) (fun _ _=>0)
 case atStart=>exact⟨rfl,g3⟩
 case round=>
  obtain⟨rfl,gr⟩:=hrel;have ur:=(HC.out wr gr).1 15 _ rfl;go_wp2;go_ret;exact⟨rfl,ae rO.out gr⟩
open Go.RowKit Go.Maps
def fQ:ByteArray:=⟨#[33,114,58,115,49]⟩
def fT:ByteArray:=⟨#[109,46,114,111,111,109,46,109,101,115,115,97,103,101]⟩
def cZ:ByteArray:=⟨#[64,97,110,110,58,115,49]⟩
def QD:ByteArray:=⟨#[65,65,65,65,65,65,65,65,65,65,69]⟩
def fZ:Ev:=⟨fQ,fT,cZ,false,aH,.mk 5 0 aH [] [], [], [],0,0,aH, []⟩
def FD:Ev:=⟨fQ,fT,cZ,false,⟨#[107]⟩,.mk 5 0 aH [] [], [], [],0,0,aH, []⟩
def zG:Ev:=⟨fQ,fT,cZ,false,aH,.mk 5 0 aH [] [], [], [],0,0,aH, [(⟨#[98]⟩,QD),(⟨#[97]⟩,QD)]⟩
def FE:Ev:=⟨fQ,fT,cZ,false,aH,.mk 0 0 aH [] [], [], [],0,0,aH, []⟩
theorem WM:gL fZ=0:=by kernel_rfl
theorem WN:gL FD=50:=by kernel_rfl
theorem WO:gL zG=50:=by kernel_rfl
theorem WQ:gL FE=50:=by kernel_rfl
theorem tu:aO fZ=true:=by kernel_rfl
theorem Ug:(uH fZ).length<=16384:=of_decide_eq_true (by kernel_rfl)
theorem zam:iU (ord (dI fZ))=(fZ,0):=by kernel_rfl
theorem zan:(fM (ord (dI fZ))).keys.length<=80000:=of_decide_eq_true (by kernel_rfl)
theorem um(key:ByteArray)(hk:key.size<=1000000000)(sg:List (ByteArray×ByteArray))(h1:sg.length<=100000)(h2:∀x∈sg,x.1.size<=1000000000/\x.2.size<=1000000000)(c:J)(hc:szJ 12 c=true):CG ⟨fQ,fT,cZ,false,key,c, [], [],0,0,aH,sg⟩:=
 ⟨(by decide:fQ.size<=1000000000),(by decide:fT.size<=1000000000),(by decide:cZ.size<=1000000000),hk,(by decide:aH.size<=1000000000),hc,(by decide:([]:List ByteArray).length<=100000),fun x hx=>(by cases hx),(by decide:([]:List ByteArray).length<=100000),fun x hx=>(by cases hx),h1,h2⟩
theorem WR{O:Nat->Prop}{w:World}{j:J}{k i:Int}{t:ByteArray}{pk pl:Option Addr}{nk ck nl cl:Nat}(hO:∀x,O x->x<w.heap.size)(hj:isJ O w j [.int .i64 k,.int .i64 i,.string t,.slice pk nk ck,.slice pl nl cl])(hs:szJ 12 j=true)(hn:(fM j).keys.length<=80000)(hT:kM w)(hr:jP (fM j)=false):
    Calls Tryz.prog 17 #[.agg #[.int .i64 k,.int .i64 i,.string t,.slice pk nk ck,.slice pl nl cl]] w fun x w'=>(∃p,x=.returned (.tuple #[ed (iU (fM j)).1 p,.int .i64 (iU (fM j)).2])/\mF (fun q=>O q\/ fB w w' q) w' (iU (fM j)).1 p)/\Below w.heap.size w w':=by
 have hN:=xU hs;have Ot:=xS hN.1 hN.2;have HF:Hid (iU (fM j)=(Ev.zero,50)):=by
  show _=_
  unfold iU;rw[hr,if_neg (by decide)]
 obtain⟨J1,Vi⟩:∃J1,fM j=J1:=⟨_,rfl⟩;obtain⟨WB,dw⟩:∃WB,WB=(w.alloc (.cells #[.int .i64 k,.int .i64 i,.string t,.slice pk nk ck,.slice pl nl cl] 25)).alloc (.cells #[.string ⟨#[]⟩,.string ⟨#[]⟩,.string ⟨#[]⟩,.bool false,.string ⟨#[]⟩,.int .i64 0,.int .i64 0,.string ⟨#[]⟩,.slice none 0 0,.slice none 0 0,.slice none 0 0,.slice none 0 0,.int .i64 0,.int .i64 0,.string ⟨#[]⟩,.slice none 0 0] 28):=⟨_,rfl⟩;have cK:Below w.heap.size w WB:=by rw[dw];exact((Below.refl _ _).alloc (Nat.le_refl _) _).alloc (by simp) _
 have mo:WB.heap[w.heap.size+1]?=some (.cells #[.string ⟨#[]⟩,.string ⟨#[]⟩,.string ⟨#[]⟩,.bool false,.string ⟨#[]⟩,.int .i64 0,.int .i64 0,.string ⟨#[]⟩,.slice none 0 0,.slice none 0 0,.slice none 0 0,.slice none 0 0,.int .i64 0,.int .i64 0,.string ⟨#[]⟩,.slice none 0 0] 28 (0,0)):=by rw[dw];exact iq _ _
 have zao:w.heap.size+2<=WB.heap.size:=by rw[dw];simp
 have Ka:=ui (w:=WB) (O:=O) (fun x hx=>Nat.lt_of_lt_of_le (hO x hx) cK.size) hs (hj.carry fun x hx=>⟨hx,cK.block x (hO x hx)⟩);rw[Vi]at Ka hN Ot hr hn HF ⊢;have HTB:Hid (kM w):=hT;have ll:Hid (Below w.heap.size w WB):=cK;have Uh:Hid (∀W k i t pk nk ck pl nl cl,Below WB.heap.size WB W->isJ (fun b=>O b\/ fB WB W b) W J1 [.int .i64 k,.int .i64 i,.string t,.slice pk nk ck,.slice pl nl cl]->Calls Tryz.prog 34 #[.agg #[.int .i64 k,.int .i64 i,.string t,.slice pk nk ck,.slice pl nl cl]] W fun x w'=>(∃p,x=.returned (.tuple #[ed (dG J1) p,.bool (jP J1)])/\mF (fun q=>(O q\/ fB WB W q)\/ fB W w' q) w' (dG J1) p)/\Below W.heap.size W w'):=fun W k i t pk nk ck pl nl cl hb h=>BA (fun x hx=>hx.elim (fun hx=>Nat.lt_of_lt_of_le (hO x hx) (Nat.le_trans cK.size hb.size)) fun hx=>hx.2) h hN.1 hN.2 hn;have Yf:Hid (∀W p,mF (fun q=>q<W.heap.size) W (dG J1) p->Below w.heap.size w W->Calls Tryz.prog 10 #[ed (dG J1) p] W fun x w'=>x=.returned (.int .i64 (gL (dG J1)))/\Below W.heap.size W w'):=fun W p h hb=>jM _ p W h (fun _ h=>h) Ot (hT.below hb);obtain⟨E1,DD⟩:∃E1,dG J1=E1:=⟨_,rfl⟩;rw[DD]at Uh Yf;rw[hr]at Uh;have HO:Hid (∀k,O k->k<w.heap.size):=hO;clear hj hs hN Ot hT hO cK Vi DD hr hn;rw[dw]at Ka;have Vj:Hid (WB=(w.alloc (.cells #[.int .i64 k,.int .i64 i,.string t,.slice pk nk ck,.slice pl nl cl] 25)).alloc (.cells #[.string ⟨#[]⟩,.string ⟨#[]⟩,.string ⟨#[]⟩,.bool false,.string ⟨#[]⟩,.int .i64 0,.int .i64 0,.string ⟨#[]⟩,.slice none 0 0,.slice none 0 0,.slice none 0 0,.slice none 0 0,.int .i64 0,.int .i64 0,.string ⟨#[]⟩,.slice none 0 0] 28)):=dw;clear dw;go_enter Tryz.func17,Tryz.ntmps17;go_wp2_with(first
  | (go_at_call 10;refine vR.mono ?_;rintro x w4 ⟨rfl,dN⟩
     have wW:=(dN.block (w.heap.size+1) (by omega)).trans Jc;have Ui:=(dN.block w2.heap.size (by simp)).trans KL;have lc:=pg Ui;have ic:=pg wW;have zc:=aU wW)
  | (go_at_call 34;refine hRd.mono ?_;rintro x w2 ⟨⟨p2,rfl,hI2⟩,bM⟩
     obtain⟨a0,a1,a2,b3,a4,n5,n6,a7,p8,n8,c8,p9,n9,c9,ov,oF,gI,oz,oG,kW,mU,oH,jk,oC,oI,kX,hv⟩:=Bn E1 p2;have HV:Hid (ed E1 p2=.agg #[.string a0,.string a1,.string a2,.bool b3,.string a4,.int .i64 n5,.int .i64 n6,.string a7,.slice p8 n8 c8,.slice p9 n9 c9,.slice ov oF gI,.slice oz oG kW,.int .i64 mU,.int .i64 oH,.string jk,.slice oC oI kX]):=hv;rw[hv];have Ib:=ae ll.out (ae bI bM);have s2:=(ae bI bM).size;have zbQ:=bI.size;have zbR:=bM.size;have hI3:=hI2.carry (O':=fun q=>O q\/ (WB.heap.size<=q/\q<(w2.alloc (.cells #[.string a0,.string a1,.string a2,.bool b3,.string a4,.int .i64 n5,.int .i64 n6,.string a7,.slice p8 n8 c8,.slice p9 n9 c9,.slice ov oF gI,.slice oz oG kW,.int .i64 mU,.int .i64 oH,.string jk,.slice oC oI kX] 28)).heap.size)) (w':=w2.alloc (.cells #[.string a0,.string a1,.string a2,.bool b3,.string a4,.int .i64 n5,.int .i64 n6,.string a7,.slice p8 n8 c8,.slice p9 n9 c9,.slice ov oF gI,.slice oz oG kW,.int .i64 mU,.int .i64 oH,.string jk,.slice oC oI kX] 28)) fun q hq=>by
      have bJ:q<w2.heap.size/\(O q\/ WB.heap.size<=q):=by
       rcases hq with(h| h)| h
       ·exact⟨by have:=HO.out q h;omega,.inl h⟩
       ·exact⟨by have:=h.2;omega,.inr h.1⟩
       ·exact⟨h.2,.inr (by have:=h.1;omega)⟩
      exact⟨bJ.2.elim .inl fun h=>.inr ⟨h,by simp;omega⟩,Below.heap_alloc _ _ _ bJ.1⟩
     have a_:Below w.heap.size w (w2.alloc (.cells #[.string a0,.string a1,.string a2,.bool b3,.string a4,.int .i64 n5,.int .i64 n6,.string a7,.slice p8 n8 c8,.slice p9 n9 c9,.slice ov oF gI,.slice oz oG kW,.int .i64 mU,.int .i64 oH,.string jk,.slice oC oI kX] 28)):=Ib.alloc Ib.size _;have vR:=Yf.out _ _ (hI3.carry fun q hq=>⟨hq.elim (fun h=>by have:=HO.out q h;simp;omega) fun h=>h.2,rfl⟩) a_;have KL:=heap_alloc_new w2 (.cells #[.string a0,.string a1,.string a2,.bool b3,.string a4,.int .i64 n5,.int .i64 n6,.string a7,.slice p8 n8 c8,.slice p9 n9 c9,.slice ov oF gI,.slice oz oG kW,.int .i64 mU,.int .i64 oH,.string jk,.slice oC oI kX] 28);have Jc:=((ae bI bM).alloc (Nat.le_trans (Nat.le_refl _) s2) (.cells #[.string a0,.string a1,.string a2,.bool b3,.string a4,.int .i64 n5,.int .i64 n6,.string a7,.slice p8 n8 c8,.slice p9 n9 c9,.slice ov oF gI,.slice oz oG kW,.int .i64 mU,.int .i64 oH,.string jk,.slice oC oI kX] 28)).block (w.heap.size+1) (by omega) |>.trans mo;have zbS:w.heap.size+2<=(w2.alloc (.cells #[.string a0,.string a1,.string a2,.bool b3,.string a4,.int .i64 n5,.int .i64 n6,.string a7,.slice p8 n8 c8,.slice p9 n9 c9,.slice ov oF gI,.slice oz oG kW,.int .i64 mU,.int .i64 oH,.string jk,.slice oC oI kX] 28)).heap.size:=by simp;omega
     rw[hv]at vR;clear hv;have ic:=pg Jc;have zc:=aU Jc)
  | (go_at_call 32;refine Ka.mono ?_;rintro x w1 ⟨⟨kr,ir,tr,pr,nr,cr,qr,mr,dr,rfl,Jd⟩,bI⟩
     rw[<-Vj.out]at bI;have hRd:=Uh.out w1 kr ir tr pr nr cr qr mr dr bI (by rw[<-Vj.out]at Jd;exact Jd)))
 have iF:=jQ Jc (.string ⟨#[]⟩) (.string ⟨#[]⟩) (.string ⟨#[]⟩) (.bool false) (.string ⟨#[]⟩) (.int .i64 0) (.int .i64 0) (.string ⟨#[]⟩) (.slice none 0 0) (.slice none 0 0) (.slice none 0 0) (.slice none 0 0) (.int .i64 0) (.int .i64 0) (.string ⟨#[]⟩) (.slice none 0 0);have mD:aj (One (w.heap.size+1)) _ _:=jR (w2.alloc (.cells #[.string a0,.string a1,.string a2,.bool b3,.string a4,.int .i64 n5,.int .i64 n6,.string a7,.slice p8 n8 c8,.slice p9 n9 c9,.slice ov oF gI,.slice oz oG kW,.int .i64 mU,.int .i64 oH,.string jk,.slice oC oI kX] 28)) (w.heap.size+1) (.string ⟨#[]⟩) (.string ⟨#[]⟩) (.string ⟨#[]⟩) (.bool false) (.string ⟨#[]⟩) (.int .i64 0) (.int .i64 0) (.string ⟨#[]⟩) (.slice none 0 0) (.slice none 0 0) (.slice none 0 0) (.slice none 0 0) (.int .i64 0) (.int .i64 0) (.string ⟨#[]⟩) (.slice none 0 0);obtain⟨WE,jr⟩:∃WE,WE=lQ (w2.alloc (.cells #[.string a0,.string a1,.string a2,.bool b3,.string a4,.int .i64 n5,.int .i64 n6,.string a7,.slice p8 n8 c8,.slice p9 n9 c9,.slice ov oF gI,.slice oz oG kW,.int .i64 mU,.int .i64 oH,.string jk,.slice oC oI kX] 28)) (w.heap.size+1) (.string ⟨#[]⟩) (.string ⟨#[]⟩) (.string ⟨#[]⟩) (.bool false) (.string ⟨#[]⟩) (.int .i64 0) (.int .i64 0) (.string ⟨#[]⟩) (.slice none 0 0) (.slice none 0 0) (.slice none 0 0) (.slice none 0 0) (.int .i64 0) (.int .i64 0) (.string ⟨#[]⟩) (.slice none 0 0):=⟨_,rfl⟩;rw[<-jr]at iF mD;unfold lQ at jr;rw[<-jr];clear jr;refine bodyPost_ret (results_cell_tmp rfl _ _ _ rfl (I5 iF)) rfl ?_;have Yg:Below w.heap.size w (w2.alloc (.cells #[.string a0,.string a1,.string a2,.bool b3,.string a4,.int .i64 n5,.int .i64 n6,.string a7,.slice p8 n8 c8,.slice p9 n9 c9,.slice ov oF gI,.slice oz oG kW,.int .i64 mU,.int .i64 oH,.string jk,.slice oC oI kX] 28)):=a_;have zbT:=Yg.size;have Cf:Below w.heap.size w WE:=Yg.trans (mD.below (by omega) fun q hq=>by unfold One;omega);rw[HF.out];exact⟨⟨Pt.zero,rfl,Gv _ _⟩,Cf⟩
theorem Uj{O:Nat->Prop}{w:World}{j:J}{k i:Int}{t:ByteArray}{pk pl:Option Addr}{nk ck nl cl:Nat}(hO:∀x,O x->x<w.heap.size)(hj:isJ O w j [.int .i64 k,.int .i64 i,.string t,.slice pk nk ck,.slice pl nl cl])(hs:szJ 12 j=true)(hn:(fM j).keys.length<=80000)(hT:kM w)(hr:jP (fM j)=true)(hx:gL (dG (fM j))≠0):
    Calls Tryz.prog 17 #[.agg #[.int .i64 k,.int .i64 i,.string t,.slice pk nk ck,.slice pl nl cl]] w fun x w'=>(∃p,x=.returned (.tuple #[ed (iU (fM j)).1 p,.int .i64 (iU (fM j)).2])/\mF (fun q=>O q\/ fB w w' q) w' (iU (fM j)).1 p)/\Below w.heap.size w w':=by
 have hN:=xU hs;have Ot:=xS hN.1 hN.2;have HF:Hid (iU (fM j)=(Ev.zero,gL (dG (fM j)))):=by
  show _=_
  unfold iU;rw[if_pos hr,if_neg hx]
 obtain⟨J1,Vi⟩:∃J1,fM j=J1:=⟨_,rfl⟩;obtain⟨WB,dw⟩:∃WB,WB=(w.alloc (.cells #[.int .i64 k,.int .i64 i,.string t,.slice pk nk ck,.slice pl nl cl] 25)).alloc (.cells #[.string ⟨#[]⟩,.string ⟨#[]⟩,.string ⟨#[]⟩,.bool false,.string ⟨#[]⟩,.int .i64 0,.int .i64 0,.string ⟨#[]⟩,.slice none 0 0,.slice none 0 0,.slice none 0 0,.slice none 0 0,.int .i64 0,.int .i64 0,.string ⟨#[]⟩,.slice none 0 0] 28):=⟨_,rfl⟩;have cK:Below w.heap.size w WB:=by rw[dw];exact((Below.refl _ _).alloc (Nat.le_refl _) _).alloc (by simp) _
 have mo:WB.heap[w.heap.size+1]?=some (.cells #[.string ⟨#[]⟩,.string ⟨#[]⟩,.string ⟨#[]⟩,.bool false,.string ⟨#[]⟩,.int .i64 0,.int .i64 0,.string ⟨#[]⟩,.slice none 0 0,.slice none 0 0,.slice none 0 0,.slice none 0 0,.int .i64 0,.int .i64 0,.string ⟨#[]⟩,.slice none 0 0] 28 (0,0)):=by rw[dw];exact iq _ _
 have zao:w.heap.size+2<=WB.heap.size:=by rw[dw];simp
 have Ka:=ui (w:=WB) (O:=O) (fun x hx=>Nat.lt_of_lt_of_le (hO x hx) cK.size) hs (hj.carry fun x hx=>⟨hx,cK.block x (hO x hx)⟩);rw[Vi]at Ka hN Ot hr hn HF ⊢;rw[Vi]at hx;have HTB:Hid (kM w):=hT;have ll:Hid (Below w.heap.size w WB):=cK;have Uh:Hid (∀W k i t pk nk ck pl nl cl,Below WB.heap.size WB W->isJ (fun b=>O b\/ fB WB W b) W J1 [.int .i64 k,.int .i64 i,.string t,.slice pk nk ck,.slice pl nl cl]->Calls Tryz.prog 34 #[.agg #[.int .i64 k,.int .i64 i,.string t,.slice pk nk ck,.slice pl nl cl]] W fun x w'=>(∃p,x=.returned (.tuple #[ed (dG J1) p,.bool (jP J1)])/\mF (fun q=>(O q\/ fB WB W q)\/ fB W w' q) w' (dG J1) p)/\Below W.heap.size W w'):=fun W k i t pk nk ck pl nl cl hb h=>BA (fun x hx=>hx.elim (fun hx=>Nat.lt_of_lt_of_le (hO x hx) (Nat.le_trans cK.size hb.size)) fun hx=>hx.2) h hN.1 hN.2 hn;have Yf:Hid (∀W p,mF (fun q=>q<W.heap.size) W (dG J1) p->Below w.heap.size w W->Calls Tryz.prog 10 #[ed (dG J1) p] W fun x w'=>x=.returned (.int .i64 (gL (dG J1)))/\Below W.heap.size W w'):=fun W p h hb=>jM _ p W h (fun _ h=>h) Ot (hT.below hb);obtain⟨E1,DD⟩:∃E1,dG J1=E1:=⟨_,rfl⟩;rw[DD]at Uh Yf HF hx;rw[hr]at Uh;have HO:Hid (∀k,O k->k<w.heap.size):=hO;clear hj hs hN Ot hT hO cK Vi DD hr hn;rw[dw]at Ka;have Vj:Hid (WB=(w.alloc (.cells #[.int .i64 k,.int .i64 i,.string t,.slice pk nk ck,.slice pl nl cl] 25)).alloc (.cells #[.string ⟨#[]⟩,.string ⟨#[]⟩,.string ⟨#[]⟩,.bool false,.string ⟨#[]⟩,.int .i64 0,.int .i64 0,.string ⟨#[]⟩,.slice none 0 0,.slice none 0 0,.slice none 0 0,.slice none 0 0,.int .i64 0,.int .i64 0,.string ⟨#[]⟩,.slice none 0 0] 28)):=dw;clear dw;go_enter Tryz.func17,Tryz.ntmps17;go_wp2_with(first
  | (go_at_call 10;refine vR.mono ?_;rintro x w4 ⟨rfl,dN⟩
     have wW:=(dN.block (w.heap.size+1) (by omega)).trans Jc;have Ui:=(dN.block w2.heap.size (by simp)).trans KL;have lc:=pg Ui;have ic:=pg wW;have zc:=aU wW)
  | (go_at_call 34;refine hRd.mono ?_;rintro x w2 ⟨⟨p2,rfl,hI2⟩,bM⟩
     obtain⟨a0,a1,a2,b3,a4,n5,n6,a7,p8,n8,c8,p9,n9,c9,ov,oF,gI,oz,oG,kW,mU,oH,jk,oC,oI,kX,hv⟩:=Bn E1 p2;have HV:Hid (ed E1 p2=.agg #[.string a0,.string a1,.string a2,.bool b3,.string a4,.int .i64 n5,.int .i64 n6,.string a7,.slice p8 n8 c8,.slice p9 n9 c9,.slice ov oF gI,.slice oz oG kW,.int .i64 mU,.int .i64 oH,.string jk,.slice oC oI kX]):=hv;rw[hv];have Ib:=ae ll.out (ae bI bM);have s2:=(ae bI bM).size;have zbQ:=bI.size;have zbR:=bM.size;have hI3:=hI2.carry (O':=fun q=>O q\/ (WB.heap.size<=q/\q<(w2.alloc (.cells #[.string a0,.string a1,.string a2,.bool b3,.string a4,.int .i64 n5,.int .i64 n6,.string a7,.slice p8 n8 c8,.slice p9 n9 c9,.slice ov oF gI,.slice oz oG kW,.int .i64 mU,.int .i64 oH,.string jk,.slice oC oI kX] 28)).heap.size)) (w':=w2.alloc (.cells #[.string a0,.string a1,.string a2,.bool b3,.string a4,.int .i64 n5,.int .i64 n6,.string a7,.slice p8 n8 c8,.slice p9 n9 c9,.slice ov oF gI,.slice oz oG kW,.int .i64 mU,.int .i64 oH,.string jk,.slice oC oI kX] 28)) fun q hq=>by
      have bJ:q<w2.heap.size/\(O q\/ WB.heap.size<=q):=by
       rcases hq with(h| h)| h
       ·exact⟨by have:=HO.out q h;omega,.inl h⟩
       ·exact⟨by have:=h.2;omega,.inr h.1⟩
       ·exact⟨h.2,.inr (by have:=h.1;omega)⟩
      exact⟨bJ.2.elim .inl fun h=>.inr ⟨h,by simp;omega⟩,Below.heap_alloc _ _ _ bJ.1⟩
     have a_:Below w.heap.size w (w2.alloc (.cells #[.string a0,.string a1,.string a2,.bool b3,.string a4,.int .i64 n5,.int .i64 n6,.string a7,.slice p8 n8 c8,.slice p9 n9 c9,.slice ov oF gI,.slice oz oG kW,.int .i64 mU,.int .i64 oH,.string jk,.slice oC oI kX] 28)):=Ib.alloc Ib.size _;have vR:=Yf.out _ _ (hI3.carry fun q hq=>⟨hq.elim (fun h=>by have:=HO.out q h;simp;omega) fun h=>h.2,rfl⟩) a_;have KL:=heap_alloc_new w2 (.cells #[.string a0,.string a1,.string a2,.bool b3,.string a4,.int .i64 n5,.int .i64 n6,.string a7,.slice p8 n8 c8,.slice p9 n9 c9,.slice ov oF gI,.slice oz oG kW,.int .i64 mU,.int .i64 oH,.string jk,.slice oC oI kX] 28);have Jc:=((ae bI bM).alloc (Nat.le_trans (Nat.le_refl _) s2) (.cells #[.string a0,.string a1,.string a2,.bool b3,.string a4,.int .i64 n5,.int .i64 n6,.string a7,.slice p8 n8 c8,.slice p9 n9 c9,.slice ov oF gI,.slice oz oG kW,.int .i64 mU,.int .i64 oH,.string jk,.slice oC oI kX] 28)).block (w.heap.size+1) (by omega) |>.trans mo;have zbS:w.heap.size+2<=(w2.alloc (.cells #[.string a0,.string a1,.string a2,.bool b3,.string a4,.int .i64 n5,.int .i64 n6,.string a7,.slice p8 n8 c8,.slice p9 n9 c9,.slice ov oF gI,.slice oz oG kW,.int .i64 mU,.int .i64 oH,.string jk,.slice oC oI kX] 28)).heap.size:=by simp;omega
     rw[hv]at vR;clear hv
     skip)
  | (go_at_call 32;refine Ka.mono ?_;rintro x w1 ⟨⟨kr,ir,tr,pr,nr,cr,qr,mr,dr,rfl,Jd⟩,bI⟩
     rw[<-Vj.out]at bI;have hRd:=Uh.out w1 kr ir tr pr nr cr qr mr dr bI (by rw[<-Vj.out]at Jd;exact Jd)))
 have iF:=jQ wW (.string ⟨#[]⟩) (.string ⟨#[]⟩) (.string ⟨#[]⟩) (.bool false) (.string ⟨#[]⟩) (.int .i64 0) (.int .i64 0) (.string ⟨#[]⟩) (.slice none 0 0) (.slice none 0 0) (.slice none 0 0) (.slice none 0 0) (.int .i64 0) (.int .i64 0) (.string ⟨#[]⟩) (.slice none 0 0);have mD:aj (One (w.heap.size+1)) _ _:=jR w4 (w.heap.size+1) (.string ⟨#[]⟩) (.string ⟨#[]⟩) (.string ⟨#[]⟩) (.bool false) (.string ⟨#[]⟩) (.int .i64 0) (.int .i64 0) (.string ⟨#[]⟩) (.slice none 0 0) (.slice none 0 0) (.slice none 0 0) (.slice none 0 0) (.int .i64 0) (.int .i64 0) (.string ⟨#[]⟩) (.slice none 0 0);obtain⟨WE,jr⟩:∃WE,WE=lQ w4 (w.heap.size+1) (.string ⟨#[]⟩) (.string ⟨#[]⟩) (.string ⟨#[]⟩) (.bool false) (.string ⟨#[]⟩) (.int .i64 0) (.int .i64 0) (.string ⟨#[]⟩) (.slice none 0 0) (.slice none 0 0) (.slice none 0 0) (.slice none 0 0) (.int .i64 0) (.int .i64 0) (.string ⟨#[]⟩) (.slice none 0 0):=⟨_,rfl⟩;rw[<-jr]at iF mD;unfold lQ at jr;rw[<-jr];clear jr;refine bodyPost_ret (results_cell_tmp rfl _ _ _ rfl (I5 iF)) rfl ?_;have Yg:Below w.heap.size w w4:=ae a_ dN;have zbT:=Yg.size;have Cf:Below w.heap.size w WE:=Yg.trans (mD.below (by omega) fun q hq=>by unfold One;omega);rw[HF.out];exact⟨⟨Pt.zero,rfl,Gv _ _⟩,Cf⟩
end Go.Proofs.YtegcgbjjpgjnmaaGreatDoor

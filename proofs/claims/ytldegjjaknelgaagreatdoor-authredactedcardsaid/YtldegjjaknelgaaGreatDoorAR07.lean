/- A part. -/
import Derived.Test.YtldegjjaknelgaaGreatDoorAR06
set_option maxRecDepth 100000
set_option maxHeartbeats 64000000
namespace Go.Proofs.YtldegjjaknelgaaGreatDoor
open Go.RowKit
def fe(ks:List ByteArray):Bool:=ks.all letters&&noKeyTwice ks
section
variable {w : World} {g : Nat} {L : List Nat} {ks : List ByteArray}
theorem Ic(hP:il w g L ks):L.length=ks.length:=by rw[hP.1.length_eq];simp
theorem mH(hP:il w g L ks){i:Nat}(hi:i<L.length):L.getD i 0<ks.length:=by
 have:=hP.1.subset (List.getElem_mem hi);rw[List.getD_eq_getElem?_getD,List.getElem?_eq_getElem hi];simpa using this
theorem oU(hP:il w g L ks){n:Nat}(hn:n<ks.length):∃i,i<L.length/\L.getD i 0=n:=by
 have:n∈L:=hP.1.mem_iff.2 (by simpa using hn);obtain⟨i,hi,e⟩:=List.getElem_of_mem this;exact⟨i,hi,by rw[List.getD_eq_getElem?_getD,List.getElem?_eq_getElem hi];exact e⟩
theorem Mf(hP:il w g L ks){i j:Nat}(hi:i<L.length)(hj:j<L.length)(hij:i≠j):L.getD i 0≠L.getD j 0:=by
 have OB:L.Nodup:=hP.1.nodup_iff.2 List.nodup_range;rw[List.getD_eq_getElem?_getD,List.getElem?_eq_getElem hi,List.getD_eq_getElem?_getD,List.getElem?_eq_getElem hj];simp only[Option.getD_some]
 rcases Nat.lt_or_gt_of_ne hij with h| h
 ·exact List.pairwise_iff_getElem.1 OB i j hi hj h
 ·exact fun e=>List.pairwise_iff_getElem.1 OB j i hj hi h e.symm
theorem dJ{n:Nat}(hn:n<ks.length):aC ks n=ks[n]:=by
 unfold aC;rw[List.getD_eq_getElem?_getD,List.getElem?_eq_getElem hn];rfl
def Mg(L:List Nat)(ks:List ByteArray)(m:Nat):Prop:=∀i,i<m->letters (aC ks (L.getD i 0))=true/\(0<i->aC ks (L.getD (i - 1) 0)≠aC ks (L.getD i 0))
theorem Ie(hP:il w g L ks)(h:Mg L ks L.length):fe ks=true:=by
 unfold fe;rw[Bool.and_eq_true]
 constructor
 ·rw[List.all_eq_true];intro k hk;obtain⟨n,hn,rfl⟩:=List.getElem_of_mem hk;obtain⟨i,hi,e⟩:=oU hP hn;have:=(h i hi).1;rw[e,dJ hn]at this;exact this
 ·apply eY
  rw[List.pairwise_iff_getElem];intro n m hn hm hnm e;obtain⟨i,hi,ei⟩:=oU hP hn;obtain⟨j,hj,ej⟩:=oU hP hm;have key:∀a b,a<b->b<L.length->aC ks (L.getD a 0)=aC ks (L.getD b 0)->False:=by
   intro a b jH hb hk;have h1:=hP.2.1 (b - 1) b (by omega) hb;have h2:iN (aC ks (L.getD (b - 1) 0)) (aC ks (L.getD a 0))=false:=by
    by_cases ha:a=b - 1
    ·subst ha;exact kI _
    ·exact hP.2.1 a (b - 1) (by omega) (by omega)
   have sN:=(h b hb).2 (by omega)
   rcases mg sN with h'| h'
   ·rw[hk,h']at h2;cases h2
   ·rw[h']at h1;cases h1
  have he:aC ks (L.getD i 0)=aC ks (L.getD j 0):=by rw[ei,ej,dJ hn,dJ hm];exact e
  rcases Nat.lt_trichotomy i j with h'| h'| h'
  ·exact key i j h' hj he
  ·subst h';omega
  ·exact key j i h' hi he.symm
theorem zF(hP:il w g L ks){i:Nat}(hi:i<L.length)(h:letters (aC ks (L.getD i 0))=false):fe ks=false:=by
 have hn:=mH hP hi;rw[dJ hn]at h
 cases hg:fe ks with
 | false=>rfl
 | true=>
  unfold fe at hg;rw[Bool.and_eq_true,List.all_eq_true]at hg;rw[hg.1 _ (List.getElem_mem hn)]at h
  cases h
theorem DU(hP:il w g L ks){i:Nat}(hi:i<L.length)(h0:0<i)(h:aC ks (L.getD (i - 1) 0)=aC ks (L.getD i 0)):fe ks=false:=by
 have hn:=mH hP hi;have hm:=mH hP (i:=i - 1) (by omega);have sN:=Mf hP (i:=i - 1) (by omega) hi (by omega);rw[dJ hn,dJ hm]at h
 cases hg:fe ks with
 | false=>rfl
 | true=>
  unfold fe at hg;rw[Bool.and_eq_true]at hg;have hp:=List.pairwise_iff_getElem.1 (fV hg.2)
  rcases Nat.lt_or_gt_of_ne sN with h'| h'
  ·exact absurd h (hp _ _ hm hn h')
  ·exact absurd h.symm (hp _ _ hn hm h')
end
theorem il.fA{w w':World}{g:Nat}{L:List Nat}{ks:List ByteArray}(h:il w g L ks)(e:w'.heap[g]?=w.heap[g]?):il w' g L ks:=
 ⟨h.1,h.2.1,fun j hj=>(World.cell?_of_block (a:=⟨g,j,none⟩) e).trans (h.2.2 j hj)⟩
theorem Mg.step{L:List Nat}{ks:List ByteArray}{m:Nat}(h:Mg L ks m)(h1:letters (aC ks (L.getD m 0))=true)(h2:0<m->aC ks (L.getD (m - 1) 0)≠aC ks (L.getD m 0)):Mg L ks (m+1):=by
 intro i hi
 by_cases e:i=m
 ·subst e;exact⟨h1,h2⟩
 ·exact h i (by omega)
theorem toList_inj{a b:ByteArray}(h:a.toList=b.toList):a=b:=by
 rw[Lib.toList_data,Lib.toList_data]at h
 cases a;cases b
 exact congrArg ByteArray.mk (Array.toList_inj.1 h)
theorem sP{O:Nat->Prop}{ks:List ByteArray}{p:Option Addr}{c:Nat}{w:World}(gW:ig O w p c ks)(hO:∀k,O k->k<w.heap.size)(hl:ks.length<=100000)(BG:∀k∈ks,k.size<=1000000000):
    Calls Tryz.prog 160 #[.slice p ks.length c] w fun x w'=>x=.returned (.bool (fe ks))/\Below w.heap.size w w':=by
 have hri:=xK gW hO (by omega);obtain⟨n,hn⟩:∃n,ks.length=n:=⟨_,rfl⟩;have HN:Hid (ks.length=n):=hn;rw[hn]at hri hl ⊢;go_enter Tryz.func160,Tryz.ntmps160;go_wp2_with(go_at_call 165;refine hri.mono ?_;rintro x w1 ⟨g,L,rfl,hP,hg0,Uu,aP⟩);clear hri hn;have Bu:Hid (L.length=n):=(Ic hP).trans HN.out;have Dz:=aP.size
 go_loopw [10] (fun i wr=>∃k:Nat,i=.int .i64 k/\k<=n/\Mg L ks k/\Below w1.heap.size w1 wr) (fun i _=>n - (intOf i).toNat)
 case atStart=>exact⟨0,rfl,Nat.zero_le _,fun i hi=>absurd hi (by omega),Below.refl _ _⟩
 case round=>
  obtain⟨k,rfl,hk,hF,gX⟩:=hrel;have HF:Hid (Mg L ks k):=hF;clear hF;have hPr:=hP.fA (gX.block g Uu)
  by_cases sO:k<n
  ·have hkL:k<L.length:=by rw[Bu.out];exact sO
   have Vu:(k:Int)<(n:Int):=by omega
   have gc:=hPr.2.2 k hkL;have iC:=mH hPr hkL;obtain⟨a,ha⟩:∃a,L.getD k 0=a:=⟨_,rfl⟩;have HA:Hid (L.getD k 0=a):=ha;rw[ha]at gc iC;obtain⟨ad,hpe,rX,zC⟩:=gW.2 a iC;have hcK:∀(x:Nat),x<ks.length->∀W:World,Below w1.heap.size w1 W->W.cell? (ad.add x)=some (.string (aC ks x)):=by
    intro x hx W hW;obtain⟨ad',zbg,O0,zbh⟩:=gW.2 x hx;rw[hpe]at zbg
    cases zbg
    have e1:=hO _ O0;exact(World.cell?_of_block (by rw[bF];exact(hW.block _ (by omega)).trans (aP.block _ e1))).trans zbh
   subst hpe;have rW:a<n:=by rw[<-HN.out];exact iC
   have Mh:n<=c:=by have:=gW.1;rw[HN.out]at this;exact this
   have haI:(a:Int)<(n:Int):=by omega
   have hla:=vQ (aC ks a);have DV:(aC ks a).size<=1000000000:=by rw[dJ iC];exact BG _ (List.getElem_mem iC)
   have VY:=fun W hW=>hcK a iC W hW;obtain⟨key,vP⟩:∃key,aC ks a=key:=⟨_,rfl⟩;have VU:Hid (aC ks a=key):=vP;rw[vP]at hla DV VY;have HLA:=fun W=>hla W DV;have HCK:Hid (∀(x:Nat),x<ks.length->∀W:World,Below w1.heap.size w1 W->W.cell? (ad.add x)=some (.string (aC ks x))):=hcK;clear zC hla ha vP hcK;have F4:letters key=true\/ letters key=false:=by cases letters key<;>simp
   rcases F4 with uf| uf
   ·rw[uf]at HLA
    cases k with
    | zero=>
     go_wp2;have f_:Below w1.heap.size w1 wr.drew:=⟨gX.os,gX.tape,gX.output,gX.size,gX.block⟩;refine aF (by kernel_rfl) (fun W=>Below w1.heap.size w1 W) ?_;change wpIn _ _ _ _ _ _ _ _ (World.drew _);refine aa (i:=0) (d:=some 15) rfl ?_;refine aa (i:=1) (d:=some 16) rfl ?_;refine aa (i:=2) (d:=some 17) rfl ?_;refine az (i:=3) (d:=some 18) rfl (by(intro wq hq;have q0:=VY wq hq;go_simp;first| done| with_reducible rfl)) ?_;refine ak (i:=4) f_ rfl ?_;intro K hK;go_simp;go_wp2_with(go_at_call 158;refine(HLA _).mono ?_;rintro x w3 ⟨rfl,dA⟩);have iO:Below w1.heap.size w1 w3:=f_.trans ⟨dA.os,dA.tape,dA.output,dA.size,fun k hk=>dA.block k (by have:=f_.size;omega)⟩;clear f_;refine aa (i:=5) (d:=some 20) rfl ?_;refine aa (i:=6) (d:=some 21) rfl ?_;refine aa (i:=7) (d:=some 22) rfl ?_;refine aa (i:=8) (d:=some 23) rfl ?_;refine aa (i:=9) (d:=some 24) rfl ?_;refine ae (i:=10) (d:=(some 25)) (v:=undef) (a':= ?aqz10) rfl rfl (by kernel_rfl) (by kernel_rfl) (by kernel_rfl) (fun _ _ _ h=>h) (Or.inr ⟨by rfl,rfl⟩) ?fqz10 ?_
     case fqz10=>(go_frame;rfl)
     refine ae (i:=11) (d:=(some 26)) (v:=undef) (a':= ?aqz11) rfl rfl (by kernel_rfl) (by kernel_rfl) (by kernel_rfl) (fun _ _ _ h=>h) (Or.inr ⟨by rfl,rfl⟩) ?fqz11 ?_
     case fqz11=>(go_frame;rfl)
     refine ae (i:=12) (d:=(some 27)) (v:=undef) (a':= ?aqz12) rfl rfl (by kernel_rfl) (by kernel_rfl) (by kernel_rfl) (fun _ _ _ h=>h) (Or.inr ⟨by rfl,rfl⟩) ?fqz12 ?_
     case fqz12=>(go_frame;rfl)
     refine ae (i:=13) (d:=(some 28)) (v:=undef) (a':= ?aqz13) rfl rfl (by kernel_rfl) (by kernel_rfl) (by kernel_rfl) (fun _ _ _ h=>h) (Or.inr ⟨by rfl,rfl⟩) ?fqz13 ?_
     case fqz13=>(go_frame;rfl)
     refine ae (i:=14) (d:=(some 29)) (v:=undef) (a':= ?aqz14) rfl rfl (by kernel_rfl) (by kernel_rfl) (by kernel_rfl) (fun _ _ _ h=>h) (Or.inr ⟨by rfl,rfl⟩) ?fqz14 ?_
     case fqz14=>(go_frame;rfl)
     refine ae (i:=15) (d:=(some 30)) (v:=undef) (a':= ?aqz15) rfl rfl (by kernel_rfl) (by kernel_rfl) (by kernel_rfl) (fun _ _ _ h=>h) (Or.inr ⟨by rfl,rfl⟩) ?fqz15 ?_
     case fqz15=>(go_frame;rfl)
     refine ae (i:=16) (d:=(some 31)) (v:=undef) (a':= ?aqz16) rfl rfl (by kernel_rfl) (by kernel_rfl) (by kernel_rfl) (fun _ _ _ h=>h) (Or.inr ⟨by rfl,rfl⟩) ?fqz16 ?_
     case fqz16=>(go_frame;rfl)
     refine ae (i:=17) (d:=(some 32)) (v:=undef) (a':= ?aqz17) rfl rfl (by kernel_rfl) (by kernel_rfl) (by kernel_rfl) (fun _ _ _ h=>h) (Or.inr ⟨by rfl,rfl⟩) ?fqz17 ?_
     case fqz17=>(go_frame;rfl)
     refine ae (i:=18) (d:=(some 33)) (v:=undef) (a':= ?aqz18) rfl rfl (by kernel_rfl) (by kernel_rfl) (by kernel_rfl) (fun _ _ _ h=>h) (Or.inr ⟨by rfl,rfl⟩) ?fqz18 ?_
     case fqz18=>(go_frame;rfl)
     refine ae (i:=19) (d:=(some 34)) (v:=undef) (a':= ?aqz19) rfl rfl (by kernel_rfl) (by kernel_rfl) (by kernel_rfl) (fun _ _ _ h=>h) (Or.inr ⟨by rfl,rfl⟩) ?fqz19 ?_
     case fqz19=>(go_frame;rfl)
     refine ae (i:=20) (d:=(some 35)) (v:=undef) (a':= ?aqz20) rfl rfl (by kernel_rfl) (by kernel_rfl) (by kernel_rfl) (fun _ _ _ h=>h) (Or.inr ⟨by rfl,rfl⟩) ?fqz20 ?_
     case fqz20=>(go_frame;rfl)
     refine ae (i:=21) (d:=(some 36)) (v:=undef) (a':= ?aqz21) rfl rfl (by kernel_rfl) (by kernel_rfl) (by kernel_rfl) (fun _ _ _ h=>h) (Or.inr ⟨by rfl,rfl⟩) ?fqz21 ?_
     case fqz21=>(go_frame;rfl)
     refine ae (i:=22) (d:=(some 37)) (v:=undef) (a':= ?aqz22) rfl rfl (by kernel_rfl) (by kernel_rfl) (by kernel_rfl) (fun _ _ _ h=>h) (Or.inr ⟨by rfl,rfl⟩) ?fqz22 ?_
     case fqz22=>(go_frame;rfl)
     refine aa (i:=23) (d:=some 38) rfl ?_;refine aa (i:=24) (d:=some 39) rfl ?_;refine aD iO (by kernel_rfl) ?_ _;go_wp2;go_roundw
     case rel=>exact⟨1,by go_num,sO,HF.out.step (by rw[HA.out,VU.out];exact uf) (fun h=>absurd h (by omega)),iO⟩
     case measure=>simp[intOf];omega
    | succ m=>
     have gm:=hPr.2.2 m (by omega);have hmt:=mH hPr (i:=m) (by omega);obtain⟨b,lD⟩:∃b,L.getD m 0=b:=⟨_,rfl⟩;have HB:Hid (L.getD m 0=b):=lD;rw[lD]at gm hmt;have hCB:=fun W hW=>HCK.out b hmt W hW;have ze:b<n:=by rw[<-HN.out];exact hmt
     have hbI:(b:Int)<(n:Int):=by omega
     have hmI:(m:Int)<(n:Int):=by omega
     have hwm:IntKind.i64.wrap (m:Int)=(m:Int):=by first| go_num| (simp[IntKind.wrap,IntKind.bits,IntKind.signed];omega)
     have hGM:∀W:World,Below w1.heap.size w1 W->W.cell? ⟨g,m,none⟩=some (.int .i64 (b:Int)):=fun W hW=>by
      have h1:=hP.2.2 m (by omega);rw[lD]at h1;exact(World.cell?_of_block (a:=⟨g,m,none⟩) (hW.block g Uu)).trans h1
     obtain⟨kb,Kl⟩:∃kb,aC ks b=kb:=⟨_,rfl⟩;have UA:Hid (aC ks b=kb):=Kl;rw[Kl]at hCB;clear lD Kl hmt
     by_cases Km:kb=key
     ·have heq:(kb.toList==key.toList)=true:=by rw[Km];simp
      go_wp2;have f_:Below w1.heap.size w1 wr.drew:=⟨gX.os,gX.tape,gX.output,gX.size,gX.block⟩;refine aF (by kernel_rfl) (fun W=>Below w1.heap.size w1 W) ?_;change wpIn _ _ _ _ _ _ _ _ (World.drew _);refine aa (i:=0) (d:=some 15) rfl ?_;refine aa (i:=1) (d:=some 16) rfl ?_;refine aa (i:=2) (d:=some 17) rfl ?_;refine az (i:=3) (d:=some 18) rfl (by(intro wq hq;have q0:=VY wq hq;go_simp;first| done| with_reducible rfl)) ?_;refine ak (i:=4) f_ rfl ?_;intro K hK;go_simp;go_wp2_with(go_at_call 158;refine(HLA _).mono ?_;rintro x w3 ⟨rfl,dA⟩);have iO:Below w1.heap.size w1 w3:=f_.trans ⟨dA.os,dA.tape,dA.output,dA.size,fun k hk=>dA.block k (by have:=f_.size;omega)⟩;clear f_;refine aa (i:=5) (d:=some 20) rfl ?_;refine aa (i:=6) (d:=some 21) rfl ?_;refine aa (i:=7) (d:=some 22) rfl ?_;refine aa (i:=8) (d:=some 23) rfl ?_;refine aa (i:=9) (d:=some 24) rfl ?_;refine aa (i:=10) (d:=some 25) rfl ?_;refine aa (i:=11) (d:=some 26) rfl ?_;refine aa (i:=12) (d:=some 27) rfl ?_;refine aa (i:=13) (d:=some 28) rfl ?_;refine aa (i:=14) (d:=some 29) rfl ?_;refine az (i:=15) (d:=some 30) rfl (by(intro wq hq;have q0:=hGM wq hq;go_simp;first| done| with_reducible rfl)) ?_;refine aa (i:=16) (d:=some 31) rfl ?_;refine az (i:=17) (d:=some 32) rfl (by(intro wq hq;have q0:=hCB wq hq;go_simp;first| done| with_reducible rfl)) ?_;refine aa (i:=18) (d:=some 33) rfl ?_;refine aa (i:=19) (d:=some 34) rfl ?_;refine aa (i:=20) (d:=some 35) rfl ?_;refine az (i:=21) (d:=some 36) rfl (by(intro wq hq;have q0:=VY wq hq;go_simp;first| done| with_reducible rfl)) ?_;refine aa (i:=22) (d:=some 37) rfl ?_;refine aa (i:=23) (d:=some 38) rfl ?_;refine aa (i:=24) (d:=some 39) rfl ?_;refine aD iO (by kernel_rfl) ?_ _;go_wp2;go_ret;exact⟨ai (DU hP hkL (by omega) (by rw[HA.out,VU.out];show aC ks (L.getD m 0)=_;rw[HB.out,UA.out];exact Km)).symm,aP.trans ⟨iO.os,iO.tape,iO.output,iO.size,fun k hk=>iO.block k (by omega)⟩⟩
     ·have heq:(kb.toList==key.toList)=false:=by rw[beq_eq_false_iff_ne];intro e;exact Km (toList_inj e)
      go_wp2;have f_:Below w1.heap.size w1 wr.drew:=⟨gX.os,gX.tape,gX.output,gX.size,gX.block⟩;refine aF (by kernel_rfl) (fun W=>Below w1.heap.size w1 W) ?_;change wpIn _ _ _ _ _ _ _ _ (World.drew _);refine aa (i:=0) (d:=some 15) rfl ?_;refine aa (i:=1) (d:=some 16) rfl ?_;refine aa (i:=2) (d:=some 17) rfl ?_;refine az (i:=3) (d:=some 18) rfl (by(intro wq hq;have q0:=VY wq hq;go_simp;first| done| with_reducible rfl)) ?_;refine ak (i:=4) f_ rfl ?_;intro K hK;go_simp;go_wp2_with(go_at_call 158;refine(HLA _).mono ?_;rintro x w3 ⟨rfl,dA⟩);have iO:Below w1.heap.size w1 w3:=f_.trans ⟨dA.os,dA.tape,dA.output,dA.size,fun k hk=>dA.block k (by have:=f_.size;omega)⟩;clear f_;refine aa (i:=5) (d:=some 20) rfl ?_;refine aa (i:=6) (d:=some 21) rfl ?_;refine aa (i:=7) (d:=some 22) rfl ?_;refine aa (i:=8) (d:=some 23) rfl ?_;refine aa (i:=9) (d:=some 24) rfl ?_;refine aa (i:=10) (d:=some 25) rfl ?_;refine aa (i:=11) (d:=some 26) rfl ?_;refine aa (i:=12) (d:=some 27) rfl ?_;refine aa (i:=13) (d:=some 28) rfl ?_;refine aa (i:=14) (d:=some 29) rfl ?_;refine az (i:=15) (d:=some 30) rfl (by(intro wq hq;have q0:=hGM wq hq;go_simp;first| done| with_reducible rfl)) ?_;refine aa (i:=16) (d:=some 31) rfl ?_;refine az (i:=17) (d:=some 32) rfl (by(intro wq hq;have q0:=hCB wq hq;go_simp;first| done| with_reducible rfl)) ?_;refine aa (i:=18) (d:=some 33) rfl ?_;refine aa (i:=19) (d:=some 34) rfl ?_;refine aa (i:=20) (d:=some 35) rfl ?_;refine az (i:=21) (d:=some 36) rfl (by(intro wq hq;have q0:=VY wq hq;go_simp;first| done| with_reducible rfl)) ?_;refine aa (i:=22) (d:=some 37) rfl ?_;refine aa (i:=23) (d:=some 38) rfl ?_;refine aa (i:=24) (d:=some 39) rfl ?_;refine aD iO (by kernel_rfl) ?_ _;go_wp2;go_roundw
      case rel=>exact⟨m+1+1,by go_num,sO,HF.out.step (by rw[HA.out,VU.out];exact uf) (fun _=>by rw[HA.out,VU.out];show aC ks (L.getD m 0)≠_;rw[HB.out,UA.out];exact Km),iO⟩
      case measure=>simp[intOf];omega
   ·rw[uf]at HLA;go_wp2;have f_:Below w1.heap.size w1 wr.drew:=⟨gX.os,gX.tape,gX.output,gX.size,gX.block⟩;refine aF (by kernel_rfl) (fun W=>Below w1.heap.size w1 W) ?_;change wpIn _ _ _ _ _ _ _ _ (World.drew _);refine aa (i:=0) (d:=some 15) rfl ?_;refine aa (i:=1) (d:=some 16) rfl ?_;refine aa (i:=2) (d:=some 17) rfl ?_;refine az (i:=3) (d:=some 18) rfl (by(intro wq hq;have q0:=VY wq hq;go_simp;first| done| with_reducible rfl)) ?_;refine ak (i:=4) f_ rfl ?_;intro K hK;go_simp;go_wp2_with(go_at_call 158;refine(HLA _).mono ?_;rintro x w3 ⟨rfl,dA⟩);have iO:Below w1.heap.size w1 w3:=f_.trans ⟨dA.os,dA.tape,dA.output,dA.size,fun k hk=>dA.block k (by have:=f_.size;omega)⟩;clear f_;refine aa (i:=5) (d:=some 20) rfl ?_;refine aa (i:=6) (d:=some 21) rfl ?_;refine ae (i:=7) (d:=(some 22)) (v:=undef) (a':= ?aqn7) rfl rfl (by kernel_rfl) (by kernel_rfl) (by kernel_rfl) (fun _ _ _ h=>h) (Or.inr ⟨by rfl,rfl⟩) ?fqn7 ?_
    case fqn7=>(go_frame;rfl)
    refine ae (i:=8) (d:=(some 23)) (v:=undef) (a':= ?aqn8) rfl rfl (by kernel_rfl) (by kernel_rfl) (by kernel_rfl) (fun _ _ _ h=>h) (Or.inr ⟨by rfl,rfl⟩) ?fqn8 ?_
    case fqn8=>(go_frame;rfl)
    refine ae (i:=9) (d:=(some 24)) (v:=undef) (a':= ?aqn9) rfl rfl (by kernel_rfl) (by kernel_rfl) (by kernel_rfl) (fun _ _ _ h=>h) (Or.inr ⟨by rfl,rfl⟩) ?fqn9 ?_
    case fqn9=>(go_frame;rfl)
    refine ae (i:=10) (d:=(some 25)) (v:=undef) (a':= ?aqn10) rfl rfl (by kernel_rfl) (by kernel_rfl) (by kernel_rfl) (fun _ _ _ h=>h) (Or.inr ⟨by rfl,rfl⟩) ?fqn10 ?_
    case fqn10=>(go_frame;rfl)
    refine ae (i:=11) (d:=(some 26)) (v:=undef) (a':= ?aqn11) rfl rfl (by kernel_rfl) (by kernel_rfl) (by kernel_rfl) (fun _ _ _ h=>h) (Or.inr ⟨by rfl,rfl⟩) ?fqn11 ?_
    case fqn11=>(go_frame;rfl)
    refine ae (i:=12) (d:=(some 27)) (v:=undef) (a':= ?aqn12) rfl rfl (by kernel_rfl) (by kernel_rfl) (by kernel_rfl) (fun _ _ _ h=>h) (Or.inr ⟨by rfl,rfl⟩) ?fqn12 ?_
    case fqn12=>(go_frame;rfl)
    refine ae (i:=13) (d:=(some 28)) (v:=undef) (a':= ?aqn13) rfl rfl (by kernel_rfl) (by kernel_rfl) (by kernel_rfl) (fun _ _ _ h=>h) (Or.inr ⟨by rfl,rfl⟩) ?fqn13 ?_
    case fqn13=>(go_frame;rfl)
    refine ae (i:=14) (d:=(some 29)) (v:=undef) (a':= ?aqn14) rfl rfl (by kernel_rfl) (by kernel_rfl) (by kernel_rfl) (fun _ _ _ h=>h) (Or.inr ⟨by rfl,rfl⟩) ?fqn14 ?_
    case fqn14=>(go_frame;rfl)
    refine ae (i:=15) (d:=(some 30)) (v:=undef) (a':= ?aqn15) rfl rfl (by kernel_rfl) (by kernel_rfl) (by kernel_rfl) (fun _ _ _ h=>h) (Or.inr ⟨by rfl,rfl⟩) ?fqn15 ?_
    case fqn15=>(go_frame;rfl)
    refine ae (i:=16) (d:=(some 31)) (v:=undef) (a':= ?aqn16) rfl rfl (by kernel_rfl) (by kernel_rfl) (by kernel_rfl) (fun _ _ _ h=>h) (Or.inr ⟨by rfl,rfl⟩) ?fqn16 ?_
    case fqn16=>(go_frame;rfl)
    refine ae (i:=17) (d:=(some 32)) (v:=undef) (a':= ?aqn17) rfl rfl (by kernel_rfl) (by kernel_rfl) (by kernel_rfl) (fun _ _ _ h=>h) (Or.inr ⟨by rfl,rfl⟩) ?fqn17 ?_
    case fqn17=>(go_frame;rfl)
    refine ae (i:=18) (d:=(some 33)) (v:=undef) (a':= ?aqn18) rfl rfl (by kernel_rfl) (by kernel_rfl) (by kernel_rfl) (fun _ _ _ h=>h) (Or.inr ⟨by rfl,rfl⟩) ?fqn18 ?_
    case fqn18=>(go_frame;rfl)
    refine ae (i:=19) (d:=(some 34)) (v:=undef) (a':= ?aqn19) rfl rfl (by kernel_rfl) (by kernel_rfl) (by kernel_rfl) (fun _ _ _ h=>h) (Or.inr ⟨by rfl,rfl⟩) ?fqn19 ?_
    case fqn19=>(go_frame;rfl)
    refine ae (i:=20) (d:=(some 35)) (v:=undef) (a':= ?aqn20) rfl rfl (by kernel_rfl) (by kernel_rfl) (by kernel_rfl) (fun _ _ _ h=>h) (Or.inr ⟨by rfl,rfl⟩) ?fqn20 ?_
    case fqn20=>(go_frame;rfl)
    refine ae (i:=21) (d:=(some 36)) (v:=undef) (a':= ?aqn21) rfl rfl (by kernel_rfl) (by kernel_rfl) (by kernel_rfl) (fun _ _ _ h=>h) (Or.inr ⟨by rfl,rfl⟩) ?fqn21 ?_
    case fqn21=>(go_frame;rfl)
    refine ae (i:=22) (d:=(some 37)) (v:=undef) (a':= ?aqn22) rfl rfl (by kernel_rfl) (by kernel_rfl) (by kernel_rfl) (fun _ _ _ h=>h) (Or.inr ⟨by rfl,rfl⟩) ?fqn22 ?_
    case fqn22=>(go_frame;rfl)
    refine ae (i:=23) (d:=(some 38)) (v:=undef) (a':= ?aqn23) rfl rfl (by kernel_rfl) (by kernel_rfl) (by kernel_rfl) (fun _ _ _ h=>h) (Or.inr ⟨by rfl,rfl⟩) ?fqn23 ?_
    case fqn23=>(go_frame;rfl)
    refine aa (i:=24) (d:=some 39) rfl ?_;refine aD iO (by kernel_rfl) ?_ _;go_wp2;go_ret;exact⟨ai (zF hP hkL (by rw[HA.out,VU.out];exact uf)).symm,aP.trans ⟨iO.os,iO.tape,iO.output,iO.size,fun k hk=>iO.block k (by omega)⟩⟩
  ·obtain rfl:k=n:=by omega
   go_wp2;go_ret;exact⟨ai (Ie hP (by rw[Bu.out];exact HF.out)).symm,aP.trans ⟨gX.os,gX.tape,gX.output,gX.size,fun k hk=>gX.block k (by omega)⟩⟩
def szJ:Nat->J->Bool
 | 0,_=>true
 | d+1,.mk _ _ t ks l=>decide (t.size<=1000000000)&&(decide (ks.length<=100000)&&(ks.all (fun k=>decide (k.size<=1000000000))&&(decide (l.length<=100000)&&l.all (szJ d))))
def DW(d:Nat):Prop:=∀(w:World) (O:Nat->Prop) (j:J) (k i deep:Int) (t:ByteArray) (pk pl:Option Addr) (nk ck nl cl:Nat),(∀x,O x->x<w.heap.size)->deep=13 - (d:Int)->szJ d j=true→
 isJ O w j [.int .i64 k,.int .i64 i,.string t,.slice pk nk ck,.slice pl nl cl]→
 Calls Tryz.prog 135 #[.agg #[.int .i64 k,.int .i64 i,.string t,.slice pk nk ck,.slice pl nl cl],.int .i64 deep] w fun x w'=>x=.returned (.bool (goodJ d j))/\Below w.heap.size w w'
theorem aj{a b c:World}(h:Below a.heap.size a b)(g:Below b.heap.size b c):Below a.heap.size a c:=h.trans ⟨g.os,g.tape,g.output,g.size,fun k hk=>g.block k (by have:=h.size;omega)⟩
theorem nP{α:Type}{P:α->Bool}{l:List α}{n:Nat}{z:α}(h:l.all P=true)(hn:n<l.length):P (l.getD n z)=true:=by
 rw[List.getD_eq_getElem?_getD,List.getElem?_eq_getElem hn];exact List.all_eq_true.1 h _ (List.getElem_mem hn)
theorem xW{P:J->Bool}{l:List J}{n:Nat}(hn:n<l.length):(l.take (n+1)).all P=((l.take n).all P&&P (l.getD n J.zero)):=by
 rw[gT hn,List.all_append];simp
theorem Ko{P:J->Bool}{l:List J}{n:Nat}(hn:n<l.length)(h:P (l.getD n J.zero)=false):l.all P=false:=by
 cases ha:l.all P with
 | false=>rfl
 | true=>rw[nP (z:=J.zero) ha hn]at h;cases h
theorem vR{d:Nat}(V:DW d){w:World}{O:Nat->Prop}{l:List J}{pl:Option Addr}{cl:Nat}{deep:Int}(hO:∀x,O x->x<w.heap.size)(qy:deep=13 - (d:Int))(fq:l.all (szJ d)=true)(hj:isJs O w pl 0 l)(hc:l.length<=cl)(dP:l.length<=100000):
    Calls Tryz.prog 159 #[.slice pl l.length cl,.int .i64 deep] w fun x w'=>x=.returned (.bool (l.all (goodJ d)))/\Below w.heap.size w w':=by
 have HD:Hid (deep=13 - (d:Int)):=qy;clear qy;obtain⟨n,hn⟩:∃n,l.length=n:=⟨_,rfl⟩;have HN:Hid (l.length=n):=hn;rw[hn]at hc dP ⊢;clear hn;go_enter Tryz.func159,Tryz.ntmps159;go_wp2
 go_loopw [9] (fun i wr=>∃k:Nat,i=.int .i64 k/\k<=n/\(l.take k).all (goodJ d)=true/\Below w.heap.size w wr) (fun i _=>n - (intOf i).toNat)
 case atStart=>exact⟨0,rfl,Nat.zero_le _,rfl,Below.refl _ _⟩
 case round=>
  obtain⟨k,rfl,hk,LG,gX⟩:=hrel;have HAL:Hid ((l.take k).all (goodJ d)=true):=LG;clear LG
  by_cases fG:k<n
  ·have uD:k<l.length:=by rw[HN.out];exact fG
   have Bu:Hid (k<l.length):=uD;obtain⟨lb,lo,cs,vM,mG,bA,ja⟩:=isJs.at l 0 k hj uD;subst vM;obtain⟨kv,iv,tv,pv,nv,cv,qv,mv,dv,rfl⟩:=dI ja;have rT:=gX.block lb (hO lb mG);have cc:∀m v, [Value.int .i64 kv,.int .i64 iv,.string tv,.slice pv nv cv,.slice qv mv dv][m]?=some v->wr.cell? ⟨lb,lo+k*5+m,none⟩=some v:=fun m v h=>by
    have:=bA m v h;rw[Nat.zero_add]at this;exact(World.cell?_of_block (a:=⟨lb,lo+k*5+m,none⟩) rT).trans this
   have y0:wr.cell? ⟨lb,lo+k*5,none⟩=some (.int .i64 kv):=cc 0 _ rfl;have y1:=cc 1 _ rfl;have y2:=cc 2 _ rfl;have y3:=cc 3 _ rfl;have y4:=cc 4 _ rfl;clear cc bA uD;have Vu:(k:Int)<(n:Int):=by omega
   have bS:Below w.heap.size w (wr.alloc (.cells #[.int .i64 kv,.int .i64 iv,.string tv,.slice pv nv cv,.slice qv mv dv] 25)):=gX.alloc gX.size _;have hV:=V (wr.alloc (.cells #[.int .i64 kv,.int .i64 iv,.string tv,.slice pv nv cv,.slice qv mv dv] 25)) O (l.getD k J.zero) kv iv deep tv pv qv nv cv mv dv (fun x hx=>Nat.lt_of_lt_of_le (hO x hx) bS.size) HD.out (nP fq Bu.out) (ja.carry fun x hx=>⟨hx,bS.block x (hO x hx)⟩)
   cases hgj:goodJ d (l.getD k J.zero)with
   | true=>
    rw[hgj]at hV;go_wp2_with(go_at_call 135;refine hV.mono ?_;rintro x w4 ⟨rfl,dB⟩);go_roundw
    case rel=>exact⟨k+1,by go_num,fG,by rw[xW Bu.out,HAL.out,hgj];rfl,bS.trans ⟨dB.os,dB.tape,dB.output,dB.size,fun x hx=>dB.block x (by have:=bS.size;omega)⟩⟩
    case measure=>simp[intOf];omega
   | false=>
    rw[hgj]at hV;go_wp2_with(go_at_call 135;refine hV.mono ?_;rintro x w4 ⟨rfl,dB⟩);go_ret;exact⟨ai (Ko Bu.out hgj).symm,bS.trans ⟨dB.os,dB.tape,dB.output,dB.size,fun x hx=>dB.block x (by have:=bS.size;omega)⟩⟩
  ·obtain rfl:k=n:=by omega
   go_wp2;go_ret;have:=HAL.out;rw[List.take_of_length_le (by rw[HN.out];omega)]at this;exact⟨ai this.symm,gX⟩
theorem Ig:DW 0:=by
 intro w O j k i deep t pk pl nk ck nl cl hO qy fq hj;have h13:deep=13:=by omega
 clear qy;subst h13;have HG:Hid (goodJ 0 j=false):=by show _=_;unfold goodJ;rfl
 clear hj fq;go_enter Tryz.func135,Tryz.ntmps135;go_wp2;go_ret;exact⟨ai HG.out.symm,(Below.refl _ _).alloc (Nat.le_refl _) _⟩
theorem BH(k i:Int)(t:ByteArray)(ks:List ByteArray)(l:List J):bare (.mk k i t ks l)=aZ k i t ks.length l.length:=by unfold bare aZ;rfl
theorem Ih{d:Nat}(V:DW d)(hd:d+1<=12):DW (d+1):=by
 intro w O j k i deep t pk pl nk ck nl cl hO qy fq hj;have hd0:0<=deep:=by omega
 have hd1:deep<=12:=by omega
 have HD:Hid (deep+1=13 - (d:Int)):=by show _=_;omega
 clear qy
 cases j with
 | mk k' i' t' ks l=>
  unfold isJ at hj;obtain⟨VW,R8,VX,zD,e,qR,CX,l9⟩:=hj
  cases e
  unfold szJ at fq;simp only[Bool.and_eq_true,decide_eq_true_eq]at fq;obtain⟨ht,fG,BG,su,Ao⟩:=fq;have zbJ:∀x∈ks,x.size<=1000000000:=fun x hx=>of_decide_eq_true (List.all_eq_true.1 BG x hx);have bS:Below w.heap.size w (w.alloc (.cells #[.int .i64 k,.int .i64 i,.string t,.slice pk ks.length ck,.slice pl l.length cl] 25)):=(Below.refl _ _).alloc (Nat.le_refl _) _;have bb:=OZ k i t pk pl ks.length ck l.length cl (w.alloc (.cells #[.int .i64 k,.int .i64 i,.string t,.slice pk ks.length ck,.slice pl l.length cl] 25));have HB:Hid (goodJ (d+1) (.mk k i t ks l)=(aZ k i t ks.length l.length&&
   (if k=0 then true else if k=1 then decide (i=0) || decide (i=1)else if k=2 then decide (-dC<=i)&&decide (i<=dC)else if k=3 then letters t else if k=4 then l.all (goodJ d)
    else if k=5 then decide (ks.length=l.length)&&(ks.all letters&&noKeyTwice ks)&&l.all (goodJ d)else false))):=by show _=_;rw[goodJ,BH]
  have bk:∀w2:World,Below (w.alloc (.cells #[.int .i64 k,.int .i64 i,.string t,.slice pk ks.length ck,.slice pl l.length cl] 25)).heap.size (w.alloc (.cells #[.int .i64 k,.int .i64 i,.string t,.slice pk ks.length ck,.slice pl l.length cl] 25)) w2→
      w2.heap[w.heap.size]?=some (.cells #[.int .i64 k,.int .i64 i,.string t,.slice pk ks.length ck,.slice pl l.length cl] 25 (0,0))/\Below w.heap.size w w2:=fun w2 h2=>
   ⟨by rw[h2.block w.heap.size (by simp)];exact heap_alloc_new _ _,bS.trans ⟨h2.os,h2.tape,h2.output,h2.size,fun x hx=>h2.block x (by simp;omega)⟩⟩
  clear BG
  cases gX:aZ k i t ks.length l.length with
  | false=>
   have HG:Hid (goodJ (d+1) (.mk k i t ks l)=false):=by show _=_;rw[HB.out,gX];rfl
   rw[gX]at bb;go_enter Tryz.func135,Tryz.ntmps135;go_wp2_with(first
    | (go_at_call 157;refine bb.mono ?_;rintro x w2 ⟨rfl,aT⟩;obtain⟨hv,bX⟩:=bk w2 aT;clear bk;obtain⟨c0,c1,c2,c3,c4⟩:=aM hv))
   go_ret;exact⟨ai HG.out.symm,bX⟩
  | true=>
   rw[gX]at bb HB;simp only[Bool.true_and]at HB
   by_cases k0:k=0
   ·subst k0;have HG:Hid (goodJ (d+1) (.mk 0 i t ks l)=true):=by show _=_;rw[HB.out];rfl
    go_enter Tryz.func135,Tryz.ntmps135;go_wp2_with(first
     | (go_at_call 157;refine bb.mono ?_;rintro x w2 ⟨rfl,aT⟩;obtain⟨hv,bX⟩:=bk w2 aT;clear bk;obtain⟨c0,c1,c2,c3,c4⟩:=aM hv))
    go_ret;exact⟨ai HG.out.symm,bX⟩
   rw[if_neg k0]at HB
   by_cases k1:k=1
   ·subst k1;rw[if_pos rfl]at HB
    by_cases i0:i=0
    ·subst i0;have HG:Hid (goodJ (d+1) (.mk 1 0 t ks l)=true):=by show _=_;rw[HB.out];rfl
     go_enter Tryz.func135,Tryz.ntmps135;go_wp2_with(first
      | (go_at_call 157;refine bb.mono ?_;rintro x w2 ⟨rfl,aT⟩;obtain⟨hv,bX⟩:=bk w2 aT;clear bk;obtain⟨c0,c1,c2,c3,c4⟩:=aM hv))
     go_ret;exact⟨ai HG.out.symm,bX⟩
    ·by_cases i1:i=1
     ·subst i1;have HG:Hid (goodJ (d+1) (.mk 1 1 t ks l)=true):=by show _=_;rw[HB.out];rfl
      go_enter Tryz.func135,Tryz.ntmps135;go_wp2_with(first
       | (go_at_call 157;refine bb.mono ?_;rintro x w2 ⟨rfl,aT⟩;obtain⟨hv,bX⟩:=bk w2 aT;clear bk;obtain⟨c0,c1,c2,c3,c4⟩:=aM hv))
      go_ret;exact⟨ai HG.out.symm,bX⟩
     ·skip
      have HG:Hid (goodJ (d+1) (.mk 1 i t ks l)=false):=by show _=_;rw[HB.out];simp[i0,i1]
      go_enter Tryz.func135,Tryz.ntmps135;go_wp2_with(first
       | (go_at_call 157;refine bb.mono ?_;rintro x w2 ⟨rfl,aT⟩;obtain⟨hv,bX⟩:=bk w2 aT;clear bk;obtain⟨c0,c1,c2,c3,c4⟩:=aM hv))
      go_ret;refine⟨ai ?_,bX⟩;rw[HG.out]
      first| rfl| simp[i0,i1]
   rw[if_neg k1]at HB
   by_cases k2:k=2
   ·subst k2;rw[if_pos rfl]at HB;unfold dC at HB
    by_cases i0: -9007199254740991<=i
    ·skip
     by_cases i1:i<=9007199254740991
     ·skip
      have HG:Hid (goodJ (d+1) (.mk 2 i t ks l)=true):=by show _=_;rw[HB.out];simp[i0,i1]
      go_enter Tryz.func135,Tryz.ntmps135;go_wp2_with(first
       | (go_at_call 157;refine bb.mono ?_;rintro x w2 ⟨rfl,aT⟩;obtain⟨hv,bX⟩:=bk w2 aT;clear bk;obtain⟨c0,c1,c2,c3,c4⟩:=aM hv))
      go_ret;refine⟨ai ?_,bX⟩
      first| exact HG.out.symm| (rw[HG.out];simp[i0,i1])
     ·skip
      have HG:Hid (goodJ (d+1) (.mk 2 i t ks l)=false):=by show _=_;rw[HB.out];simp[i1]
      go_enter Tryz.func135,Tryz.ntmps135;go_wp2_with(first
       | (go_at_call 157;refine bb.mono ?_;rintro x w2 ⟨rfl,aT⟩;obtain⟨hv,bX⟩:=bk w2 aT;clear bk;obtain⟨c0,c1,c2,c3,c4⟩:=aM hv))
      go_ret;refine⟨ai ?_,bX⟩
      first| exact HG.out.symm| (rw[HG.out];simp[i1])
    ·skip
     have HG:Hid (goodJ (d+1) (.mk 2 i t ks l)=false):=by show _=_;rw[HB.out];simp[i0]
     go_enter Tryz.func135,Tryz.ntmps135;go_wp2_with(first
      | (go_at_call 157;refine bb.mono ?_;rintro x w2 ⟨rfl,aT⟩;obtain⟨hv,bX⟩:=bk w2 aT;clear bk;obtain⟨c0,c1,c2,c3,c4⟩:=aM hv))
     go_ret;refine⟨ai ?_,bX⟩
     first| exact HG.out.symm| (rw[HG.out];simp[i0])
   rw[if_neg k2]at HB
   by_cases k3:k=3
   ·subst k3;rw[if_pos rfl]at HB;go_enter Tryz.func135,Tryz.ntmps135;go_wp2_with(first
     | (go_at_call 157;refine bb.mono ?_;rintro x w2 ⟨rfl,aT⟩;obtain⟨hv,bX⟩:=bk w2 aT;clear bk;obtain⟨c0,c1,c2,c3,c4⟩:=aM hv)
     | (go_at_call 158;refine(vQ t w2 ht).mono ?_;rintro x w3 ⟨rfl,dA⟩))
    go_ret;exact⟨ai HB.out.symm,aj bX dA⟩
   rw[if_neg k3]at HB
   by_cases k4:k=4
   ·subst k4;rw[if_pos rfl]at HB;go_enter Tryz.func135,Tryz.ntmps135;go_wp2_with(first
     | (go_at_call 157;refine bb.mono ?_;rintro x w2 ⟨rfl,aT⟩;obtain⟨hv,bX⟩:=bk w2 aT;clear bk;obtain⟨c0,c1,c2,c3,c4⟩:=aM hv)
     | (go_at_call 159;refine(vR V (fun x hx=>Nat.lt_of_lt_of_le (hO x hx) (bX).size) HD.out Ao (l9.carry fun x hx=>⟨hx,(bX).block x (hO x hx)⟩) CX su).mono ?_;rintro x w4 ⟨rfl,dB⟩))
    go_ret;exact⟨ai HB.out.symm,aj bX dB⟩
   rw[if_neg k4]at HB
   by_cases k5:k=5
   ·subst k5;rw[if_pos rfl]at HB
    by_cases he:ks.length=l.length
    ·have heI:((ks.length:Int)==(l.length:Int))=true:=by simp[he]
     have HE:Hid (ks.length=l.length):=he;clear he
     cases pR:fe ks with
     | true=>
      have HGK:Hid (fe ks=true):=pR;have HG:Hid (goodJ (d+1) (.mk 5 i t ks l)=l.all (goodJ d)):=by
       show _=_
       rw[HB.out];unfold fe at pR;rw[pR,decide_eq_true HE.out]
       rfl
      clear pR;go_enter Tryz.func135,Tryz.ntmps135;go_wp2_with(first
       | (go_at_call 157;refine bb.mono ?_;rintro x w2 ⟨rfl,aT⟩;obtain⟨hv,bX⟩:=bk w2 aT;clear bk;obtain⟨c0,c1,c2,c3,c4⟩:=aM hv)
       | (go_at_call 160;refine(sP (qR.carry fun x hx=>⟨hx,bX.block x (hO x hx)⟩) (fun x hx=>Nat.lt_of_lt_of_le (hO x hx) bX.size) fG zbJ).mono ?_;rw[HGK.out];rintro x w3 ⟨rfl,dA⟩;have VZ:=(dA.block w.heap.size (Array.getElem?_eq_some_iff.1 hv).1).trans hv;have qi:=aj bX dA;obtain⟨c03,jX,c23,c33,c43⟩:=aM VZ)
       | (go_at_call 159;refine(vR V (fun x hx=>Nat.lt_of_lt_of_le (hO x hx) (qi).size) HD.out Ao (l9.carry fun x hx=>⟨hx,(qi).block x (hO x hx)⟩) CX su).mono ?_;rintro x w4 ⟨rfl,dB⟩))
      go_ret;exact⟨ai HG.out.symm,aj qi dB⟩
     | false=>
      have HGK:Hid (fe ks=false):=pR;have HG:Hid (goodJ (d+1) (.mk 5 i t ks l)=false):=by
       show _=_
       rw[HB.out];unfold fe at pR;rw[pR,decide_eq_true HE.out]
       rfl
      clear pR;go_enter Tryz.func135,Tryz.ntmps135;go_wp2_with(first
       | (go_at_call 157;refine bb.mono ?_;rintro x w2 ⟨rfl,aT⟩;obtain⟨hv,bX⟩:=bk w2 aT;clear bk;obtain⟨c0,c1,c2,c3,c4⟩:=aM hv)
       | (go_at_call 160;refine(sP (qR.carry fun x hx=>⟨hx,bX.block x (hO x hx)⟩) (fun x hx=>Nat.lt_of_lt_of_le (hO x hx) bX.size) fG zbJ).mono ?_;rw[HGK.out];rintro x w3 ⟨rfl,dA⟩;have VZ:=(dA.block w.heap.size (Array.getElem?_eq_some_iff.1 hv).1).trans hv;have qi:=aj bX dA;obtain⟨c03,jX,c23,c33,c43⟩:=aM VZ))
      go_ret;exact⟨ai HG.out.symm,qi⟩
    ·have heI:((ks.length:Int)==(l.length:Int))=false:=by simp;omega
     have HG:Hid (goodJ (d+1) (.mk 5 i t ks l)=false):=by
      show _=_
      rw[HB.out,decide_eq_false he]
      rfl
     clear he;go_enter Tryz.func135,Tryz.ntmps135;go_wp2_with(first
      | (go_at_call 157;refine bb.mono ?_;rintro x w2 ⟨rfl,aT⟩;obtain⟨hv,bX⟩:=bk w2 aT;clear bk;obtain⟨c0,c1,c2,c3,c4⟩:=aM hv))
     go_ret;exact⟨ai HG.out.symm,bX⟩
   ·rw[if_neg k5]at HB;go_enter Tryz.func135,Tryz.ntmps135;go_wp2_with(first
     | (go_at_call 157;refine bb.mono ?_;rintro x w2 ⟨rfl,aT⟩;obtain⟨hv,bX⟩:=bk w2 aT;clear bk;obtain⟨c0,c1,c2,c3,c4⟩:=aM hv))
    go_ret;exact⟨ai HB.out.symm,bX⟩
theorem UG:∀d,d<=12->DW d
 | 0,_=>Ig
 | d+1,h=>Ih (UG d (by omega)) h
def Elo(O:Nat->Prop)(B:Nat)(v:Value)(w:World):Nat->Prop:=fun k=>O k\/ (B<=k/\k<w.heap.size/\v.ownBlock≠some k)
structure AI(O:Nat->Prop)(B b:Nat)(WA:World)(mI:Array Value)(C9:List J)(vl:Value)(wr:World):Prop where
 box:wr.heap[b]?=some (.cells mI 25 (0,0))
 res:wr.heap[b+1]?=some (.cells #[.int .i64 0,.int .i64 0,.string ⟨#[]⟩,.slice none 0 0,.slice none 0 0] 25 (0,0))
 eG:∃xs,wr.ownsRow B 25 5 vl C9.length xs/\isRow (Elo O B vl wr) wr C9 xs
 below:Below B WA wr
 szA:WA.heap.size=B
 lt:b+1<B
 low:∀k,O k->k<b
section
variable {O : Nat -> Prop} {B b : Nat} {WA W W4 W5 : World} {mI : Array Value} {C9 : List J} {vl iq : Value} {o1 o2 : Obj} {y : J} {cs xs : List Value}
theorem AI.size(h:AI O B b WA mI C9 vl W):B<=W.heap.size:=by have:=h.below.size;have:=h.szA;omega
theorem AI.more(h:AI O B b WA mI C9 vl W)(hb:Below W.heap.size W W4):AI O B b WA mI C9 vl W4:=by
 have hs:=h.size;have bH:=h.lt;have O3:=hb.size;obtain⟨xs,h1,h2⟩:=h.eG;have kp:av (fun _=>False) W W4:=av.aW hb;refine⟨(hb.block b (by omega)).trans h.box,(hb.block (b+1) (by omega)).trans h.res,⟨xs,aX h1 kp fun _ _ h=>h,h2.carry fun k hk=> ?_⟩,h.below.trans ⟨hb.os,hb.tape,hb.output,hb.size,fun k hk=>hb.block k (by omega)⟩,h.szA,bH,h.low⟩
 rcases hk with hk| hk
 ·have:=h.low k hk;exact⟨.inl hk,hb.block k (by omega)⟩
 ·exact⟨.inr ⟨hk.1,by have:=hk.2.1;omega,hk.2.2⟩,hb.block k hk.2.1⟩
theorem AI.alloc(h:AI O B b WA mI C9 vl W)(o:Obj):AI O B b WA mI C9 vl (W.alloc o):=h.more ((Below.refl _ _).alloc (Nat.le_refl _) o)
theorem AI.push(h:AI O B b WA mI C9 vl W)(h1:W.ownsRow B 25 5 vl C9.length xs)(h2:isRow (Elo O B vl W) W C9 xs)(hy:isJ (Elo O B vl W) W y cs)
    (aL:W5.ownsRow B 25 5 iq (C9.length+1) (xs++cs)) (hg:W.grownBy W5 vl.ownBlock) (iC:iq.ownBlock=vl.ownBlock\/ iq.ownBlock=some W.heap.size):AI O B b WA mI (C9++ [y]) iq W5:=by
 have hs:=h.size;have bH:=h.lt;have O3:=hg.size;have oq:=aJ h1;have low:∀k,k<B->W5.heap[k]?=W.heap[k]?:=fun k hk=>hg.block k (by omega) fun e=>by have:=(oq k e.symm).1;omega
 have carry:∀k,Elo O B vl W k->Elo O B iq W5 k/\W5.heap[k]?=W.heap[k]?:=by
  intro k hk
  rcases hk with hk| hk
  ·have:=h.low k hk;exact⟨.inl hk,low k (by omega)⟩
  ·refine⟨.inr ⟨hk.1,by have:=hk.2.1;omega,fun e=> ?_⟩,hg.block k hk.2.1 fun e=>hk.2.2 e.symm⟩
   rcases iC with h'| h'
   ·exact hk.2.2 (h' ▸ e)
   ·rw[h']at e;have:=Option.some.inj e;have:=hk.2.1;omega
 exact⟨(low b (by omega)).trans h.box,(low (b+1) (by omega)).trans h.res,⟨xs++cs,by rw[List.length_append];exact aL,isRow.snoc hy.zm (hy.carry carry) C9 xs (h2.carry carry)⟩,h.below.trans ⟨hg.os,hg.tape,hg.output,hg.size,low⟩,h.szA,bH,h.low⟩
theorem AI.new(h:AI O B b WA mI C9 vl W)(hb:Below W.heap.size W W4)(hy:isJ (fun k=>O k\/ qx W W4 k) W4 y cs)(o:Obj):isJ (Elo O B vl (W4.alloc o)) (W4.alloc o) y cs:=by
 have hs:=h.size;have O3:=hb.size;obtain⟨xs,h1,_⟩:=h.eG;refine hy.carry fun k hk=> ?_
 rcases hk with hk| hk
 ·have:=h.low k hk;have:=h.lt;exact⟨.inl hk,Below.heap_alloc _ _ _ (by omega)⟩
 ·have e1:=hk.1;have e2:=hk.2;exact⟨.inr ⟨by omega,by simp;omega,fun e=>by have:=(aJ h1 k e).2;omega⟩,Below.heap_alloc _ _ _ e2⟩
end
theorem bU:∀l:List J,(ordL l).length=l.length
 | []=>by simp[ordL]
 | j::r=>by simp[ordL,bU r]
theorem mJ(j:J):∀l:List J,ordL (l++ [j])=ordL l++ [ord j]
 | []=>by simp[ordL]
 | i::r=>by simp[ordL,mJ j r]
def R9(d:Nat):Prop:=∀(w:World) (O:Nat->Prop) (j:J) (k i:Int) (t:ByteArray) (pk pl:Option Addr) (nk ck nl cl:Nat),(∀x,O x->x<w.heap.size)->goodJ d j=true->szJ d j=true→
 isJ O w j [.int .i64 k,.int .i64 i,.string t,.slice pk nk ck,.slice pl nl cl]→
 Calls Tryz.prog 112 #[.agg #[.int .i64 k,.int .i64 i,.string t,.slice pk nk ck,.slice pl nl cl]] w fun x w'=>∃k i t pk nk ck pl nl cl,x=.returned (.agg #[.int .i64 k,.int .i64 i,.string t,.slice pk nk ck,.slice pl nl cl])∧
  isJ (fun x=>O x\/ qx w w' x) w' (ord j) [.int .i64 k,.int .i64 i,.string t,.slice pk nk ck,.slice pl nl cl]/\Below w.heap.size w w'
theorem Mi:R9 0:=by
 intro w O j k i t pk pl nk ck nl cl hO hg;unfold goodJ at hg
 cases hg
theorem gM{d:Nat}{k i:Int}{t:ByteArray}{ks:List ByteArray}{l:List J}(h:goodJ (d+1) (.mk k i t ks l)=true):l.all (goodJ d)=true/\(k=5->ks.length=l.length/\ks.Pairwise (· ≠ ·))/\(k≠5->ks= []):=by
 rw[goodJ,Bool.and_eq_true]at h;obtain⟨hb,h⟩:=h;unfold bare at hb;simp only[Bool.and_eq_true,Bool.or_eq_true,decide_eq_true_eq]at hb;obtain⟨⟨⟨_,_⟩,hk⟩,hl⟩:=hb;refine⟨?_,fun e=> ?_,fun e=> ?_⟩
 ·by_cases k4:k=4
  ·subst k4;simpa using h
  ·by_cases k5:k=5
   ·subst k5;simp at h;rw[List.all_eq_true];exact h.2
   ·have:l= []:=List.eq_nil_of_length_eq_zero (by omega);subst this;rfl
 ·subst e;rw[if_neg (by decide),if_neg (by decide),if_neg (by decide),if_neg (by decide),if_neg (by decide),if_pos rfl]at h;simp only[Bool.and_eq_true,decide_eq_true_eq]at h;exact⟨h.1.1,fV h.1.2.2⟩
 ·exact List.eq_nil_of_length_eq_zero (by omega)
theorem O4{O:Nat->Prop}{w:World}(hO:∀x,O x->x<w.heap.size)(mI:Array Value):AI O (w.heap.size+2) w.heap.size ((w.alloc (.cells mI 25)).alloc zJ) mI [] (.slice none 0 0) ((w.alloc (.cells mI 25)).alloc zJ):=by
 refine⟨?_, ?_,⟨[],World.ownsRow_nil _ _ _ _,rfl⟩,Below.refl _ _,by simp,by omega,hO⟩
 ·rw[Below.heap_alloc _ _ _ (by simp)];exact heap_alloc_new _ _
 ·have:=heap_alloc_new (w.alloc (.cells mI 25)) zJ;rw[show(w.alloc (.cells mI 25)).heap.size=w.heap.size+1 by simp]at this;exact this
theorem DX{O:Nat->Prop}{w wr:World}{mI:Array Value}{C9:List J}{vl:Value}(h:AI O (w.heap.size+2) w.heap.size ((w.alloc (.cells mI 25)).alloc zJ) mI C9 vl wr):Below w.heap.size w wr:=by
 have h1:Below w.heap.size w ((w.alloc (.cells mI 25)).alloc zJ):=((Below.refl _ _).alloc (Nat.le_refl _) _).alloc (by simp) _;have h2:=h.below;exact h1.trans ⟨h2.os,h2.tape,h2.output,h2.size,fun k hk=>h2.block k (by omega)⟩
theorem Ap{w wr W5:World}(h:Below w.heap.size w wr)(dR:av (One (w.heap.size+1)) wr W5):Below w.heap.size w W5:=
 h.trans (dR.below h.size fun k hk=>by unfold One;omega)
theorem Kq{w wr W5:World}{O:Nat->Prop}{j:J}{cs:List Value}(dR:av (One (w.heap.size+1)) wr W5)(hj:isJ (fun x=>O x\/ (w.heap.size+2<=x/\x<wr.heap.size)) wr j cs)(hO:∀x,O x->x<w.heap.size)(hs:w.heap.size+2<=wr.heap.size):isJ (fun x=>O x\/ qx w W5 x) W5 j cs:=by
 have O3:=dR.size;refine hj.carry fun k hk=> ?_
 rcases hk with hk| hk
 ·have:=hO k hk;exact⟨.inl hk,dR.block k (by omega) (by unfold One;omega)⟩
 ·exact⟨.inr ⟨by have:=hk.1;omega,by have:=hk.2;omega⟩,dR.block k hk.2 (by unfold One;have:=hk.1;omega)⟩
theorem Mj{d:Nat}(V:R9 d):R9 (d+1):=by
 intro w O j k i t pk pl nk ck nl cl hO hg fq hj
 cases j with
 | mk k' i' t' ks l=>
  unfold isJ at hj;obtain⟨VW,R8,VX,zD,e,qR,CX,l9⟩:=hj
  cases e
  unfold szJ at fq;simp only[Bool.and_eq_true,decide_eq_true_eq]at fq;obtain⟨ht,fG,BG,su,Ao⟩:=fq;obtain⟨DY,iw,DZ⟩:=gM hg;have HG5:Hid (k=5->ks.length=l.length/\ks.Pairwise (· ≠ ·)):=iw;have HGN:Hid (k≠5->ks= []):=DZ;clear iw DZ hg BG;obtain⟨n,hn⟩:∃n,l.length=n:=⟨_,rfl⟩;have HN:Hid (l.length=n):=hn;obtain⟨m,hm⟩:∃m,ks.length=m:=⟨_,rfl⟩;have HM:Hid (ks.length=m):=hm;rw[hn,hm];rw[hn]at su CX;rw[hm]at fG;have zbK:=O4 hO #[.int .i64 k,.int .i64 i,.string t,.slice pk m ck,.slice pl n cl];clear hn hm;go_enter Tryz.func112,Tryz.ntmps112;go_wp2
  go_loopw [3,9] (fun vl iv wr=>∃q:Nat,iv=.int .i64 q/\q<=n/\AI O (w.heap.size+2) w.heap.size ((w.alloc (.cells #[.int .i64 k,.int .i64 i,.string t,.slice pk m ck,.slice pl n cl] 25)).alloc zJ) #[.int .i64 k,.int .i64 i,.string t,.slice pk m ck,.slice pl n cl] (ordL (l.take q)) vl wr) (fun _ iv _=>n - (intOf iv).toNat)
  case atStart=>exact⟨0,rfl,Nat.zero_le _,by rw[List.take_zero];exact zbK⟩
  case round=>
   clear zbK;obtain⟨q,rfl,hq,Mk⟩:=hrel;obtain⟨xs0,hE0,_⟩:=Mk.eG;obtain⟨sl1,sl2,sl3,rfl⟩:=pU hE0;clear hE0;obtain⟨c0,c1,c2,c3,c4⟩:=aM Mk.box;have bX:=DX Mk
   by_cases hql:q<n
   ·have V3:q<l.length:=by rw[HN.out];exact hql
    have HQL:Hid (q<l.length):=V3;obtain⟨lb,lo,cs,vM,mG,bA,ja⟩:=isJs.at l 0 q l9 V3;subst vM;obtain⟨kv,iv,tv,pv,nv,cv,qv,mv,dv,rfl⟩:=dI ja;have rT:=bX.block lb (hO lb mG);have cc:∀m v, [Value.int .i64 kv,.int .i64 iv,.string tv,.slice pv nv cv,.slice qv mv dv][m]?=some v->wr.cell? ⟨lb,lo+q*5+m,none⟩=some v:=fun m v h=>by
     have:=bA m v h;rw[Nat.zero_add]at this;exact(World.cell?_of_block (a:=⟨lb,lo+q*5+m,none⟩) rT).trans this
    have y0:wr.cell? ⟨lb,lo+q*5,none⟩=some (.int .i64 kv):=cc 0 _ rfl;have y1:=cc 1 _ rfl;have y2:=cc 2 _ rfl;have y3:=cc 3 _ rfl;have y4:=cc 4 _ rfl;clear cc bA V3;have hqc:(q:Int)<(n:Int):=by omega
    have V4:=Mk.alloc (.cells #[.int .i64 kv,.int .i64 iv,.string tv,.slice pv nv cv,.slice qv mv dv] 25);have aP:=DX V4;have hV:=V (wr.alloc (.cells #[.int .i64 kv,.int .i64 iv,.string tv,.slice pv nv cv,.slice qv mv dv] 25)) O (l.getD q J.zero) kv iv tv pv qv nv cv mv dv (fun x hx=>Nat.lt_of_lt_of_le (hO x hx) aP.size) (nP DY HQL.out) (nP Ao HQL.out) (ja.carry fun x hx=>⟨hx,aP.block x (hO x hx)⟩);go_wp2_with(first
     | (go_at_call 112;refine hV.mono ?_;rintro x w4 ⟨kr,ir,tr,pr,nr,cr,qr,mr,dr,rfl,Aq,dB⟩
        have hy:=V4.new dB Aq (.cells #[.int .i64 kr,.int .i64 ir,.string tr,.slice pr nr cr,.slice qr mr dr] 25);have V5:=(V4.more dB).alloc (.cells #[.int .i64 kr,.int .i64 ir,.string tr,.slice pr nr cr,.slice qr mr dr] 25);obtain⟨xs,bM,eH⟩:=V5.eG)
     | (at_builtin;refine GG rfl _ _ 23 rfl (w.heap.size+2) 25 (.agg #[.int .i64 0,.int .i64 0,.string ⟨#[]⟩,.slice none 0 0,.slice none 0 0]) 5 80 Tryz.underlying23 Tryz.dY rfl (by decide) (by decide) (.slice sl1 sl2 sl3) (ordL (l.take q)).length xs rfl bM _ [.int .i64 kr,.int .i64 ir,.string tr,.slice pr nr cr,.slice qr mr dr] rfl rfl (LK rfl) zdV (by rw[bU,List.length_take];omega) V5.size ?_
        intro oJ W5 bV iw iQ;obtain⟨q5,n5,c5,Uy⟩:=pU bV;subst Uy;have zd4:=V5.push bM eH hy bV iw iQ;clear bV iw iQ))
    go_roundw
    case rel=>exact⟨q+1,by go_num,hql,by rw[gT HQL.out,mJ];exact zd4⟩
    case measure=>simp[intOf];omega
   ·obtain rfl:q=n:=by omega
    have bH:l.take q=l:=List.take_of_length_le (by rw[HN.out];omega);rw[bH]at Mk;clear bH;obtain⟨xs,bM,eH⟩:=Mk.eG;obtain⟨q2,KX,vO,mE,OD⟩:=qQ bM eH;have zbL:isJs (fun x=>O x\/ (w.heap.size+2<=x/\x<wr.heap.size)) wr q2 0 (ordL l):=OD.carry fun x hx=>⟨by
     rcases hx with(hx| hx)| hx
     ·exact .inl hx
     ·exact .inr ⟨hx.1,hx.2.1⟩
     ·exact .inr hx,rfl⟩
    have Q9:Hid (isJs (fun x=>O x\/ (w.heap.size+2<=x/\x<wr.heap.size)) wr q2 0 (ordL l)):=zbL;have xX:Hid ((ordL l).length<=KX):=mE;have Ra:Hid ((ordL l).length=q):=(bU l).trans HN.out;rw[Ra.out]at vO
    cases vO
    have zbM:ig (fun x=>O x\/ (w.heap.size+2<=x/\x<wr.heap.size)) wr pk ck ks:=qR.carry fun x hx=>⟨.inl hx,bX.block x (hO x hx)⟩;have VJ:Hid (ig (fun x=>O x\/ (w.heap.size+2<=x/\x<wr.heap.size)) wr pk ck ks):=zbM;have D5:∀x,(O x\/ (w.heap.size+2<=x/\x<wr.heap.size))->x<wr.heap.size:=fun x hx=>by
     rcases hx with hx| hx
     ·have:=hO x hx;have:=bX.size;omega
     ·exact hx.2
    obtain⟨i0,i1,i2,i3,i4⟩:=aM Mk.res;obtain⟨z0,z1,z2,z3,z4⟩:=fD Mk.res;have V6:=Mk.size;clear OD zbL zbM mE bM eH qR l9
    by_cases k5:k=5
    ·subst k5;obtain⟨sO,D6⟩:=HG5.out rfl;have hmo:=LF (cl:=sl3) VJ.out Q9.out (by rw[Ra.out,<-HN.out];exact sO) D5 (by rw[HM.out];exact fG) D6;rw[HM.out,Ra.out]at hmo;clear sO D6;go_wp2_with(first
     | (go_at_call 142;refine hmo.mono ?_;rintro x w8 ⟨csr,rfl,Aq,wM⟩
        obtain⟨kr,ir,tr,pr,nr,cr,qr,mr,dr,F4⟩:=dI Aq;obtain rfl:csr=#[.int .i64 kr,.int .i64 ir,.string tr,.slice pr nr cr,.slice qr mr dr]:=by rw[<-Array.toList_inj];exact F4
        have O5:=(wM.block _ (Array.getElem?_eq_some_iff.1 Mk.res).1).trans Mk.res;obtain⟨j0,j1,j2,j3,j4⟩:=aM O5;obtain⟨x0,x1,x2,x3,x4⟩:=fD O5))
     have h5:=dG O5 (.int .i64 kr) (.int .i64 ir) (.string tr) (.slice pr nr cr) (.slice qr mr dr);have dR:av (One (w.heap.size+1)) w8 _:=dH w8 (w.heap.size+1) (.int .i64 kr) (.int .i64 ir) (.string tr) (.slice pr nr cr) (.slice qr mr dr);unfold kK at h5 dR;obtain⟨k0,k1,k2,k3,k4⟩:=aM h5;refine bodyPost_ret (v:=.agg #[.int .i64 kr,.int .i64 ir,.string tr,.slice pr nr cr,.slice qr mr dr]) (by simp[results,Tryz.results112,go_sem,k0,k1,k2,k3,k4]) rfl ?_;have lD:=Ap (aj bX wM) dR;refine⟨_,_,_,_,_,_,_,_,_,rfl, ?_,lD⟩;have e:ord (.mk 5 i t ks l)=mapOf ks (ordL l):=by rw[ord,if_pos rfl]
     rw[e];exact Kq dR (Aq.carry fun x hx=>⟨by
      rcases hx with(hx| hx)| hx
      ·exact .inl hx
      ·exact .inr ⟨hx.1,by have:=wM.size;have:=hx.2;omega⟩
      ·exact .inr ⟨by have:=hx.1;omega,hx.2⟩,rfl⟩) (fun x hx=>hO x hx) (by have:=wM.size;omega)
    ·have HE:Hid (ord (.mk k i t ks l)=.mk k i t [] (ordL l)):=by show _=_;rw[ord,if_neg k5]
     go_wp2;have h5:=dG Mk.res (.int .i64 k) (.int .i64 i) (.string t) (.slice none 0 0) (.slice sl1 q sl3);have dR:av (One (w.heap.size+1)) wr _:=dH wr (w.heap.size+1) (.int .i64 k) (.int .i64 i) (.string t) (.slice none 0 0) (.slice sl1 q sl3);unfold kK at h5 dR;obtain⟨k0,k1,k2,k3,k4⟩:=aM h5;refine bodyPost_ret (v:=.agg #[.int .i64 k,.int .i64 i,.string t,.slice none 0 0,.slice sl1 q sl3]) (by simp[results,Tryz.results112,go_sem,k0,k1,k2,k3,k4]) rfl ?_;have lD:=Ap bX dR;refine⟨_,_,_,_,_,_,_,_,_,rfl, ?_,lD⟩;rw[HE.out];refine Kq dR (cs:=_) ?_ (fun x hx=>hO x hx) V6;unfold isJ;exact⟨none,0,sl1,sl3,by rw[Ra.out];rfl,ig.nil _ _,xX.out,Q9.out⟩
theorem R_:∀d,R9 d
 | 0=>Mi
 | d+1=>Mj (R_ d)
theorem pW{w w2:World}{cs:Array Value}{t:TypeId}(h:Below (w.alloc (.cells cs t)).heap.size (w.alloc (.cells cs t)) w2):w2.heap[w.heap.size]?=some (.cells cs t (0,0))/\Below w.heap.size w w2:=
 ⟨by rw[h.block w.heap.size (by simp)];exact heap_alloc_new _ _,aj ((Below.refl _ _).alloc (Nat.le_refl _) _) h⟩
theorem xY{w:World}{O:Nat->Prop}{j:J}{k i:Int}{t:ByteArray}{pk pl:Option Addr}{nk ck nl cl:Nat}(hO:∀x,O x->x<w.heap.size)(fq:szJ 12 j=true)
    (hj:isJ O w j [.int .i64 k,.int .i64 i,.string t,.slice pk nk ck,.slice pl nl cl]):
    Calls Tryz.prog 110 #[.agg #[.int .i64 k,.int .i64 i,.string t,.slice pk nk ck,.slice pl nl cl]] w fun x w'=>x=.returned (.bool (goodJ 12 j))/\Below w.heap.size w w':=by
 have hG:=UG 12 (Nat.le_refl _) (w.alloc (.cells #[.int .i64 k,.int .i64 i,.string t,.slice pk nk ck,.slice pl nl cl] 25)) O j k i 1 t pk pl nk ck nl cl (fun x hx=>by have:=hO x hx;simp;omega) rfl fq
  (hj.carry fun x hx=>⟨hx,Below.heap_alloc _ _ _ (hO x hx)⟩)
 go_enter Tryz.func110,Tryz.ntmps110;go_wp2_with(go_at_call 135;refine hG.mono ?_;rintro x w2 ⟨rfl,aT⟩);go_ret;exact⟨rfl,(pW aT).2⟩
def Kr(w w':World)(j:J)(x:Ending):Prop:=
 (goodJ 12 j=false->x=.returned (.tuple #[.slice none 0 0,.int .i64 1]))∧
 (goodJ 12 j=true->16384<(kH (ord j)).length->x=.returned (.tuple #[.slice none 0 0,.int .i64 13]))∧
 (goodJ 12 j=true->(kH (ord j)).length<=16384->∃v,x=.returned (.tuple #[v,.int .i64 0])/\w'.ownsRow w.heap.size 5 1 v (kH (ord j)).length ((kH (ord j)).map (Value.int .u8)))/\Below w.heap.size w w'
theorem Ar{w:World}{B B' e size n:Nat}{v:Value}{xs:List Value}(h:w.ownsRow B e size v n xs)(hB:B'<=B):w.ownsRow B' e size v n xs:=by
 refine⟨h.1, ?_⟩
 rcases h.2 with hn| ⟨g,cap,cur,rfl,hg,rest⟩
 ·exact .inl hn
 ·exact .inr ⟨g,cap,cur,rfl,by omega,rest⟩
theorem Ii{w:World}{O:Nat->Prop}{j:J}{k i:Int}{t:ByteArray}{pk pl:Option Addr}{nk ck nl cl:Nat}(hO:∀x,O x->x<w.heap.size)(fq:szJ 12 j=true)(hT:NQ w.heap.size w)(Le:goodJ 12 j=true->qV 12 (ord j)=true)
    (hj:isJ O w j [.int .i64 k,.int .i64 i,.string t,.slice pk nk ck,.slice pl nl cl]):
    Calls Tryz.prog 78 #[.agg #[.int .i64 k,.int .i64 i,.string t,.slice pk nk ck,.slice pl nl cl]] w fun x w'=>Kr w w' j x:=by
 have hG:=xY (w:=w.alloc (.cells #[.int .i64 k,.int .i64 i,.string t,.slice pk nk ck,.slice pl nl cl] 25)) (O:=O) (fun x hx=>by have:=hO x hx;simp;omega) fq (hj.carry fun x hx=>⟨hx,Below.heap_alloc _ _ _ (hO x hx)⟩)
 cases hg:goodJ 12 j with
 | false=>
  rw[hg]at hG;go_enter Tryz.func78,Tryz.ntmps78;go_wp2_with(go_at_call 110;refine hG.mono ?_;rintro x w2 ⟨rfl,aT⟩);go_ret2;refine⟨fun _=>rfl,fun h=> ?_,fun h=> ?_,(pW aT).2⟩
  ·rw[hg]at h;cases h
  ·rw[hg]at h;cases h
 | true=>
  have HF:Hid (qV 12 (ord j)=true):=Le hg;have UH:Hid (goodJ 12 j=true):=hg;rw[hg]at hG;clear Le hg
  by_cases mF:16384<(kH (ord j)).length
  ·have Ij:Hid (16384<(kH (ord j)).length):=mF;clear mF;go_enter Tryz.func78,Tryz.ntmps78;go_wp2_with(first
    | (go_at_call 110;refine hG.mono ?_;rintro x w2 ⟨rfl,aT⟩
       obtain⟨hv,bX⟩:=pW aT;have V7:Below w.heap.size w (w2.alloc (.cells #[.slice none 0 0] 127)):=bX.alloc bX.size _;have VZ:(w2.alloc (.cells #[.slice none 0 0] 127)).heap[w.heap.size]?=some (.cells #[.int .i64 k,.int .i64 i,.string t,.slice pk nk ck,.slice pl nl cl] 25 (0,0)):=by
        rw[Below.heap_alloc _ _ _ (Array.getElem?_eq_some_iff.1 hv).1];exact hv
       obtain⟨c0,c1,c2,c3,c4⟩:=aM VZ;have hA:=R_ 12 (w2.alloc (.cells #[.slice none 0 0] 127)) O j k i t pk pl nk ck nl cl (fun x hx=>Nat.lt_of_lt_of_le (hO x hx) V7.size) UH.out fq (hj.carry fun x hx=>⟨hx,V7.block x (hO x hx)⟩))
    | (go_at_call 112;refine hA.mono ?_;rintro x w4 ⟨kr,ir,tr,pr,nr,cr,qr,mr,dr,rfl,Aq,dB⟩
       have hK4:w4.heap[w2.heap.size]?=some (.cells #[.slice none 0 0] 127 (0,0)):=by rw[dB.block _ (by simp)];exact heap_alloc_new _ _
       have h_:=aj V7 dB;have O6:=dB.size;have GI:zi w4 w4.heap.size w2.heap.size []:=⟨⟨_,hK4,World.ownsRow_nil _ _ _ _⟩,by simp at O6;omega,Nat.le_refl _⟩;have hT4:NQ w2.heap.size w4:=fun w' h'=>hT w' (h_.trans ⟨h'.os,h'.tape,h'.output,h'.size,fun x hx=>h'.block x (by have:=bX.size;omega)⟩);have hW:=writes 12 w4 w4.heap.size w2.heap.size [] (fun x=>O x\/ qx (w2.alloc (.cells #[.slice none 0 0] 127)) w4 x) (ord j) kr ir tr pr qr nr cr mr dr GI (by simp) (fun x hx=>by
        rcases hx with hx| hx
        ·have:=hO x hx;have:=bX.size;have:=h_.size;exact⟨by simp at O6;omega,by omega⟩
        ·have e1:=hx.1;have e2:=hx.2;simp at e1;exact⟨e2,by omega⟩) hT4 HF.out Aq)
    | (go_at_call 111;refine hW.mono ?_;rintro x w5 ⟨rfl,⟨out,BD,hol,xU⟩,R6⟩
       have hlg:=xQ xU;have jB:=R6.below (K:=w2.heap.size) (by simp at O6;omega) (by simp at O6;omega);have iJ:Below w.heap.size w w5:=h_.trans ⟨jB.os,jB.tape,jB.output,jB.size,fun x hx=>jB.block x (by have:=bX.size;omega)⟩;have V8:16384<out.length:=by
        have Sa:=Ij.out
        rcases BD with⟨h1,_⟩| ⟨_,h2⟩
        ·rw[List.nil_append]at h1;omega
        ·exact h2
       rw[decide_eq_true V8]at hlg)
    | (go_at_call 113;refine hlg.mono ?_;rintro x w' ⟨rfl,rfl⟩))
   go_ret2;refine⟨fun h=> ?_,fun _ _=>rfl,fun _ h=> ?_,iJ⟩
   ·rw[UH.out]at h;cases h
   ·have:=Ij.out;omega
  ·have Ij:Hid ((kH (ord j)).length<=16384):=by show _<=_;omega
   clear mF;go_enter Tryz.func78,Tryz.ntmps78;go_wp2_with(first
    | (go_at_call 110;refine hG.mono ?_;rintro x w2 ⟨rfl,aT⟩
       obtain⟨hv,bX⟩:=pW aT;have V7:Below w.heap.size w (w2.alloc (.cells #[.slice none 0 0] 127)):=bX.alloc bX.size _;have VZ:(w2.alloc (.cells #[.slice none 0 0] 127)).heap[w.heap.size]?=some (.cells #[.int .i64 k,.int .i64 i,.string t,.slice pk nk ck,.slice pl nl cl] 25 (0,0)):=by
        rw[Below.heap_alloc _ _ _ (Array.getElem?_eq_some_iff.1 hv).1];exact hv
       obtain⟨c0,c1,c2,c3,c4⟩:=aM VZ;have hA:=R_ 12 (w2.alloc (.cells #[.slice none 0 0] 127)) O j k i t pk pl nk ck nl cl (fun x hx=>Nat.lt_of_lt_of_le (hO x hx) V7.size) UH.out fq (hj.carry fun x hx=>⟨hx,V7.block x (hO x hx)⟩))
    | (go_at_call 112;refine hA.mono ?_;rintro x w4 ⟨kr,ir,tr,pr,nr,cr,qr,mr,dr,rfl,Aq,dB⟩
       have hK4:w4.heap[w2.heap.size]?=some (.cells #[.slice none 0 0] 127 (0,0)):=by rw[dB.block _ (by simp)];exact heap_alloc_new _ _
       have h_:=aj V7 dB;have O6:=dB.size;have GI:zi w4 w4.heap.size w2.heap.size []:=⟨⟨_,hK4,World.ownsRow_nil _ _ _ _⟩,by simp at O6;omega,Nat.le_refl _⟩;have hT4:NQ w2.heap.size w4:=fun w' h'=>hT w' (h_.trans ⟨h'.os,h'.tape,h'.output,h'.size,fun x hx=>h'.block x (by have:=bX.size;omega)⟩);have hW:=writes 12 w4 w4.heap.size w2.heap.size [] (fun x=>O x\/ qx (w2.alloc (.cells #[.slice none 0 0] 127)) w4 x) (ord j) kr ir tr pr qr nr cr mr dr GI (by simp) (fun x hx=>by
        rcases hx with hx| hx
        ·have:=hO x hx;have:=bX.size;have:=h_.size;exact⟨by simp at O6;omega,by omega⟩
        ·have e1:=hx.1;have e2:=hx.2;simp at e1;exact⟨e2,by omega⟩) hT4 HF.out Aq)
    | (go_at_call 111;refine hW.mono ?_;rintro x w5 ⟨rfl,⟨out,BD,hol,xU⟩,R6⟩
       have hlg:=xQ xU;have jB:=R6.below (K:=w2.heap.size) (by simp at O6;omega) (by simp at O6;omega);have iJ:Below w.heap.size w w5:=h_.trans ⟨jB.os,jB.tape,jB.output,jB.size,fun x hx=>jB.block x (by have:=bX.size;omega)⟩;have V9:out=kH (ord j):=by
        have Sa:=Ij.out
        rcases BD with⟨_,h2⟩| ⟨h1,_⟩
        ·rw[List.nil_append]at h2;exact h2
        ·rw[List.nil_append]at h1;omega
       have zd5:Hid (out=kH (ord j)):=V9;have V8:¬16384<out.length:=by rw[V9];have:=Ij.out;omega
       clear V9;rw[decide_eq_false V8]at hlg;obtain⟨v5,h51,h52⟩:=xU.row;have d0:=BC h51;obtain⟨q5,n5,c5,Uy⟩:=pU h52;subst Uy)
    | (go_at_call 113;refine hlg.mono ?_;rintro x w' ⟨rfl,rfl⟩))
   go_ret2;refine⟨fun h=> ?_,fun _ h=> ?_,fun _ _=>⟨_,rfl, ?_⟩,iJ⟩
   ·rw[UH.out]at h;cases h
   ·have:=Ij.out;omega
   ·rw[zd5.out]at h52;exact Ar h52 (by have:=h_.size;omega)
theorem sQ{x:J}:∀{l:List J},x∈ordL l->∃y∈l,x=ord y
 | [],h=>by simp[ordL]at h
 | j::r,h=>by
  rw[ordL]at h
  rcases List.mem_cons.1 h with rfl| h
  ·exact⟨j,List.mem_cons_self ..,rfl⟩
  ·obtain⟨y,hy,e⟩:=sQ h;exact⟨y,List.mem_cons_of_mem _ hy,e⟩
section
variable {ks : List ByteArray} {l : List J}
theorem vS(hl:ks.length=l.length):((eT (ks.zip l)).map (·.1)).Perm ks:=by
 have:=(jq (ks.zip l)).map (·.1);rw[List.map_fst_zip (by omega)]at this;exact this
theorem lF(hl:ks.length=l.length):((eT (ks.zip l)).map (·.2)).Perm l:=by
 have:=(jq (ks.zip l)).map (·.2);rw[List.map_snd_zip (by omega)]at this;exact this
end
theorem kN:∀(d:Nat) (j:J),goodJ d j=true->goodJ d (ord j)=true
 | 0,j,h=>by unfold goodJ at h;cases h
 | d+1,.mk k i t ks l,h=>by
  obtain⟨DY,iw,DZ⟩:=gM h;have eF:∀x∈ordL l,goodJ d x=true:=fun x hx=>by
   obtain⟨y,hy,rfl⟩:=sQ hx;exact kN d y (List.all_eq_true.1 DY y hy)
  rw[ord]
  by_cases k5:k=5
  ·subst k5;rw[if_pos rfl];obtain⟨dP,hp⟩:=iw rfl;have Au:ks.length=(ordL l).length:=by rw[bU];exact dP
   have pk:=vS Au;have pv:=lF Au;have nQ:ks.all letters=true:=by
    rw[goodJ,Bool.and_eq_true]at h;have h2:=h.2;rw[if_neg (by decide),if_neg (by decide),if_neg (by decide),if_neg (by decide),if_neg (by decide),if_pos rfl]at h2;simp only[Bool.and_eq_true]at h2;exact h2.1.2.1
   unfold mapOf;rw[goodJ];have e1:((eT (ks.zip (ordL l))).map (·.1)).all letters=true:=by
    rw[List.all_eq_true]at nQ ⊢;exact fun x hx=>nQ x (pk.mem_iff.1 hx)
   have e2:noKeyTwice ((eT (ks.zip (ordL l))).map (·.1))=true:=eY (pk.symm.pairwise hp fun{_ _} h=>h.symm);have e3:((eT (ks.zip (ordL l))).map (·.2)).all (goodJ d)=true:=by
    rw[List.all_eq_true];exact fun x hx=>eF x (pv.mem_iff.1 hx)
   rw[e1,e2,e3];simp[bare,aN,ByteArray.size]
  ·rw[if_neg k5];have qf:=DZ k5;subst qf;rw[goodJ,Bool.and_eq_true]at h ⊢;have LG:(ordL l).all (goodJ d)=true:=List.all_eq_true.2 eF;refine⟨by have:=h.1;rw[BH]at this ⊢;rw[bU];exact this, ?_⟩;have h2:=h.2;rw[LG];rw[DY]at h2;rw[if_neg k5]at h2 ⊢;exact h2
theorem D7:∀(d:Nat) (j:J),goodJ d j=true->szJ d j=true->wideJ d (ord j)=true
 | 0,j,_,_=>by unfold wideJ;rfl
 | d+1,.mk k i t ks l,hg,h=>by
  obtain⟨DY,iw,_⟩:=gM hg;unfold szJ at h;simp only[Bool.and_eq_true,decide_eq_true_eq]at h;obtain⟨_,_,_,su,Ao⟩:=h;have eF:∀x∈ordL l,wideJ d x=true:=fun x hx=>by
   obtain⟨y,hy,rfl⟩:=sQ hx;exact D7 d y (List.all_eq_true.1 DY y hy) (List.all_eq_true.1 Ao y hy)
  rw[ord]
  by_cases k5:k=5
  ·subst k5;rw[if_pos rfl];obtain⟨dP,_⟩:=iw rfl;have Au:ks.length=(ordL l).length:=by rw[bU];exact dP
   have pv:=lF Au;unfold mapOf wideJ;rw[Bool.and_eq_true];refine⟨decide_eq_true ?_,List.all_eq_true.2 fun x hx=>eF x (pv.mem_iff.1 hx)⟩;rw[pv.length_eq,bU];exact su
  ·rw[if_neg k5];unfold wideJ;rw[Bool.and_eq_true];exact⟨decide_eq_true (by rw[bU];exact su),List.all_eq_true.2 eF⟩
theorem Sb{d:Nat}{j:J}(hg:goodJ d j=true)(hs:szJ d j=true):qV d (ord j)=true:=by
 unfold qV;rw[kN d j hg,D7 d j hg hs];rfl
theorem kP:∀l:List J,inOrdL l=true↔∀x∈l,inOrd x=true
 | []=>by simp[inOrdL]
 | j::r=>by
  rw[inOrdL,Bool.and_eq_true,kP r];simp
theorem uE:∀(d:Nat) (j:J),goodJ d j=true->inOrd (ord j)=true
 | 0,j,h=>by unfold goodJ at h;cases h
 | d+1,.mk k i t ks l,h=>by
  obtain⟨DY,iw,DZ⟩:=gM h;have eF:∀x∈ordL l,inOrd x=true:=fun x hx=>by
   obtain⟨y,hy,rfl⟩:=sQ hx;exact uE d y (List.all_eq_true.1 DY y hy)
  rw[ord]
  by_cases k5:k=5
  ·subst k5;rw[if_pos rfl];obtain⟨dP,hp⟩:=iw rfl;have Au:ks.length=(ordL l).length:=by rw[bU];exact dP
   have pv:=lF Au;unfold mapOf;rw[inOrd,Bool.and_eq_true,kP];refine⟨j6 _ ?_,fun x hx=>eF x (pv.mem_iff.1 hx)⟩;have:((ks.zip (ordL l)).map (·.1)).Pairwise (· ≠ ·):=by rw[List.map_fst_zip (by omega)];exact hp
   exact List.pairwise_map.1 this
  ·rw[if_neg k5];rw[inOrd,Bool.and_eq_true,kP];exact⟨rfl,eF⟩
theorem D8:∀(d:Nat) (j:J),goodJ d j=true->inOrd j=true->ord j=j
 | 0,j,h,_=>by unfold goodJ at h;cases h
 | d+1,.mk k i t ks l,h,ho=>by
  obtain⟨DY,iw,DZ⟩:=gM h;rw[inOrd,Bool.and_eq_true,kP]at ho;have hl:∀(r:List J),(∀x∈r,x∈l)->ordL r=r:=by
   intro r
   induction r with
   | nil=>intro _;rfl
   | cons y r ih=>
    intro hr;rw[ordL,ih fun x hx=>hr x (List.mem_cons_of_mem _ hx),D8 d y (List.all_eq_true.1 DY y (hr y (List.mem_cons_self ..))) (ho.2 y (hr y (List.mem_cons_self ..)))]
  rw[ord,hl l fun x hx=>hx]
  by_cases k5:k=5
  ·subst k5;rw[if_pos rfl];obtain⟨dP,hp⟩:=iw rfl;unfold mapOf;have hr:rises ((ks.zip l).map (·.1))=true:=by rw[List.map_fst_zip (by omega)];exact ho.1
   rw[vG _ hr,List.map_fst_zip (by omega),List.map_snd_zip (by omega)];rw[goodJ,Bool.and_eq_true]at h;have hb:=h.1;unfold bare at hb;simp only[Bool.and_eq_true,Bool.or_eq_true,decide_eq_true_eq]at hb;obtain⟨⟨⟨h1,h2⟩,_⟩,_⟩:=hb;have e1:i=0:=by omega
   have e2:t=aN:=OJ (by omega);rw[e1,e2]
  ·rw[if_neg k5,DZ k5]
def Fair(t:List Int)(p:Nat):Prop:=∀m,strayL t m p=none
theorem Fair.end{t:List Int}{p:Nat}(h:t.length<=p):Fair t p:=fun m=>by
 cases m with
 | zero=>rfl
 | succ m=>unfold strayL;rw[if_neg (by omega)]
theorem Fair.step{t:List Int}{p wd:Nat}{c:Int}(hr:bD t p=(c,wd))(h0:wd≠0)(h:Fair t (p+wd)):Fair t p:=fun m=>by
 cases m with
 | zero=>rfl
 | succ m=>
  unfold strayL
  split
  ·rw[hr,if_neg h0];exact h m
  ·rfl
theorem Fair.Kt{t:List Int}:∀(l r:List Int) (p:Nat),(∀c∈l,0<=c/\c<128)->t.drop p=l++r->Fair t (p+l.length)->Fair t p
 | [],_,p,_,_,h=>by simpa using h
 | a::l,r,p,hl,hd,h=>by
  have ha:=hl a (List.mem_cons_self ..);have hb:ax t p=a:=LC (by simpa using hd);have hr:bD t p=(a,1):=by unfold bD;rw[hb,if_pos ha.2]
  refine Fair.step hr (by decide) (Fair.Kt l r (p+1) (fun c hc=>hl c (List.mem_cons_of_mem _ hc)) (drop_tail (by simpa using hd)) ?_);rw[show p+1+l.length=p+(a::l).length by simp;omega];exact h
def Pure(l:List Int):Prop:=∀(t r:List Int) (q:Nat),t.drop q=l++r->Fair t (q+l.length)->Fair t q
theorem Pure.Kt{l:List Int}(h:∀c∈l,0<=c/\c<128):Pure l:=fun _ r q hd hf=>Fair.Kt l r q h hd hf
theorem vT:letters aN=true:=by decide
end Go.Proofs.YtldegjjaknelgaaGreatDoor

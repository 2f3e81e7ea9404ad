/- A part. -/
import Derived.Test.YtldegjjaknelgaaGreatDoorAJ06
set_option maxRecDepth 100000
set_option maxHeartbeats 64000000
namespace Go.Proofs.YtldegjjaknelgaaGreatDoor
open Go.RowKit
def fF(ks:List ByteArray):Bool:=ks.all letters&&noKeyTwice ks
section
variable {w : World} {g : Nat} {L : List Nat} {ks : List ByteArray}
theorem Jl(hP:jc w g L ks):L.length=ks.length:=by rw[hP.1.length_eq];simp
theorem nK(hP:jc w g L ks){i:Nat}(hi:i<L.length):L.getD i 0<ks.length:=by
 have:=hP.1.subset (List.getElem_mem hi);rw[List.getD_eq_getElem?_getD,List.getElem?_eq_getElem hi];simpa using this
theorem qd(hP:jc w g L ks){n:Nat}(hn:n<ks.length):∃i,i<L.length/\L.getD i 0=n:=by
 have:n∈L:=hP.1.mem_iff.2 (by simpa using hn);obtain⟨i,hi,e⟩:=List.getElem_of_mem this;exact⟨i,hi,by rw[List.getD_eq_getElem?_getD,List.getElem?_eq_getElem hi];exact e⟩
theorem Ol(hP:jc w g L ks){i j:Nat}(hi:i<L.length)(hj:j<L.length)(hij:i≠j):L.getD i 0≠L.getD j 0:=by
 have QB:L.Nodup:=hP.1.nodup_iff.2 List.nodup_range;rw[List.getD_eq_getElem?_getD,List.getElem?_eq_getElem hi,List.getD_eq_getElem?_getD,List.getElem?_eq_getElem hj];simp only[Option.getD_some]
 rcases Nat.lt_or_gt_of_ne hij with h| h
 ·exact List.pairwise_iff_getElem.1 QB i j hi hj h
 ·exact fun e=>List.pairwise_iff_getElem.1 QB j i hj hi h e.symm
theorem dV{n:Nat}(hn:n<ks.length):aF ks n=ks[n]:=by
 unfold aF;rw[List.getD_eq_getElem?_getD,List.getElem?_eq_getElem hn];rfl
def Om(L:List Nat)(ks:List ByteArray)(m:Nat):Prop:=∀i,i<m->letters (aF ks (L.getD i 0))=true/\(0<i->aF ks (L.getD (i - 1) 0)≠aF ks (L.getD i 0))
theorem Jm(hP:jc w g L ks)(h:Om L ks L.length):fF ks=true:=by
 unfold fF;rw[Bool.and_eq_true]
 constructor
 ·rw[List.all_eq_true];intro k hk;obtain⟨n,hn,rfl⟩:=List.getElem_of_mem hk;obtain⟨i,hi,e⟩:=qd hP hn;have:=(h i hi).1;rw[e,dV hn]at this;exact this
 ·apply fE
  rw[List.pairwise_iff_getElem];intro n m hn hm Xd e;obtain⟨i,hi,ei⟩:=qd hP hn;obtain⟨j,hj,ej⟩:=qd hP hm;have key:∀a b,a<b->b<L.length->aF ks (L.getD a 0)=aF ks (L.getD b 0)->False:=by
   intro a b jQ hb hk;have h1:=hP.2.1 (b - 1) b (by omega) hb;have h2:jB (aF ks (L.getD (b - 1) 0)) (aF ks (L.getD a 0))=false:=by
    by_cases ha:a=b - 1
    ·subst ha;exact lL _
    ·exact hP.2.1 a (b - 1) (by omega) (by omega)
   have xk:=(h b hb).2 (by omega)
   rcases nA xk with h'| h'
   ·rw[hk,h']at h2;cases h2
   ·rw[h']at h1;cases h1
  have he:aF ks (L.getD i 0)=aF ks (L.getD j 0):=by rw[ei,ej,dV hn,dV hm];exact e
  rcases Nat.lt_trichotomy i j with h'| h'| h'
  ·exact key i j h' hj he
  ·subst h';omega
  ·exact key j i h' hi he.symm
theorem Ba(hP:jc w g L ks){i:Nat}(hi:i<L.length)(h:letters (aF ks (L.getD i 0))=false):fF ks=false:=by
 have hn:=nK hP hi;rw[dV hn]at h
 cases hg:fF ks with
 | false=>rfl
 | true=>
  unfold fF at hg;rw[Bool.and_eq_true,List.all_eq_true]at hg;rw[hg.1 _ (List.getElem_mem hn)]at h
  cases h
theorem E9(hP:jc w g L ks){i:Nat}(hi:i<L.length)(h0:0<i)(h:aF ks (L.getD (i - 1) 0)=aF ks (L.getD i 0)):fF ks=false:=by
 have hn:=nK hP hi;have hm:=nK hP (i:=i - 1) (by omega);have xk:=Ol hP (i:=i - 1) (by omega) hi (by omega);rw[dV hn,dV hm]at h
 cases hg:fF ks with
 | false=>rfl
 | true=>
  unfold fF at hg;rw[Bool.and_eq_true]at hg;have hp:=List.pairwise_iff_getElem.1 (gM hg.2)
  rcases Nat.lt_or_gt_of_ne xk with h'| h'
  ·exact absurd h (hp _ _ hm hn h')
  ·exact absurd h.symm (hp _ _ hn hm h')
end
theorem jc.jo{w w':World}{g:Nat}{L:List Nat}{ks:List ByteArray}(h:jc w g L ks)(e:w'.heap[g]?=w.heap[g]?):jc w' g L ks:=
 ⟨h.1,h.2.1,fun j hj=>(World.cell?_of_block (a:=⟨g,j,none⟩) e).trans (h.2.2 j hj)⟩
theorem Om.step{L:List Nat}{ks:List ByteArray}{m:Nat}(h:Om L ks m)(h1:letters (aF ks (L.getD m 0))=true)(h2:0<m->aF ks (L.getD (m - 1) 0)≠aF ks (L.getD m 0)):Om L ks (m+1):=by
 intro i hi
 by_cases e:i=m
 ·subst e;exact⟨h1,h2⟩
 ·exact h i (by omega)
theorem toList_inj{a b:ByteArray}(h:a.toList=b.toList):a=b:=by
 rw[Lib.toList_data,Lib.toList_data]at h
 cases a;cases b
 exact congrArg ByteArray.mk (Array.toList_inj.1 h)
theorem uy{O:Nat->Prop}{ks:List ByteArray}{p:Option Addr}{c:Nat}{w:World}(iK:jP O w p c ks)(hO:∀k,O k->k<w.heap.size)(hl:ks.length<=100000)(CZ:∀k∈ks,k.size<=1000000000):
    Calls Tryz.prog 160 #[.slice p ks.length c] w fun x w'=>x=.returned (.bool (fF ks))/\Below w.heap.size w w':=by
 have hri:=za iK hO (by omega);obtain⟨n,hn⟩:∃n,ks.length=n:=⟨_,rfl⟩;have HN:Hid (ks.length=n):=hn;rw[hn]at hri hl ⊢;go_enter Tryz.func160,Tryz.ntmps160;go_wp2_with(go_at_call 165;refine hri.mono ?_;rintro x w1 ⟨g,L,rfl,hP,hg0,QE,aL⟩);clear hri hn;have vz:Hid (L.length=n):=(Jl hP).trans HN.out;have EN:=aL.size
 go_loopw [10] (fun i wr=>∃k:Nat,i=.int .i64 k/\k<=n/\Om L ks k/\Below w1.heap.size w1 wr) (fun i _=>n - (intOf i).toNat)
 case atStart=>exact⟨0,rfl,Nat.zero_le _,fun i hi=>absurd hi (by omega),Below.refl _ _⟩
 case round=>
  obtain⟨k,rfl,hk,hF,ed⟩:=hrel;have HF:Hid (Om L ks k):=hF;clear hF;have hPr:=hP.jo (ed.block g QE)
  by_cases mW:k<n
  ·have hkL:k<L.length:=by rw[vz.out];exact mW
   have Yh:(k:Int)<(n:Int):=by omega
   have gc:=hPr.2.2 k hkL;have iR:=nK hPr hkL;obtain⟨a,ha⟩:∃a,L.getD k 0=a:=⟨_,rfl⟩;have HA:Hid (L.getD k 0=a):=ha;rw[ha]at gc iR;obtain⟨ad,hpe,qR,A9⟩:=iK.2 a iR;have hcK:∀(x:Nat),x<ks.length->∀W:World,Below w1.heap.size w1 W->W.cell? (ad.add x)=some (.string (aF ks x)):=by
    intro x hx W hW;obtain⟨ad',zdM,QT,zdN⟩:=iK.2 x hx;rw[hpe]at zdM
    cases zdM
    have e1:=hO _ QT;exact(World.cell?_of_block (by rw[bK];exact(hW.block _ (by omega)).trans (aL.block _ e1))).trans zdN
   subst hpe;have y_:a<n:=by rw[<-HN.out];exact iR
   have Oo:n<=c:=by have:=iK.1;rw[HN.out]at this;exact this
   have haI:(a:Int)<(n:Int):=by omega
   have hla:=xu (aF ks a);have uz:(aF ks a).size<=1000000000:=by rw[dV iR];exact CZ _ (List.getElem_mem iR)
   have Jn:=fun W hW=>hcK a iR W hW;obtain⟨key,xt⟩:∃key,aF ks a=key:=⟨_,rfl⟩;have YF:Hid (aF ks a=key):=xt;rw[xt]at hla uz Jn;have HLA:=fun W=>hla W uz;have HCK:Hid (∀(x:Nat),x<ks.length->∀W:World,Below w1.heap.size w1 W->W.cell? (ad.add x)=some (.string (aF ks x))):=hcK;clear A9 hla ha xt hcK;have Io:letters key=true\/ letters key=false:=by cases letters key<;>simp
   rcases Io with vC| vC
   ·rw[vC]at HLA
    cases k with
    | zero=>
     go_wp2;have gP:Below w1.heap.size w1 wr.drew:=⟨ed.os,ed.tape,ed.output,ed.size,ed.block⟩;refine aI (by kernel_rfl) (fun W=>Below w1.heap.size w1 W) ?_;change wpIn _ _ _ _ _ _ _ _ (World.drew _);refine aa (i:=0) (d:=some 15) rfl ?_;refine aa (i:=1) (d:=some 16) rfl ?_;refine aa (i:=2) (d:=some 17) rfl ?_;refine aC (i:=3) (d:=some 18) rfl (by(intro wq hq;have q0:=Jn wq hq;go_simp;first| done| with_reducible rfl)) ?_;refine ax (i:=4) gP rfl ?_;intro K hK;go_simp;go_wp2_with(go_at_call 158;refine(HLA _).mono ?_;rintro x w3 ⟨rfl,df⟩);have jC:Below w1.heap.size w1 w3:=gP.trans ⟨df.os,df.tape,df.output,df.size,fun k hk=>df.block k (by have:=gP.size;omega)⟩;clear gP;refine aa (i:=5) (d:=some 20) rfl ?_;refine aa (i:=6) (d:=some 21) rfl ?_;refine aa (i:=7) (d:=some 22) rfl ?_;refine aa (i:=8) (d:=some 23) rfl ?_;refine aa (i:=9) (d:=some 24) rfl ?_;refine ae (i:=10) (d:=(some 25)) (v:=undef) (a':= ?aqz10) rfl rfl (by kernel_rfl) (by kernel_rfl) (by kernel_rfl) (fun _ _ _ h=>h) (Or.inr ⟨by rfl,rfl⟩) ?fqz10 ?_
     case fqz10=>(go_frame;rfl)
     refine ae (i:=11) (d:=(some 26)) (v:=undef) (a':= ?aqz11) rfl rfl (by kernel_rfl) (by kernel_rfl) (by kernel_rfl) (fun _ _ _ h=>h) (Or.inr ⟨by rfl,rfl⟩) ?fqz11 ?_
     case fqz11=>(go_frame;rfl)
     refine ae (i:=12) (d:=(some 27)) (v:=undef) (a':= ?aqz12) rfl rfl (by kernel_rfl) (by kernel_rfl) (by kernel_rfl) (fun _ _ _ h=>h) (Or.inr ⟨by rfl,rfl⟩) ?fqz12 ?_
     case fqz12=>(go_frame;rfl)
     refine ae (i:=13) (d:=(some 28)) (v:=undef) (a':= ?aqz13) rfl rfl (by kernel_rfl) (by kernel_rfl) (by kernel_rfl) (fun _ _ _ h=>h) (Or.inr ⟨by rfl,rfl⟩) ?fqz13 ?_
     case fqz13=>(go_frame;rfl)
     refine ae (i:=14) (d:=(some 29)) (v:=undef) (a':= ?aqz14) rfl rfl (by kernel_rfl) (by kernel_rfl) (by kernel_rfl) (fun _ _ _ h=>h) (Or.inr ⟨by rfl,rfl⟩) ?fqz14 ?_
     case fqz14=>(go_frame;rfl)
     refine ae (i:=15) (d:=(some 30)) (v:=undef) (a':= ?aqz15) rfl rfl (by kernel_rfl) (by kernel_rfl) (by kernel_rfl) (fun _ _ _ h=>h) (Or.inr ⟨by rfl,rfl⟩) ?fqz15 ?_
     case fqz15=>(go_frame;rfl)
     refine ae (i:=16) (d:=(some 31)) (v:=undef) (a':= ?aqz16) rfl rfl (by kernel_rfl) (by kernel_rfl) (by kernel_rfl) (fun _ _ _ h=>h) (Or.inr ⟨by rfl,rfl⟩) ?fqz16 ?_
     case fqz16=>(go_frame;rfl)
     refine ae (i:=17) (d:=(some 32)) (v:=undef) (a':= ?aqz17) rfl rfl (by kernel_rfl) (by kernel_rfl) (by kernel_rfl) (fun _ _ _ h=>h) (Or.inr ⟨by rfl,rfl⟩) ?fqz17 ?_
     case fqz17=>(go_frame;rfl)
     refine ae (i:=18) (d:=(some 33)) (v:=undef) (a':= ?aqz18) rfl rfl (by kernel_rfl) (by kernel_rfl) (by kernel_rfl) (fun _ _ _ h=>h) (Or.inr ⟨by rfl,rfl⟩) ?fqz18 ?_
     case fqz18=>(go_frame;rfl)
     refine ae (i:=19) (d:=(some 34)) (v:=undef) (a':= ?aqz19) rfl rfl (by kernel_rfl) (by kernel_rfl) (by kernel_rfl) (fun _ _ _ h=>h) (Or.inr ⟨by rfl,rfl⟩) ?fqz19 ?_
     case fqz19=>(go_frame;rfl)
     refine ae (i:=20) (d:=(some 35)) (v:=undef) (a':= ?aqz20) rfl rfl (by kernel_rfl) (by kernel_rfl) (by kernel_rfl) (fun _ _ _ h=>h) (Or.inr ⟨by rfl,rfl⟩) ?fqz20 ?_
     case fqz20=>(go_frame;rfl)
     refine ae (i:=21) (d:=(some 36)) (v:=undef) (a':= ?aqz21) rfl rfl (by kernel_rfl) (by kernel_rfl) (by kernel_rfl) (fun _ _ _ h=>h) (Or.inr ⟨by rfl,rfl⟩) ?fqz21 ?_
     case fqz21=>(go_frame;rfl)
     refine ae (i:=22) (d:=(some 37)) (v:=undef) (a':= ?aqz22) rfl rfl (by kernel_rfl) (by kernel_rfl) (by kernel_rfl) (fun _ _ _ h=>h) (Or.inr ⟨by rfl,rfl⟩) ?fqz22 ?_
     case fqz22=>(go_frame;rfl)
     refine aa (i:=23) (d:=some 38) rfl ?_;refine aa (i:=24) (d:=some 39) rfl ?_;refine aH jC (by kernel_rfl) ?_ _;go_wp2;go_roundw
     case rel=>exact⟨1,by go_num,mW,HF.out.step (by rw[HA.out,YF.out];exact vC) (fun h=>absurd h (by omega)),jC⟩
     case measure=>simp[intOf];omega
    | succ m=>
     have gm:=hPr.2.2 m (by omega);have hmt:=nK hPr (i:=m) (by omega);obtain⟨b,gU⟩:∃b,L.getD m 0=b:=⟨_,rfl⟩;have HB:Hid (L.getD m 0=b):=gU;rw[gU]at gm hmt;have hCB:=fun W hW=>HCK.out b hmt W hW;have Eg:b<n:=by rw[<-HN.out];exact hmt
     have hbI:(b:Int)<(n:Int):=by omega
     have hmI:(m:Int)<(n:Int):=by omega
     have hwm:IntKind.i64.wrap (m:Int)=(m:Int):=by first| go_num| (simp[IntKind.wrap,IntKind.bits,IntKind.signed];omega)
     have hGM:∀W:World,Below w1.heap.size w1 W->W.cell? ⟨g,m,none⟩=some (.int .i64 (b:Int)):=fun W hW=>by
      have h1:=hP.2.2 m (by omega);rw[gU]at h1;exact(World.cell?_of_block (a:=⟨g,m,none⟩) (hW.block g QE)).trans h1
     obtain⟨kb,hkb⟩:∃kb,aF ks b=kb:=⟨_,rfl⟩;have WY:Hid (aF ks b=kb):=hkb;rw[hkb]at hCB;clear gU hkb hmt
     by_cases MF:kb=key
     ·have heq:(kb.toList==key.toList)=true:=by rw[MF];simp
      go_wp2;have gP:Below w1.heap.size w1 wr.drew:=⟨ed.os,ed.tape,ed.output,ed.size,ed.block⟩;refine aI (by kernel_rfl) (fun W=>Below w1.heap.size w1 W) ?_;change wpIn _ _ _ _ _ _ _ _ (World.drew _);refine aa (i:=0) (d:=some 15) rfl ?_;refine aa (i:=1) (d:=some 16) rfl ?_;refine aa (i:=2) (d:=some 17) rfl ?_;refine aC (i:=3) (d:=some 18) rfl (by(intro wq hq;have q0:=Jn wq hq;go_simp;first| done| with_reducible rfl)) ?_;refine ax (i:=4) gP rfl ?_;intro K hK;go_simp;go_wp2_with(go_at_call 158;refine(HLA _).mono ?_;rintro x w3 ⟨rfl,df⟩);have jC:Below w1.heap.size w1 w3:=gP.trans ⟨df.os,df.tape,df.output,df.size,fun k hk=>df.block k (by have:=gP.size;omega)⟩;clear gP;refine aa (i:=5) (d:=some 20) rfl ?_;refine aa (i:=6) (d:=some 21) rfl ?_;refine aa (i:=7) (d:=some 22) rfl ?_;refine aa (i:=8) (d:=some 23) rfl ?_;refine aa (i:=9) (d:=some 24) rfl ?_;refine aa (i:=10) (d:=some 25) rfl ?_;refine aa (i:=11) (d:=some 26) rfl ?_;refine aa (i:=12) (d:=some 27) rfl ?_;refine aa (i:=13) (d:=some 28) rfl ?_;refine aa (i:=14) (d:=some 29) rfl ?_;refine aC (i:=15) (d:=some 30) rfl (by(intro wq hq;have q0:=hGM wq hq;go_simp;first| done| with_reducible rfl)) ?_;refine aa (i:=16) (d:=some 31) rfl ?_;refine aC (i:=17) (d:=some 32) rfl (by(intro wq hq;have q0:=hCB wq hq;go_simp;first| done| with_reducible rfl)) ?_;refine aa (i:=18) (d:=some 33) rfl ?_;refine aa (i:=19) (d:=some 34) rfl ?_;refine aa (i:=20) (d:=some 35) rfl ?_;refine aC (i:=21) (d:=some 36) rfl (by(intro wq hq;have q0:=Jn wq hq;go_simp;first| done| with_reducible rfl)) ?_;refine aa (i:=22) (d:=some 37) rfl ?_;refine aa (i:=23) (d:=some 38) rfl ?_;refine aa (i:=24) (d:=some 39) rfl ?_;refine aH jC (by kernel_rfl) ?_ _;go_wp2;go_ret;exact⟨aj (E9 hP hkL (by omega) (by rw[HA.out,YF.out];show aF ks (L.getD m 0)=_;rw[HB.out,WY.out];exact MF)).symm,aL.trans ⟨jC.os,jC.tape,jC.output,jC.size,fun k hk=>jC.block k (by omega)⟩⟩
     ·have heq:(kb.toList==key.toList)=false:=by rw[beq_eq_false_iff_ne];intro e;exact MF (toList_inj e)
      go_wp2;have gP:Below w1.heap.size w1 wr.drew:=⟨ed.os,ed.tape,ed.output,ed.size,ed.block⟩;refine aI (by kernel_rfl) (fun W=>Below w1.heap.size w1 W) ?_;change wpIn _ _ _ _ _ _ _ _ (World.drew _);refine aa (i:=0) (d:=some 15) rfl ?_;refine aa (i:=1) (d:=some 16) rfl ?_;refine aa (i:=2) (d:=some 17) rfl ?_;refine aC (i:=3) (d:=some 18) rfl (by(intro wq hq;have q0:=Jn wq hq;go_simp;first| done| with_reducible rfl)) ?_;refine ax (i:=4) gP rfl ?_;intro K hK;go_simp;go_wp2_with(go_at_call 158;refine(HLA _).mono ?_;rintro x w3 ⟨rfl,df⟩);have jC:Below w1.heap.size w1 w3:=gP.trans ⟨df.os,df.tape,df.output,df.size,fun k hk=>df.block k (by have:=gP.size;omega)⟩;clear gP;refine aa (i:=5) (d:=some 20) rfl ?_;refine aa (i:=6) (d:=some 21) rfl ?_;refine aa (i:=7) (d:=some 22) rfl ?_;refine aa (i:=8) (d:=some 23) rfl ?_;refine aa (i:=9) (d:=some 24) rfl ?_;refine aa (i:=10) (d:=some 25) rfl ?_;refine aa (i:=11) (d:=some 26) rfl ?_;refine aa (i:=12) (d:=some 27) rfl ?_;refine aa (i:=13) (d:=some 28) rfl ?_;refine aa (i:=14) (d:=some 29) rfl ?_;refine aC (i:=15) (d:=some 30) rfl (by(intro wq hq;have q0:=hGM wq hq;go_simp;first| done| with_reducible rfl)) ?_;refine aa (i:=16) (d:=some 31) rfl ?_;refine aC (i:=17) (d:=some 32) rfl (by(intro wq hq;have q0:=hCB wq hq;go_simp;first| done| with_reducible rfl)) ?_;refine aa (i:=18) (d:=some 33) rfl ?_;refine aa (i:=19) (d:=some 34) rfl ?_;refine aa (i:=20) (d:=some 35) rfl ?_;refine aC (i:=21) (d:=some 36) rfl (by(intro wq hq;have q0:=Jn wq hq;go_simp;first| done| with_reducible rfl)) ?_;refine aa (i:=22) (d:=some 37) rfl ?_;refine aa (i:=23) (d:=some 38) rfl ?_;refine aa (i:=24) (d:=some 39) rfl ?_;refine aH jC (by kernel_rfl) ?_ _;go_wp2;go_roundw
      case rel=>exact⟨m+1+1,by go_num,mW,HF.out.step (by rw[HA.out,YF.out];exact vC) (fun _=>by rw[HA.out,YF.out];show aF ks (L.getD m 0)≠_;rw[HB.out,WY.out];exact MF),jC⟩
      case measure=>simp[intOf];omega
   ·rw[vC]at HLA;go_wp2;have gP:Below w1.heap.size w1 wr.drew:=⟨ed.os,ed.tape,ed.output,ed.size,ed.block⟩;refine aI (by kernel_rfl) (fun W=>Below w1.heap.size w1 W) ?_;change wpIn _ _ _ _ _ _ _ _ (World.drew _);refine aa (i:=0) (d:=some 15) rfl ?_;refine aa (i:=1) (d:=some 16) rfl ?_;refine aa (i:=2) (d:=some 17) rfl ?_;refine aC (i:=3) (d:=some 18) rfl (by(intro wq hq;have q0:=Jn wq hq;go_simp;first| done| with_reducible rfl)) ?_;refine ax (i:=4) gP rfl ?_;intro K hK;go_simp;go_wp2_with(go_at_call 158;refine(HLA _).mono ?_;rintro x w3 ⟨rfl,df⟩);have jC:Below w1.heap.size w1 w3:=gP.trans ⟨df.os,df.tape,df.output,df.size,fun k hk=>df.block k (by have:=gP.size;omega)⟩;clear gP;refine aa (i:=5) (d:=some 20) rfl ?_;refine aa (i:=6) (d:=some 21) rfl ?_;refine ae (i:=7) (d:=(some 22)) (v:=undef) (a':= ?aqn7) rfl rfl (by kernel_rfl) (by kernel_rfl) (by kernel_rfl) (fun _ _ _ h=>h) (Or.inr ⟨by rfl,rfl⟩) ?fqn7 ?_
    case fqn7=>(go_frame;rfl)
    refine ae (i:=8) (d:=(some 23)) (v:=undef) (a':= ?aqn8) rfl rfl (by kernel_rfl) (by kernel_rfl) (by kernel_rfl) (fun _ _ _ h=>h) (Or.inr ⟨by rfl,rfl⟩) ?fqn8 ?_
    case fqn8=>(go_frame;rfl)
    refine ae (i:=9) (d:=(some 24)) (v:=undef) (a':= ?aqn9) rfl rfl (by kernel_rfl) (by kernel_rfl) (by kernel_rfl) (fun _ _ _ h=>h) (Or.inr ⟨by rfl,rfl⟩) ?fqn9 ?_
    case fqn9=>(go_frame;rfl)
    refine ae (i:=10) (d:=(some 25)) (v:=undef) (a':= ?aqn10) rfl rfl (by kernel_rfl) (by kernel_rfl) (by kernel_rfl) (fun _ _ _ h=>h) (Or.inr ⟨by rfl,rfl⟩) ?fqn10 ?_
    case fqn10=>(go_frame;rfl)
    refine ae (i:=11) (d:=(some 26)) (v:=undef) (a':= ?aqn11) rfl rfl (by kernel_rfl) (by kernel_rfl) (by kernel_rfl) (fun _ _ _ h=>h) (Or.inr ⟨by rfl,rfl⟩) ?fqn11 ?_
    case fqn11=>(go_frame;rfl)
    refine ae (i:=12) (d:=(some 27)) (v:=undef) (a':= ?aqn12) rfl rfl (by kernel_rfl) (by kernel_rfl) (by kernel_rfl) (fun _ _ _ h=>h) (Or.inr ⟨by rfl,rfl⟩) ?fqn12 ?_
    case fqn12=>(go_frame;rfl)
    refine ae (i:=13) (d:=(some 28)) (v:=undef) (a':= ?aqn13) rfl rfl (by kernel_rfl) (by kernel_rfl) (by kernel_rfl) (fun _ _ _ h=>h) (Or.inr ⟨by rfl,rfl⟩) ?fqn13 ?_
    case fqn13=>(go_frame;rfl)
    refine ae (i:=14) (d:=(some 29)) (v:=undef) (a':= ?aqn14) rfl rfl (by kernel_rfl) (by kernel_rfl) (by kernel_rfl) (fun _ _ _ h=>h) (Or.inr ⟨by rfl,rfl⟩) ?fqn14 ?_
    case fqn14=>(go_frame;rfl)
    refine ae (i:=15) (d:=(some 30)) (v:=undef) (a':= ?aqn15) rfl rfl (by kernel_rfl) (by kernel_rfl) (by kernel_rfl) (fun _ _ _ h=>h) (Or.inr ⟨by rfl,rfl⟩) ?fqn15 ?_
    case fqn15=>(go_frame;rfl)
    refine ae (i:=16) (d:=(some 31)) (v:=undef) (a':= ?aqn16) rfl rfl (by kernel_rfl) (by kernel_rfl) (by kernel_rfl) (fun _ _ _ h=>h) (Or.inr ⟨by rfl,rfl⟩) ?fqn16 ?_
    case fqn16=>(go_frame;rfl)
    refine ae (i:=17) (d:=(some 32)) (v:=undef) (a':= ?aqn17) rfl rfl (by kernel_rfl) (by kernel_rfl) (by kernel_rfl) (fun _ _ _ h=>h) (Or.inr ⟨by rfl,rfl⟩) ?fqn17 ?_
    case fqn17=>(go_frame;rfl)
    refine ae (i:=18) (d:=(some 33)) (v:=undef) (a':= ?aqn18) rfl rfl (by kernel_rfl) (by kernel_rfl) (by kernel_rfl) (fun _ _ _ h=>h) (Or.inr ⟨by rfl,rfl⟩) ?fqn18 ?_
    case fqn18=>(go_frame;rfl)
    refine ae (i:=19) (d:=(some 34)) (v:=undef) (a':= ?aqn19) rfl rfl (by kernel_rfl) (by kernel_rfl) (by kernel_rfl) (fun _ _ _ h=>h) (Or.inr ⟨by rfl,rfl⟩) ?fqn19 ?_
    case fqn19=>(go_frame;rfl)
    refine ae (i:=20) (d:=(some 35)) (v:=undef) (a':= ?aqn20) rfl rfl (by kernel_rfl) (by kernel_rfl) (by kernel_rfl) (fun _ _ _ h=>h) (Or.inr ⟨by rfl,rfl⟩) ?fqn20 ?_
    case fqn20=>(go_frame;rfl)
    refine ae (i:=21) (d:=(some 36)) (v:=undef) (a':= ?aqn21) rfl rfl (by kernel_rfl) (by kernel_rfl) (by kernel_rfl) (fun _ _ _ h=>h) (Or.inr ⟨by rfl,rfl⟩) ?fqn21 ?_
    case fqn21=>(go_frame;rfl)
    refine ae (i:=22) (d:=(some 37)) (v:=undef) (a':= ?aqn22) rfl rfl (by kernel_rfl) (by kernel_rfl) (by kernel_rfl) (fun _ _ _ h=>h) (Or.inr ⟨by rfl,rfl⟩) ?fqn22 ?_
    case fqn22=>(go_frame;rfl)
    refine ae (i:=23) (d:=(some 38)) (v:=undef) (a':= ?aqn23) rfl rfl (by kernel_rfl) (by kernel_rfl) (by kernel_rfl) (fun _ _ _ h=>h) (Or.inr ⟨by rfl,rfl⟩) ?fqn23 ?_
    case fqn23=>(go_frame;rfl)
    refine aa (i:=24) (d:=some 39) rfl ?_;refine aH jC (by kernel_rfl) ?_ _;go_wp2;go_ret;exact⟨aj (Ba hP hkL (by rw[HA.out,YF.out];exact vC)).symm,aL.trans ⟨jC.os,jC.tape,jC.output,jC.size,fun k hk=>jC.block k (by omega)⟩⟩
  ·obtain rfl:k=n:=by omega
   go_wp2;go_ret;exact⟨aj (Jm hP (by rw[vz.out];exact HF.out)).symm,aL.trans ⟨ed.os,ed.tape,ed.output,ed.size,fun k hk=>ed.block k (by omega)⟩⟩
def szJ:Nat->J->Bool
 | 0,_=>true
 | d+1,.mk _ _ t ks l=>decide (t.size<=1000000000)&&(decide (ks.length<=100000)&&(ks.all (fun k=>decide (k.size<=1000000000))&&(decide (l.length<=100000)&&l.all (szJ d))))
def E_(d:Nat):Prop:=∀(w:World) (O:Nat->Prop) (j:J) (k i deep:Int) (t:ByteArray) (pk pl:Option Addr) (nk ck nl cl:Nat),(∀x,O x->x<w.heap.size)->deep=13 - (d:Int)->szJ d j=true→
 isJ O w j [.int .i64 k,.int .i64 i,.string t,.slice pk nk ck,.slice pl nl cl]→
 Calls Tryz.prog 135 #[.agg #[.int .i64 k,.int .i64 i,.string t,.slice pk nk ck,.slice pl nl cl],.int .i64 deep] w fun x w'=>x=.returned (.bool (goodJ d j))/\Below w.heap.size w w'
theorem av{a b c:World}(h:Below a.heap.size a b)(g:Below b.heap.size b c):Below a.heap.size a c:=h.trans ⟨g.os,g.tape,g.output,g.size,fun k hk=>g.block k (by have:=h.size;omega)⟩
theorem oM{α:Type}{P:α->Bool}{l:List α}{n:Nat}{z:α}(h:l.all P=true)(hn:n<l.length):P (l.getD n z)=true:=by
 rw[List.getD_eq_getElem?_getD,List.getElem?_eq_getElem hn];exact List.all_eq_true.1 h _ (List.getElem_mem hn)
theorem zq{P:J->Bool}{l:List J}{n:Nat}(hn:n<l.length):(l.take (n+1)).all P=((l.take n).all P&&P (l.getD n J.zero)):=by
 rw[iE hn,List.all_append];simp
theorem MG{P:J->Bool}{l:List J}{n:Nat}(hn:n<l.length)(h:P (l.getD n J.zero)=false):l.all P=false:=by
 cases ha:l.all P with
 | false=>rfl
 | true=>rw[oM (z:=J.zero) ha hn]at h;cases h
theorem xw{d:Nat}(V:E_ d){w:World}{O:Nat->Prop}{l:List J}{pl:Option Addr}{cl:Nat}{deep:Int}(hO:∀x,O x->x<w.heap.size)(rO:deep=13 - (d:Int))(fK:l.all (szJ d)=true)(hj:isJs O w pl 0 l)(hc:l.length<=cl)(fw:l.length<=100000):
    Calls Tryz.prog 159 #[.slice pl l.length cl,.int .i64 deep] w fun x w'=>x=.returned (.bool (l.all (goodJ d)))/\Below w.heap.size w w':=by
 have HD:Hid (deep=13 - (d:Int)):=rO;clear rO;obtain⟨n,hn⟩:∃n,l.length=n:=⟨_,rfl⟩;have HN:Hid (l.length=n):=hn;rw[hn]at hc fw ⊢;clear hn;go_enter Tryz.func159,Tryz.ntmps159;go_wp2
 go_loopw [9] (fun i wr=>∃k:Nat,i=.int .i64 k/\k<=n/\(l.take k).all (goodJ d)=true/\Below w.heap.size w wr) (fun i _=>n - (intOf i).toNat)
 case atStart=>exact⟨0,rfl,Nat.zero_le _,rfl,Below.refl _ _⟩
 case round=>
  obtain⟨k,rfl,hk,QG,ed⟩:=hrel;have HAL:Hid ((l.take k).all (goodJ d)=true):=QG;clear QG
  by_cases eQ:k<n
  ·have vT:k<l.length:=by rw[HN.out];exact eQ
   have vz:Hid (k<l.length):=vT;obtain⟨lb,lo,cs,tO,lY,bC,iL⟩:=isJs.at l 0 k hj vT;subst tO;obtain⟨kv,iv,tv,pv,nv,cv,qv,mv,dv,rfl⟩:=dw iL;have tK:=ed.block lb (hO lb lY);have cc:∀m v, [Value.int .i64 kv,.int .i64 iv,.string tv,.slice pv nv cv,.slice qv mv dv][m]?=some v->wr.cell? ⟨lb,lo+k*5+m,none⟩=some v:=fun m v h=>by
    have:=bC m v h;rw[Nat.zero_add]at this;exact(World.cell?_of_block (a:=⟨lb,lo+k*5+m,none⟩) tK).trans this
   have y0:wr.cell? ⟨lb,lo+k*5,none⟩=some (.int .i64 kv):=cc 0 _ rfl;have y1:=cc 1 _ rfl;have y2:=cc 2 _ rfl;have y3:=cc 3 _ rfl;have y4:=cc 4 _ rfl;clear cc bC vT;have Yh:(k:Int)<(n:Int):=by omega
   have bM:Below w.heap.size w (wr.alloc (.cells #[.int .i64 kv,.int .i64 iv,.string tv,.slice pv nv cv,.slice qv mv dv] 25)):=ed.alloc ed.size _;have hV:=V (wr.alloc (.cells #[.int .i64 kv,.int .i64 iv,.string tv,.slice pv nv cv,.slice qv mv dv] 25)) O (l.getD k J.zero) kv iv deep tv pv qv nv cv mv dv (fun x hx=>Nat.lt_of_lt_of_le (hO x hx) bM.size) HD.out (oM fK vz.out) (iL.carry fun x hx=>⟨hx,bM.block x (hO x hx)⟩)
   cases hgj:goodJ d (l.getD k J.zero)with
   | true=>
    rw[hgj]at hV;go_wp2_with(go_at_call 135;refine hV.mono ?_;rintro x w4 ⟨rfl,dF⟩);go_roundw
    case rel=>exact⟨k+1,by go_num,eQ,by rw[zq vz.out,HAL.out,hgj];rfl,bM.trans ⟨dF.os,dF.tape,dF.output,dF.size,fun x hx=>dF.block x (by have:=bM.size;omega)⟩⟩
    case measure=>simp[intOf];omega
   | false=>
    rw[hgj]at hV;go_wp2_with(go_at_call 135;refine hV.mono ?_;rintro x w4 ⟨rfl,dF⟩);go_ret;exact⟨aj (MG vz.out hgj).symm,bM.trans ⟨dF.os,dF.tape,dF.output,dF.size,fun x hx=>dF.block x (by have:=bM.size;omega)⟩⟩
  ·obtain rfl:k=n:=by omega
   go_wp2;go_ret;have:=HAL.out;rw[List.take_of_length_le (by rw[HN.out];omega)]at this;exact⟨aj this.symm,ed⟩
theorem Jo:E_ 0:=by
 intro w O j k i deep t pk pl nk ck nl cl hO rO fK hj;have YN:deep=13:=by omega
 clear rO;subst YN;have HG:Hid (goodJ 0 j=false):=by show _=_;unfold goodJ;rfl
 clear hj fK;go_enter Tryz.func135,Tryz.ntmps135;go_wp2;go_ret;exact⟨aj HG.out.symm,(Below.refl _ _).alloc (Nat.le_refl _) _⟩
theorem C7(k i:Int)(t:ByteArray)(ks:List ByteArray)(l:List J):bare (.mk k i t ks l)=bA k i t ks.length l.length:=by unfold bare bA;rfl
theorem Jp{d:Nat}(V:E_ d)(hd:d+1<=12):E_ (d+1):=by
 intro w O j k i deep t pk pl nk ck nl cl hO rO fK hj;have hd0:0<=deep:=by omega
 have hd1:deep<=12:=by omega
 have HD:Hid (deep+1=13 - (d:Int)):=by show _=_;omega
 clear rO
 cases j with
 | mk k' i' t' ks l=>
  unfold isJ at hj;obtain⟨YH,U0,YI,A_,e,oJ,Em,oo⟩:=hj
  cases e
  unfold szJ at fK;simp only[Bool.and_eq_true,decide_eq_true_eq]at fK;obtain⟨ht,eQ,CZ,vO,BP⟩:=fK;have zef:∀x∈ks,x.size<=1000000000:=fun x hx=>of_decide_eq_true (List.all_eq_true.1 CZ x hx);have bM:Below w.heap.size w (w.alloc (.cells #[.int .i64 k,.int .i64 i,.string t,.slice pk ks.length ck,.slice pl l.length cl] 25)):=(Below.refl _ _).alloc (Nat.le_refl _) _;have bb:=QS k i t pk pl ks.length ck l.length cl (w.alloc (.cells #[.int .i64 k,.int .i64 i,.string t,.slice pk ks.length ck,.slice pl l.length cl] 25));have HB:Hid (goodJ (d+1) (.mk k i t ks l)=(bA k i t ks.length l.length&&
   (if k=0 then true else if k=1 then decide (i=0) || decide (i=1)else if k=2 then decide (-dN<=i)&&decide (i<=dN)else if k=3 then letters t else if k=4 then l.all (goodJ d)
    else if k=5 then decide (ks.length=l.length)&&(ks.all letters&&noKeyTwice ks)&&l.all (goodJ d)else false))):=by show _=_;rw[goodJ,C7]
  have bk:∀w2:World,Below (w.alloc (.cells #[.int .i64 k,.int .i64 i,.string t,.slice pk ks.length ck,.slice pl l.length cl] 25)).heap.size (w.alloc (.cells #[.int .i64 k,.int .i64 i,.string t,.slice pk ks.length ck,.slice pl l.length cl] 25)) w2→
      w2.heap[w.heap.size]?=some (.cells #[.int .i64 k,.int .i64 i,.string t,.slice pk ks.length ck,.slice pl l.length cl] 25 (0,0))/\Below w.heap.size w w2:=fun w2 h2=>
   ⟨by rw[h2.block w.heap.size (by simp)];exact heap_alloc_new _ _,bM.trans ⟨h2.os,h2.tape,h2.output,h2.size,fun x hx=>h2.block x (by simp;omega)⟩⟩
  clear CZ
  cases ed:bA k i t ks.length l.length with
  | false=>
   have HG:Hid (goodJ (d+1) (.mk k i t ks l)=false):=by show _=_;rw[HB.out,ed];rfl
   rw[ed]at bb;go_enter Tryz.func135,Tryz.ntmps135;go_wp2_with(first
    | (go_at_call 157;refine bb.mono ?_;rintro x w2 ⟨rfl,aY⟩;obtain⟨hv,dM⟩:=bk w2 aY;clear bk;obtain⟨c0,c1,c2,c3,c4⟩:=aU hv))
   go_ret;exact⟨aj HG.out.symm,dM⟩
  | true=>
   rw[ed]at bb HB;simp only[Bool.true_and]at HB
   by_cases k0:k=0
   ·subst k0;have HG:Hid (goodJ (d+1) (.mk 0 i t ks l)=true):=by show _=_;rw[HB.out];rfl
    go_enter Tryz.func135,Tryz.ntmps135;go_wp2_with(first
     | (go_at_call 157;refine bb.mono ?_;rintro x w2 ⟨rfl,aY⟩;obtain⟨hv,dM⟩:=bk w2 aY;clear bk;obtain⟨c0,c1,c2,c3,c4⟩:=aU hv))
    go_ret;exact⟨aj HG.out.symm,dM⟩
   rw[if_neg k0]at HB
   by_cases k1:k=1
   ·subst k1;rw[if_pos rfl]at HB
    by_cases i0:i=0
    ·subst i0;have HG:Hid (goodJ (d+1) (.mk 1 0 t ks l)=true):=by show _=_;rw[HB.out];rfl
     go_enter Tryz.func135,Tryz.ntmps135;go_wp2_with(first
      | (go_at_call 157;refine bb.mono ?_;rintro x w2 ⟨rfl,aY⟩;obtain⟨hv,dM⟩:=bk w2 aY;clear bk;obtain⟨c0,c1,c2,c3,c4⟩:=aU hv))
     go_ret;exact⟨aj HG.out.symm,dM⟩
    ·by_cases i1:i=1
     ·subst i1;have HG:Hid (goodJ (d+1) (.mk 1 1 t ks l)=true):=by show _=_;rw[HB.out];rfl
      go_enter Tryz.func135,Tryz.ntmps135;go_wp2_with(first
       | (go_at_call 157;refine bb.mono ?_;rintro x w2 ⟨rfl,aY⟩;obtain⟨hv,dM⟩:=bk w2 aY;clear bk;obtain⟨c0,c1,c2,c3,c4⟩:=aU hv))
      go_ret;exact⟨aj HG.out.symm,dM⟩
     ·skip
      have HG:Hid (goodJ (d+1) (.mk 1 i t ks l)=false):=by show _=_;rw[HB.out];simp[i0,i1]
      go_enter Tryz.func135,Tryz.ntmps135;go_wp2_with(first
       | (go_at_call 157;refine bb.mono ?_;rintro x w2 ⟨rfl,aY⟩;obtain⟨hv,dM⟩:=bk w2 aY;clear bk;obtain⟨c0,c1,c2,c3,c4⟩:=aU hv))
      go_ret;refine⟨aj ?_,dM⟩;rw[HG.out]
      first| rfl| simp[i0,i1]
   rw[if_neg k1]at HB
   by_cases k2:k=2
   ·subst k2;rw[if_pos rfl]at HB;unfold dN at HB
    by_cases i0: -9007199254740991<=i
    ·skip
     by_cases i1:i<=9007199254740991
     ·skip
      have HG:Hid (goodJ (d+1) (.mk 2 i t ks l)=true):=by show _=_;rw[HB.out];simp[i0,i1]
      go_enter Tryz.func135,Tryz.ntmps135;go_wp2_with(first
       | (go_at_call 157;refine bb.mono ?_;rintro x w2 ⟨rfl,aY⟩;obtain⟨hv,dM⟩:=bk w2 aY;clear bk;obtain⟨c0,c1,c2,c3,c4⟩:=aU hv))
      go_ret;refine⟨aj ?_,dM⟩
      first| exact HG.out.symm| (rw[HG.out];simp[i0,i1])
     ·skip
      have HG:Hid (goodJ (d+1) (.mk 2 i t ks l)=false):=by show _=_;rw[HB.out];simp[i1]
      go_enter Tryz.func135,Tryz.ntmps135;go_wp2_with(first
       | (go_at_call 157;refine bb.mono ?_;rintro x w2 ⟨rfl,aY⟩;obtain⟨hv,dM⟩:=bk w2 aY;clear bk;obtain⟨c0,c1,c2,c3,c4⟩:=aU hv))
      go_ret;refine⟨aj ?_,dM⟩
      first| exact HG.out.symm| (rw[HG.out];simp[i1])
    ·skip
     have HG:Hid (goodJ (d+1) (.mk 2 i t ks l)=false):=by show _=_;rw[HB.out];simp[i0]
     go_enter Tryz.func135,Tryz.ntmps135;go_wp2_with(first
      | (go_at_call 157;refine bb.mono ?_;rintro x w2 ⟨rfl,aY⟩;obtain⟨hv,dM⟩:=bk w2 aY;clear bk;obtain⟨c0,c1,c2,c3,c4⟩:=aU hv))
     go_ret;refine⟨aj ?_,dM⟩
     first| exact HG.out.symm| (rw[HG.out];simp[i0])
   rw[if_neg k2]at HB
   by_cases k3:k=3
   ·subst k3;rw[if_pos rfl]at HB;go_enter Tryz.func135,Tryz.ntmps135;go_wp2_with(first
     | (go_at_call 157;refine bb.mono ?_;rintro x w2 ⟨rfl,aY⟩;obtain⟨hv,dM⟩:=bk w2 aY;clear bk;obtain⟨c0,c1,c2,c3,c4⟩:=aU hv)
     | (go_at_call 158;refine(xu t w2 ht).mono ?_;rintro x w3 ⟨rfl,df⟩))
    go_ret;exact⟨aj HB.out.symm,av dM df⟩
   rw[if_neg k3]at HB
   by_cases k4:k=4
   ·subst k4;rw[if_pos rfl]at HB;go_enter Tryz.func135,Tryz.ntmps135;go_wp2_with(first
     | (go_at_call 157;refine bb.mono ?_;rintro x w2 ⟨rfl,aY⟩;obtain⟨hv,dM⟩:=bk w2 aY;clear bk;obtain⟨c0,c1,c2,c3,c4⟩:=aU hv)
     | (go_at_call 159;refine(xw V (fun x hx=>Nat.lt_of_lt_of_le (hO x hx) (dM).size) HD.out BP (oo.carry fun x hx=>⟨hx,(dM).block x (hO x hx)⟩) Em vO).mono ?_;rintro x w4 ⟨rfl,dF⟩))
    go_ret;exact⟨aj HB.out.symm,av dM dF⟩
   rw[if_neg k4]at HB
   by_cases k5:k=5
   ·subst k5;rw[if_pos rfl]at HB
    by_cases he:ks.length=l.length
    ·have heI:((ks.length:Int)==(l.length:Int))=true:=by simp[he]
     have HE:Hid (ks.length=l.length):=he;clear he
     cases qO:fF ks with
     | true=>
      have HGK:Hid (fF ks=true):=qO;have HG:Hid (goodJ (d+1) (.mk 5 i t ks l)=l.all (goodJ d)):=by
       show _=_
       rw[HB.out];unfold fF at qO;rw[qO,decide_eq_true HE.out]
       rfl
      clear qO;go_enter Tryz.func135,Tryz.ntmps135;go_wp2_with(first
       | (go_at_call 157;refine bb.mono ?_;rintro x w2 ⟨rfl,aY⟩;obtain⟨hv,dM⟩:=bk w2 aY;clear bk;obtain⟨c0,c1,c2,c3,c4⟩:=aU hv)
       | (go_at_call 160;refine(uy (oJ.carry fun x hx=>⟨hx,dM.block x (hO x hx)⟩) (fun x hx=>Nat.lt_of_lt_of_le (hO x hx) dM.size) eQ zef).mono ?_;rw[HGK.out];rintro x w3 ⟨rfl,df⟩;have YO:=(df.block w.heap.size (Array.getElem?_eq_some_iff.1 hv).1).trans hv;have qf:=av dM df;obtain⟨c03,kW,c23,c33,c43⟩:=aU YO)
       | (go_at_call 159;refine(xw V (fun x hx=>Nat.lt_of_lt_of_le (hO x hx) (qf).size) HD.out BP (oo.carry fun x hx=>⟨hx,(qf).block x (hO x hx)⟩) Em vO).mono ?_;rintro x w4 ⟨rfl,dF⟩))
      go_ret;exact⟨aj HG.out.symm,av qf dF⟩
     | false=>
      have HGK:Hid (fF ks=false):=qO;have HG:Hid (goodJ (d+1) (.mk 5 i t ks l)=false):=by
       show _=_
       rw[HB.out];unfold fF at qO;rw[qO,decide_eq_true HE.out]
       rfl
      clear qO;go_enter Tryz.func135,Tryz.ntmps135;go_wp2_with(first
       | (go_at_call 157;refine bb.mono ?_;rintro x w2 ⟨rfl,aY⟩;obtain⟨hv,dM⟩:=bk w2 aY;clear bk;obtain⟨c0,c1,c2,c3,c4⟩:=aU hv)
       | (go_at_call 160;refine(uy (oJ.carry fun x hx=>⟨hx,dM.block x (hO x hx)⟩) (fun x hx=>Nat.lt_of_lt_of_le (hO x hx) dM.size) eQ zef).mono ?_;rw[HGK.out];rintro x w3 ⟨rfl,df⟩;have YO:=(df.block w.heap.size (Array.getElem?_eq_some_iff.1 hv).1).trans hv;have qf:=av dM df;obtain⟨c03,kW,c23,c33,c43⟩:=aU YO))
      go_ret;exact⟨aj HG.out.symm,qf⟩
    ·have heI:((ks.length:Int)==(l.length:Int))=false:=by simp;omega
     have HG:Hid (goodJ (d+1) (.mk 5 i t ks l)=false):=by
      show _=_
      rw[HB.out,decide_eq_false he]
      rfl
     clear he;go_enter Tryz.func135,Tryz.ntmps135;go_wp2_with(first
      | (go_at_call 157;refine bb.mono ?_;rintro x w2 ⟨rfl,aY⟩;obtain⟨hv,dM⟩:=bk w2 aY;clear bk;obtain⟨c0,c1,c2,c3,c4⟩:=aU hv))
     go_ret;exact⟨aj HG.out.symm,dM⟩
   ·rw[if_neg k5]at HB;go_enter Tryz.func135,Tryz.ntmps135;go_wp2_with(first
     | (go_at_call 157;refine bb.mono ?_;rintro x w2 ⟨rfl,aY⟩;obtain⟨hv,dM⟩:=bk w2 aY;clear bk;obtain⟨c0,c1,c2,c3,c4⟩:=aU hv))
    go_ret;exact⟨aj HB.out.symm,dM⟩
theorem Xe:∀d,d<=12->E_ d
 | 0,_=>Jo
 | d+1,h=>Jp (Xe d (by omega)) h
def Elo(O:Nat->Prop)(B:Nat)(v:Value)(w:World):Nat->Prop:=fun k=>O k\/ (B<=k/\k<w.heap.size/\v.ownBlock≠some k)
structure AI(O:Nat->Prop)(B b:Nat)(WA:World)(nL:Array Value)(Es:List J)(vl:Value)(wr:World):Prop where
 box:wr.heap[b]?=some (.cells nL 25 (0,0))
 res:wr.heap[b+1]?=some (.cells #[.int .i64 0,.int .i64 0,.string ⟨#[]⟩,.slice none 0 0,.slice none 0 0] 25 (0,0))
 fq:∃xs,wr.ownsRow B 25 5 vl Es.length xs/\isRow (Elo O B vl wr) wr Es xs
 below:Below B WA wr
 szA:WA.heap.size=B
 lt:b+1<B
 low:∀k,O k->k<b
section
variable {O : Nat -> Prop} {B b : Nat} {WA W W4 W5 : World} {nL : Array Value} {Es : List J} {vl jd : Value} {o1 o2 : Obj} {y : J} {cs xs : List Value}
theorem AI.size(h:AI O B b WA nL Es vl W):B<=W.heap.size:=by have:=h.below.size;have:=h.szA;omega
theorem AI.more(h:AI O B b WA nL Es vl W)(hb:Below W.heap.size W W4):AI O B b WA nL Es vl W4:=by
 have hs:=h.size;have bQ:=h.lt;have Q3:=hb.size;obtain⟨xs,h1,h2⟩:=h.fq;have kp:ay (fun _=>False) W W4:=ay.bq hb;refine⟨(hb.block b (by omega)).trans h.box,(hb.block (b+1) (by omega)).trans h.res,⟨xs,bf h1 kp fun _ _ h=>h,h2.carry fun k hk=> ?_⟩,h.below.trans ⟨hb.os,hb.tape,hb.output,hb.size,fun k hk=>hb.block k (by omega)⟩,h.szA,bQ,h.low⟩
 rcases hk with hk| hk
 ·have:=h.low k hk;exact⟨.inl hk,hb.block k (by omega)⟩
 ·exact⟨.inr ⟨hk.1,by have:=hk.2.1;omega,hk.2.2⟩,hb.block k hk.2.1⟩
theorem AI.alloc(h:AI O B b WA nL Es vl W)(o:Obj):AI O B b WA nL Es vl (W.alloc o):=h.more ((Below.refl _ _).alloc (Nat.le_refl _) o)
theorem AI.push(h:AI O B b WA nL Es vl W)(h1:W.ownsRow B 25 5 vl Es.length xs)(h2:isRow (Elo O B vl W) W Es xs)(hy:isJ (Elo O B vl W) W y cs)
    (aN:W5.ownsRow B 25 5 jd (Es.length+1) (xs++cs)) (hg:W.grownBy W5 vl.ownBlock) (iR:jd.ownBlock=vl.ownBlock\/ jd.ownBlock=some W.heap.size):AI O B b WA nL (Es++ [y]) jd W5:=by
 have hs:=h.size;have bQ:=h.lt;have Q3:=hg.size;have qc:=aO h1;have low:∀k,k<B->W5.heap[k]?=W.heap[k]?:=fun k hk=>hg.block k (by omega) fun e=>by have:=(qc k e.symm).1;omega
 have carry:∀k,Elo O B vl W k->Elo O B jd W5 k/\W5.heap[k]?=W.heap[k]?:=by
  intro k hk
  rcases hk with hk| hk
  ·have:=h.low k hk;exact⟨.inl hk,low k (by omega)⟩
  ·refine⟨.inr ⟨hk.1,by have:=hk.2.1;omega,fun e=> ?_⟩,hg.block k hk.2.1 fun e=>hk.2.2 e.symm⟩
   rcases iR with h'| h'
   ·exact hk.2.2 (h' ▸ e)
   ·rw[h']at e;have:=Option.some.inj e;have:=hk.2.1;omega
 exact⟨(low b (by omega)).trans h.box,(low (b+1) (by omega)).trans h.res,⟨xs++cs,by rw[List.length_append];exact aN,isRow.snoc hy.AP (hy.carry carry) Es xs (h2.carry carry)⟩,h.below.trans ⟨hg.os,hg.tape,hg.output,hg.size,low⟩,h.szA,bQ,h.low⟩
theorem AI.new(h:AI O B b WA nL Es vl W)(hb:Below W.heap.size W W4)(hy:isJ (fun k=>O k\/ tN W W4 k) W4 y cs)(o:Obj):isJ (Elo O B vl (W4.alloc o)) (W4.alloc o) y cs:=by
 have hs:=h.size;have Q3:=hb.size;obtain⟨xs,h1,_⟩:=h.fq;refine hy.carry fun k hk=> ?_
 rcases hk with hk| hk
 ·have:=h.low k hk;have:=h.lt;exact⟨.inl hk,Below.heap_alloc _ _ _ (by omega)⟩
 ·have e1:=hk.1;have e2:=hk.2;exact⟨.inr ⟨by omega,by simp;omega,fun e=>by have:=(aO h1 k e).2;omega⟩,Below.heap_alloc _ _ _ e2⟩
end
theorem b_:∀l:List J,(ordL l).length=l.length
 | []=>by simp[ordL]
 | j::r=>by simp[ordL,b_ r]
theorem nM(j:J):∀l:List J,ordL (l++ [j])=ordL l++ [ord j]
 | []=>by simp[ordL]
 | i::r=>by simp[ordL,nM j r]
def U1(d:Nat):Prop:=∀(w:World) (O:Nat->Prop) (j:J) (k i:Int) (t:ByteArray) (pk pl:Option Addr) (nk ck nl cl:Nat),(∀x,O x->x<w.heap.size)->goodJ d j=true->szJ d j=true→
 isJ O w j [.int .i64 k,.int .i64 i,.string t,.slice pk nk ck,.slice pl nl cl]→
 Calls Tryz.prog 112 #[.agg #[.int .i64 k,.int .i64 i,.string t,.slice pk nk ck,.slice pl nl cl]] w fun x w'=>∃k i t pk nk ck pl nl cl,x=.returned (.agg #[.int .i64 k,.int .i64 i,.string t,.slice pk nk ck,.slice pl nl cl])∧
  isJ (fun x=>O x\/ tN w w' x) w' (ord j) [.int .i64 k,.int .i64 i,.string t,.slice pk nk ck,.slice pl nl cl]/\Below w.heap.size w w'
theorem Oq:U1 0:=by
 intro w O j k i t pk pl nk ck nl cl hO hg;unfold goodJ at hg
 cases hg
theorem iT{d:Nat}{k i:Int}{t:ByteArray}{ks:List ByteArray}{l:List J}(h:goodJ (d+1) (.mk k i t ks l)=true):l.all (goodJ d)=true/\(k=5->ks.length=l.length/\ks.Pairwise (· ≠ ·))/\(k≠5->ks= []):=by
 rw[goodJ,Bool.and_eq_true]at h;obtain⟨hb,h⟩:=h;unfold bare at hb;simp only[Bool.and_eq_true,Bool.or_eq_true,decide_eq_true_eq]at hb;obtain⟨⟨⟨_,_⟩,hk⟩,hl⟩:=hb;refine⟨?_,fun e=> ?_,fun e=> ?_⟩
 ·by_cases k4:k=4
  ·subst k4;simpa using h
  ·by_cases k5:k=5
   ·subst k5;simp at h;rw[List.all_eq_true];exact h.2
   ·have:l= []:=List.eq_nil_of_length_eq_zero (by omega);subst this;rfl
 ·subst e;rw[if_neg (by decide),if_neg (by decide),if_neg (by decide),if_neg (by decide),if_neg (by decide),if_pos rfl]at h;simp only[Bool.and_eq_true,decide_eq_true_eq]at h;exact⟨h.1.1,gM h.1.2.2⟩
 ·exact List.eq_nil_of_length_eq_zero (by omega)
theorem Q4{O:Nat->Prop}{w:World}(hO:∀x,O x->x<w.heap.size)(nL:Array Value):AI O (w.heap.size+2) w.heap.size ((w.alloc (.cells nL 25)).alloc zJ) nL [] (.slice none 0 0) ((w.alloc (.cells nL 25)).alloc zJ):=by
 refine⟨?_, ?_,⟨[],World.ownsRow_nil _ _ _ _,rfl⟩,Below.refl _ _,by simp,by omega,hO⟩
 ·rw[Below.heap_alloc _ _ _ (by simp)];exact heap_alloc_new _ _
 ·have:=heap_alloc_new (w.alloc (.cells nL 25)) zJ;rw[show(w.alloc (.cells nL 25)).heap.size=w.heap.size+1 by simp]at this;exact this
theorem Fa{O:Nat->Prop}{w wr:World}{nL:Array Value}{Es:List J}{vl:Value}(h:AI O (w.heap.size+2) w.heap.size ((w.alloc (.cells nL 25)).alloc zJ) nL Es vl wr):Below w.heap.size w wr:=by
 have h1:Below w.heap.size w ((w.alloc (.cells nL 25)).alloc zJ):=((Below.refl _ _).alloc (Nat.le_refl _) _).alloc (by simp) _;have h2:=h.below;exact h1.trans ⟨h2.os,h2.tape,h2.output,h2.size,fun k hk=>h2.block k (by omega)⟩
theorem BQ{w wr W5:World}(h:Below w.heap.size w wr)(eD:ay (One (w.heap.size+1)) wr W5):Below w.heap.size w W5:=
 h.trans (eD.below h.size fun k hk=>by unfold One;omega)
theorem MH{w wr W5:World}{O:Nat->Prop}{j:J}{cs:List Value}(eD:ay (One (w.heap.size+1)) wr W5)(hj:isJ (fun x=>O x\/ (w.heap.size+2<=x/\x<wr.heap.size)) wr j cs)(hO:∀x,O x->x<w.heap.size)(hs:w.heap.size+2<=wr.heap.size):isJ (fun x=>O x\/ tN w W5 x) W5 j cs:=by
 have Q3:=eD.size;refine hj.carry fun k hk=> ?_
 rcases hk with hk| hk
 ·have:=hO k hk;exact⟨.inl hk,eD.block k (by omega) (by unfold One;omega)⟩
 ·exact⟨.inr ⟨by have:=hk.1;omega,by have:=hk.2;omega⟩,eD.block k hk.2 (by unfold One;have:=hk.1;omega)⟩
theorem Ot{d:Nat}(V:U1 d):U1 (d+1):=by
 intro w O j k i t pk pl nk ck nl cl hO hg fK hj
 cases j with
 | mk k' i' t' ks l=>
  unfold isJ at hj;obtain⟨YH,U0,YI,A_,e,oJ,Em,oo⟩:=hj
  cases e
  unfold szJ at fK;simp only[Bool.and_eq_true,decide_eq_true_eq]at fK;obtain⟨ht,eQ,CZ,vO,BP⟩:=fK;obtain⟨Jq,jr,Jr⟩:=iT hg;have HG5:Hid (k=5->ks.length=l.length/\ks.Pairwise (· ≠ ·)):=jr;have HGN:Hid (k≠5->ks= []):=Jr;clear jr Jr hg CZ;obtain⟨n,hn⟩:∃n,l.length=n:=⟨_,rfl⟩;have HN:Hid (l.length=n):=hn;obtain⟨m,hm⟩:∃m,ks.length=m:=⟨_,rfl⟩;have HM:Hid (ks.length=m):=hm;rw[hn,hm];rw[hn]at vO Em;rw[hm]at eQ;have zeg:=Q4 hO #[.int .i64 k,.int .i64 i,.string t,.slice pk m ck,.slice pl n cl];clear hn hm;go_enter Tryz.func112,Tryz.ntmps112;go_wp2
  go_loopw [3,9] (fun vl iv wr=>∃q:Nat,iv=.int .i64 q/\q<=n/\AI O (w.heap.size+2) w.heap.size ((w.alloc (.cells #[.int .i64 k,.int .i64 i,.string t,.slice pk m ck,.slice pl n cl] 25)).alloc zJ) #[.int .i64 k,.int .i64 i,.string t,.slice pk m ck,.slice pl n cl] (ordL (l.take q)) vl wr) (fun _ iv _=>n - (intOf iv).toNat)
  case atStart=>exact⟨0,rfl,Nat.zero_le _,by rw[List.take_zero];exact zeg⟩
  case round=>
   clear zeg;obtain⟨q,rfl,hq,Ou⟩:=hrel;obtain⟨xs0,hE0,_⟩:=Ou.fq;obtain⟨sl1,sl2,sl3,rfl⟩:=qP hE0;clear hE0;obtain⟨c0,c1,c2,c3,c4⟩:=aU Ou.box;have dM:=Fa Ou
   by_cases hql:q<n
   ·have YP:q<l.length:=by rw[HN.out];exact hql
    have HQL:Hid (q<l.length):=YP;obtain⟨lb,lo,cs,tO,lY,bC,iL⟩:=isJs.at l 0 q oo YP;subst tO;obtain⟨kv,iv,tv,pv,nv,cv,qv,mv,dv,rfl⟩:=dw iL;have tK:=dM.block lb (hO lb lY);have cc:∀m v, [Value.int .i64 kv,.int .i64 iv,.string tv,.slice pv nv cv,.slice qv mv dv][m]?=some v->wr.cell? ⟨lb,lo+q*5+m,none⟩=some v:=fun m v h=>by
     have:=bC m v h;rw[Nat.zero_add]at this;exact(World.cell?_of_block (a:=⟨lb,lo+q*5+m,none⟩) tK).trans this
    have y0:wr.cell? ⟨lb,lo+q*5,none⟩=some (.int .i64 kv):=cc 0 _ rfl;have y1:=cc 1 _ rfl;have y2:=cc 2 _ rfl;have y3:=cc 3 _ rfl;have y4:=cc 4 _ rfl;clear cc bC YP;have hqc:(q:Int)<(n:Int):=by omega
    have YQ:=Ou.alloc (.cells #[.int .i64 kv,.int .i64 iv,.string tv,.slice pv nv cv,.slice qv mv dv] 25);have aL:=Fa YQ;have hV:=V (wr.alloc (.cells #[.int .i64 kv,.int .i64 iv,.string tv,.slice pv nv cv,.slice qv mv dv] 25)) O (l.getD q J.zero) kv iv tv pv qv nv cv mv dv (fun x hx=>Nat.lt_of_lt_of_le (hO x hx) aL.size) (oM Jq HQL.out) (oM BP HQL.out) (iL.carry fun x hx=>⟨hx,aL.block x (hO x hx)⟩);go_wp2_with(first
     | (go_at_call 112;refine hV.mono ?_;rintro x w4 ⟨kr,ir,tr,pr,nr,cr,qr,mr,dr,rfl,Ht,dF⟩
        have hy:=YQ.new dF Ht (.cells #[.int .i64 kr,.int .i64 ir,.string tr,.slice pr nr cr,.slice qr mr dr] 25);have YR:=(YQ.more dF).alloc (.cells #[.int .i64 kr,.int .i64 ir,.string tr,.slice pr nr cr,.slice qr mr dr] 25);obtain⟨xs,bV,eZ⟩:=YR.fq)
     | (at_builtin;refine IE rfl _ _ 23 rfl (w.heap.size+2) 25 (.agg #[.int .i64 0,.int .i64 0,.string ⟨#[]⟩,.slice none 0 0,.slice none 0 0]) 5 80 Tryz.underlying23 Tryz.eT rfl (by decide) (by decide) (.slice sl1 sl2 sl3) (ordL (l.take q)).length xs rfl bV _ [.int .i64 kr,.int .i64 ir,.string tr,.slice pr nr cr,.slice qr mr dr] rfl rfl (NU rfl) zgs (by rw[b_,List.length_take];omega) YR.size ?_
        intro pV W5 cz jr jF;obtain⟨q5,n5,c5,hE5⟩:=qP cz;subst hE5;have zgB:=YR.push bV eZ hy cz jr jF;clear cz jr jF))
    go_roundw
    case rel=>exact⟨q+1,by go_num,hql,by rw[iE HQL.out,nM];exact zgB⟩
    case measure=>simp[intOf];omega
   ·obtain rfl:q=n:=by omega
    have bQ:l.take q=l:=List.take_of_length_le (by rw[HN.out];omega);rw[bQ]at Ou;clear bQ;obtain⟨xs,bV,eZ⟩:=Ou.fq;obtain⟨q2,Np,xq,nI,QD⟩:=sH bV eZ;have zeh:isJs (fun x=>O x\/ (w.heap.size+2<=x/\x<wr.heap.size)) wr q2 0 (ordL l):=QD.carry fun x hx=>⟨by
     rcases hx with(hx| hx)| hx
     ·exact .inl hx
     ·exact .inr ⟨hx.1,hx.2.1⟩
     ·exact .inr hx,rfl⟩
    have BK:Hid (isJs (fun x=>O x\/ (w.heap.size+2<=x/\x<wr.heap.size)) wr q2 0 (ordL l)):=zeh;have zt:Hid ((ordL l).length<=Np):=nI;have TY:Hid ((ordL l).length=q):=(b_ l).trans HN.out;rw[TY.out]at xq
    cases xq
    have zei:jP (fun x=>O x\/ (w.heap.size+2<=x/\x<wr.heap.size)) wr pk ck ks:=oJ.carry fun x hx=>⟨.inl hx,dM.block x (hO x hx)⟩;have Yv:Hid (jP (fun x=>O x\/ (w.heap.size+2<=x/\x<wr.heap.size)) wr pk ck ks):=zei;have Fb:∀x,(O x\/ (w.heap.size+2<=x/\x<wr.heap.size))->x<wr.heap.size:=fun x hx=>by
     rcases hx with hx| hx
     ·have:=hO x hx;have:=dM.size;omega
     ·exact hx.2
    obtain⟨i0,i1,i2,i3,i4⟩:=aU Ou.res;obtain⟨z0,z1,z2,z3,z4⟩:=fZ Ou.res;have YS:=Ou.size;clear QD zeh zei nI bV eZ oJ oo
    by_cases k5:k=5
    ·subst k5;obtain⟨mW,Fe⟩:=HG5.out rfl;have hmo:=NR (cl:=sl3) Yv.out BK.out (by rw[TY.out,<-HN.out];exact mW) Fb (by rw[HM.out];exact eQ) Fe;rw[HM.out,TY.out]at hmo;clear mW Fe;go_wp2_with(first
     | (go_at_call 142;refine hmo.mono ?_;rintro x w8 ⟨csr,rfl,Ht,uC⟩
        obtain⟨kr,ir,tr,pr,nr,cr,qr,mr,dr,Io⟩:=dw Ht;obtain rfl:csr=#[.int .i64 kr,.int .i64 ir,.string tr,.slice pr nr cr,.slice qr mr dr]:=by rw[<-Array.toList_inj];exact Io
        have Q5:=(uC.block _ (Array.getElem?_eq_some_iff.1 Ou.res).1).trans Ou.res;obtain⟨j0,j1,j2,j3,j4⟩:=aU Q5;obtain⟨x0,x1,x2,x3,x4⟩:=fZ Q5))
     have h5:=dS Q5 (.int .i64 kr) (.int .i64 ir) (.string tr) (.slice pr nr cr) (.slice qr mr dr);have eD:ay (One (w.heap.size+1)) w8 _:=dU w8 (w.heap.size+1) (.int .i64 kr) (.int .i64 ir) (.string tr) (.slice pr nr cr) (.slice qr mr dr);unfold lN at h5 eD;obtain⟨k0,k1,k2,k3,k4⟩:=aU h5;refine bodyPost_ret (v:=.agg #[.int .i64 kr,.int .i64 ir,.string tr,.slice pr nr cr,.slice qr mr dr]) (by simp[results,Tryz.results112,go_sem,k0,k1,k2,k3,k4]) rfl ?_;have gU:=BQ (av dM uC) eD;refine⟨_,_,_,_,_,_,_,_,_,rfl, ?_,gU⟩;have e:ord (.mk 5 i t ks l)=mapOf ks (ordL l):=by rw[ord,if_pos rfl]
     rw[e];exact MH eD (Ht.carry fun x hx=>⟨by
      rcases hx with(hx| hx)| hx
      ·exact .inl hx
      ·exact .inr ⟨hx.1,by have:=uC.size;have:=hx.2;omega⟩
      ·exact .inr ⟨by have:=hx.1;omega,hx.2⟩,rfl⟩) (fun x hx=>hO x hx) (by have:=uC.size;omega)
    ·have HE:Hid (ord (.mk k i t ks l)=.mk k i t [] (ordL l)):=by show _=_;rw[ord,if_neg k5]
     go_wp2;have h5:=dS Ou.res (.int .i64 k) (.int .i64 i) (.string t) (.slice none 0 0) (.slice sl1 q sl3);have eD:ay (One (w.heap.size+1)) wr _:=dU wr (w.heap.size+1) (.int .i64 k) (.int .i64 i) (.string t) (.slice none 0 0) (.slice sl1 q sl3);unfold lN at h5 eD;obtain⟨k0,k1,k2,k3,k4⟩:=aU h5;refine bodyPost_ret (v:=.agg #[.int .i64 k,.int .i64 i,.string t,.slice none 0 0,.slice sl1 q sl3]) (by simp[results,Tryz.results112,go_sem,k0,k1,k2,k3,k4]) rfl ?_;have gU:=BQ dM eD;refine⟨_,_,_,_,_,_,_,_,_,rfl, ?_,gU⟩;rw[HE.out];refine MH eD (cs:=_) ?_ (fun x hx=>hO x hx) YS;unfold isJ;exact⟨none,0,sl1,sl3,by rw[TY.out];rfl,jP.nil _ _,zt.out,BK.out⟩
theorem U2:∀d,U1 d
 | 0=>Oq
 | d+1=>Ot (U2 d)
theorem qU{w w2:World}{cs:Array Value}{t:TypeId}(h:Below (w.alloc (.cells cs t)).heap.size (w.alloc (.cells cs t)) w2):w2.heap[w.heap.size]?=some (.cells cs t (0,0))/\Below w.heap.size w w2:=
 ⟨by rw[h.block w.heap.size (by simp)];exact heap_alloc_new _ _,av ((Below.refl _ _).alloc (Nat.le_refl _) _) h⟩
theorem zu{w:World}{O:Nat->Prop}{j:J}{k i:Int}{t:ByteArray}{pk pl:Option Addr}{nk ck nl cl:Nat}(hO:∀x,O x->x<w.heap.size)(fK:szJ 12 j=true)
    (hj:isJ O w j [.int .i64 k,.int .i64 i,.string t,.slice pk nk ck,.slice pl nl cl]):
    Calls Tryz.prog 110 #[.agg #[.int .i64 k,.int .i64 i,.string t,.slice pk nk ck,.slice pl nl cl]] w fun x w'=>x=.returned (.bool (goodJ 12 j))/\Below w.heap.size w w':=by
 have hG:=Xe 12 (Nat.le_refl _) (w.alloc (.cells #[.int .i64 k,.int .i64 i,.string t,.slice pk nk ck,.slice pl nl cl] 25)) O j k i 1 t pk pl nk ck nl cl (fun x hx=>by have:=hO x hx;simp;omega) rfl fK
  (hj.carry fun x hx=>⟨hx,Below.heap_alloc _ _ _ (hO x hx)⟩)
 go_enter Tryz.func110,Tryz.ntmps110;go_wp2_with(go_at_call 135;refine hG.mono ?_;rintro x w2 ⟨rfl,aY⟩);go_ret;exact⟨rfl,(qU aY).2⟩
def MJ(w w':World)(j:J)(x:Ending):Prop:=
 (goodJ 12 j=false->x=.returned (.tuple #[.slice none 0 0,.int .i64 1]))∧
 (goodJ 12 j=true->16384<(lK (ord j)).length->x=.returned (.tuple #[.slice none 0 0,.int .i64 13]))∧
 (goodJ 12 j=true->(lK (ord j)).length<=16384->∃v,x=.returned (.tuple #[v,.int .i64 0])/\w'.ownsRow w.heap.size 5 1 v (lK (ord j)).length ((lK (ord j)).map (Value.int .u8)))/\Below w.heap.size w w'
theorem BR{w:World}{B B' e size n:Nat}{v:Value}{xs:List Value}(h:w.ownsRow B e size v n xs)(hB:B'<=B):w.ownsRow B' e size v n xs:=by
 refine⟨h.1, ?_⟩
 rcases h.2 with hn| ⟨g,cap,cur,rfl,hg,rest⟩
 ·exact .inl hn
 ·exact .inr ⟨g,cap,cur,rfl,by omega,rest⟩
theorem Js{w:World}{O:Nat->Prop}{j:J}{k i:Int}{t:ByteArray}{pk pl:Option Addr}{nk ck nl cl:Nat}(hO:∀x,O x->x<w.heap.size)(fK:szJ 12 j=true)(hT:P8 w.heap.size w)(Nv:goodJ 12 j=true->sJ 12 (ord j)=true)
    (hj:isJ O w j [.int .i64 k,.int .i64 i,.string t,.slice pk nk ck,.slice pl nl cl]):
    Calls Tryz.prog 78 #[.agg #[.int .i64 k,.int .i64 i,.string t,.slice pk nk ck,.slice pl nl cl]] w fun x w'=>MJ w w' j x:=by
 have hG:=zu (w:=w.alloc (.cells #[.int .i64 k,.int .i64 i,.string t,.slice pk nk ck,.slice pl nl cl] 25)) (O:=O) (fun x hx=>by have:=hO x hx;simp;omega) fK (hj.carry fun x hx=>⟨hx,Below.heap_alloc _ _ _ (hO x hx)⟩)
 cases hg:goodJ 12 j with
 | false=>
  rw[hg]at hG;go_enter Tryz.func78,Tryz.ntmps78;go_wp2_with(go_at_call 110;refine hG.mono ?_;rintro x w2 ⟨rfl,aY⟩);go_ret2;refine⟨fun _=>rfl,fun h=> ?_,fun h=> ?_,(qU aY).2⟩
  ·rw[hg]at h;cases h
  ·rw[hg]at h;cases h
 | true=>
  have HF:Hid (sJ 12 (ord j)=true):=Nv hg;have Xf:Hid (goodJ 12 j=true):=hg;rw[hg]at hG;clear Nv hg
  by_cases nJ:16384<(lK (ord j)).length
  ·have Jt:Hid (16384<(lK (ord j)).length):=nJ;clear nJ;go_enter Tryz.func78,Tryz.ntmps78;go_wp2_with(first
    | (go_at_call 110;refine hG.mono ?_;rintro x w2 ⟨rfl,aY⟩
       obtain⟨hv,dM⟩:=qU aY;have YT:Below w.heap.size w (w2.alloc (.cells #[.slice none 0 0] 127)):=dM.alloc dM.size _;have YO:(w2.alloc (.cells #[.slice none 0 0] 127)).heap[w.heap.size]?=some (.cells #[.int .i64 k,.int .i64 i,.string t,.slice pk nk ck,.slice pl nl cl] 25 (0,0)):=by
        rw[Below.heap_alloc _ _ _ (Array.getElem?_eq_some_iff.1 hv).1];exact hv
       obtain⟨c0,c1,c2,c3,c4⟩:=aU YO;have hA:=U2 12 (w2.alloc (.cells #[.slice none 0 0] 127)) O j k i t pk pl nk ck nl cl (fun x hx=>Nat.lt_of_lt_of_le (hO x hx) YT.size) Xf.out fK (hj.carry fun x hx=>⟨hx,YT.block x (hO x hx)⟩))
    | (go_at_call 112;refine hA.mono ?_;rintro x w4 ⟨kr,ir,tr,pr,nr,cr,qr,mr,dr,rfl,Ht,dF⟩
       have En:w4.heap[w2.heap.size]?=some (.cells #[.slice none 0 0] 127 (0,0)):=by rw[dF.block _ (by simp)];exact heap_alloc_new _ _
       have gI:=av YT dF;have TZ:=dF.size;have II:AB w4 w4.heap.size w2.heap.size []:=⟨⟨_,En,World.ownsRow_nil _ _ _ _⟩,by simp at TZ;omega,Nat.le_refl _⟩;have hT4:P8 w2.heap.size w4:=fun w' h'=>hT w' (gI.trans ⟨h'.os,h'.tape,h'.output,h'.size,fun x hx=>h'.block x (by have:=dM.size;omega)⟩);have hW:=writes 12 w4 w4.heap.size w2.heap.size [] (fun x=>O x\/ tN (w2.alloc (.cells #[.slice none 0 0] 127)) w4 x) (ord j) kr ir tr pr qr nr cr mr dr II (by simp) (fun x hx=>by
        rcases hx with hx| hx
        ·have:=hO x hx;have:=dM.size;have:=gI.size;exact⟨by simp at TZ;omega,by omega⟩
        ·have e1:=hx.1;have e2:=hx.2;simp at e1;exact⟨e2,by omega⟩) hT4 HF.out Ht)
    | (go_at_call 111;refine hW.mono ?_;rintro x w5 ⟨rfl,⟨out,CX,hol,zn⟩,UX⟩
       have hlg:=zk zn;have iJ:=UX.below (K:=w2.heap.size) (by simp at TZ;omega) (by simp at TZ;omega);have kF:Below w.heap.size w w5:=gI.trans ⟨iJ.os,iJ.tape,iJ.output,iJ.size,fun x hx=>iJ.block x (by have:=dM.size;omega)⟩;have YU:16384<out.length:=by
        have U3:=Jt.out
        rcases CX with⟨h1,_⟩| ⟨_,h2⟩
        ·rw[List.nil_append]at h1;omega
        ·exact h2
       rw[decide_eq_true YU]at hlg)
    | (go_at_call 113;refine hlg.mono ?_;rintro x w' ⟨rfl,rfl⟩))
   go_ret2;refine⟨fun h=> ?_,fun _ _=>rfl,fun _ h=> ?_,kF⟩
   ·rw[Xf.out]at h;cases h
   ·have:=Jt.out;omega
  ·have Jt:Hid ((lK (ord j)).length<=16384):=by show _<=_;omega
   clear nJ;go_enter Tryz.func78,Tryz.ntmps78;go_wp2_with(first
    | (go_at_call 110;refine hG.mono ?_;rintro x w2 ⟨rfl,aY⟩
       obtain⟨hv,dM⟩:=qU aY;have YT:Below w.heap.size w (w2.alloc (.cells #[.slice none 0 0] 127)):=dM.alloc dM.size _;have YO:(w2.alloc (.cells #[.slice none 0 0] 127)).heap[w.heap.size]?=some (.cells #[.int .i64 k,.int .i64 i,.string t,.slice pk nk ck,.slice pl nl cl] 25 (0,0)):=by
        rw[Below.heap_alloc _ _ _ (Array.getElem?_eq_some_iff.1 hv).1];exact hv
       obtain⟨c0,c1,c2,c3,c4⟩:=aU YO;have hA:=U2 12 (w2.alloc (.cells #[.slice none 0 0] 127)) O j k i t pk pl nk ck nl cl (fun x hx=>Nat.lt_of_lt_of_le (hO x hx) YT.size) Xf.out fK (hj.carry fun x hx=>⟨hx,YT.block x (hO x hx)⟩))
    | (go_at_call 112;refine hA.mono ?_;rintro x w4 ⟨kr,ir,tr,pr,nr,cr,qr,mr,dr,rfl,Ht,dF⟩
       have En:w4.heap[w2.heap.size]?=some (.cells #[.slice none 0 0] 127 (0,0)):=by rw[dF.block _ (by simp)];exact heap_alloc_new _ _
       have gI:=av YT dF;have TZ:=dF.size;have II:AB w4 w4.heap.size w2.heap.size []:=⟨⟨_,En,World.ownsRow_nil _ _ _ _⟩,by simp at TZ;omega,Nat.le_refl _⟩;have hT4:P8 w2.heap.size w4:=fun w' h'=>hT w' (gI.trans ⟨h'.os,h'.tape,h'.output,h'.size,fun x hx=>h'.block x (by have:=dM.size;omega)⟩);have hW:=writes 12 w4 w4.heap.size w2.heap.size [] (fun x=>O x\/ tN (w2.alloc (.cells #[.slice none 0 0] 127)) w4 x) (ord j) kr ir tr pr qr nr cr mr dr II (by simp) (fun x hx=>by
        rcases hx with hx| hx
        ·have:=hO x hx;have:=dM.size;have:=gI.size;exact⟨by simp at TZ;omega,by omega⟩
        ·have e1:=hx.1;have e2:=hx.2;simp at e1;exact⟨e2,by omega⟩) hT4 HF.out Ht)
    | (go_at_call 111;refine hW.mono ?_;rintro x w5 ⟨rfl,⟨out,CX,hol,zn⟩,UX⟩
       have hlg:=zk zn;have iJ:=UX.below (K:=w2.heap.size) (by simp at TZ;omega) (by simp at TZ;omega);have kF:Below w.heap.size w w5:=gI.trans ⟨iJ.os,iJ.tape,iJ.output,iJ.size,fun x hx=>iJ.block x (by have:=dM.size;omega)⟩;have YV:out=lK (ord j):=by
        have U3:=Jt.out
        rcases CX with⟨_,h2⟩| ⟨h1,_⟩
        ·rw[List.nil_append]at h2;exact h2
        ·rw[List.nil_append]at h1;omega
       have zgC:Hid (out=lK (ord j)):=YV;have YU:¬16384<out.length:=by rw[YV];have:=Jt.out;omega
       clear YV;rw[decide_eq_false YU]at hlg;obtain⟨v5,h51,h52⟩:=zn.row;have d0:=CW h51;obtain⟨q5,n5,c5,hE5⟩:=qP h52;subst hE5)
    | (go_at_call 113;refine hlg.mono ?_;rintro x w' ⟨rfl,rfl⟩))
   go_ret2;refine⟨fun h=> ?_,fun _ h=> ?_,fun _ _=>⟨_,rfl, ?_⟩,kF⟩
   ·rw[Xf.out]at h;cases h
   ·have:=Jt.out;omega
   ·rw[zgC.out]at h52;exact BR h52 (by have:=gI.size;omega)
theorem uD{x:J}:∀{l:List J},x∈ordL l->∃y∈l,x=ord y
 | [],h=>by simp[ordL]at h
 | j::r,h=>by
  rw[ordL]at h
  rcases List.mem_cons.1 h with rfl| h
  ·exact⟨j,List.mem_cons_self ..,rfl⟩
  ·obtain⟨y,hy,e⟩:=uD h;exact⟨y,List.mem_cons_of_mem _ hy,e⟩
section
variable {ks : List ByteArray} {l : List J}
theorem xy(hl:ks.length=l.length):((fQ (ks.zip l)).map (·.1)).Perm ks:=by
 have:=(jX (ks.zip l)).map (·.1);rw[List.map_fst_zip (by omega)]at this;exact this
theorem mH(hl:ks.length=l.length):((fQ (ks.zip l)).map (·.2)).Perm l:=by
 have:=(jX (ks.zip l)).map (·.2);rw[List.map_snd_zip (by omega)]at this;exact this
end
theorem zw:∀(d:Nat) (j:J),goodJ d j=true->goodJ d (ord j)=true
 | 0,j,h=>by unfold goodJ at h;cases h
 | d+1,.mk k i t ks l,h=>by
  obtain⟨Jq,jr,Jr⟩:=iT h;have fo:∀x∈ordL l,goodJ d x=true:=fun x hx=>by
   obtain⟨y,hy,rfl⟩:=uD hx;exact zw d y (List.all_eq_true.1 Jq y hy)
  rw[ord]
  by_cases k5:k=5
  ·subst k5;rw[if_pos rfl];obtain⟨fw,hp⟩:=jr rfl;have BS:ks.length=(ordL l).length:=by rw[b_];exact fw
   have pk:=xy BS;have pv:=mH BS;have oN:ks.all letters=true:=by
    rw[goodJ,Bool.and_eq_true]at h;have h2:=h.2;rw[if_neg (by decide),if_neg (by decide),if_neg (by decide),if_neg (by decide),if_neg (by decide),if_pos rfl]at h2;simp only[Bool.and_eq_true]at h2;exact h2.1.2.1
   unfold mapOf;rw[goodJ];have e1:((fQ (ks.zip (ordL l))).map (·.1)).all letters=true:=by
    rw[List.all_eq_true]at oN ⊢;exact fun x hx=>oN x (pk.mem_iff.1 hx)
   have e2:noKeyTwice ((fQ (ks.zip (ordL l))).map (·.1))=true:=fE (pk.symm.pairwise hp fun{_ _} h=>h.symm);have e3:((fQ (ks.zip (ordL l))).map (·.2)).all (goodJ d)=true:=by
    rw[List.all_eq_true];exact fun x hx=>fo x (pv.mem_iff.1 hx)
   rw[e1,e2,e3];simp[bare,aT,ByteArray.size]
  ·rw[if_neg k5];have sG:=Jr k5;subst sG;rw[goodJ,Bool.and_eq_true]at h ⊢;have QG:(ordL l).all (goodJ d)=true:=List.all_eq_true.2 fo;refine⟨by have:=h.1;rw[C7]at this ⊢;rw[b_];exact this, ?_⟩;have h2:=h.2;rw[QG];rw[Jq]at h2;rw[if_neg k5]at h2 ⊢;exact h2
theorem Ff:∀(d:Nat) (j:J),goodJ d j=true->szJ d j=true->wideJ d (ord j)=true
 | 0,j,_,_=>by unfold wideJ;rfl
 | d+1,.mk k i t ks l,hg,h=>by
  obtain⟨Jq,jr,_⟩:=iT hg;unfold szJ at h;simp only[Bool.and_eq_true,decide_eq_true_eq]at h;obtain⟨_,_,_,vO,BP⟩:=h;have fo:∀x∈ordL l,wideJ d x=true:=fun x hx=>by
   obtain⟨y,hy,rfl⟩:=uD hx;exact Ff d y (List.all_eq_true.1 Jq y hy) (List.all_eq_true.1 BP y hy)
  rw[ord]
  by_cases k5:k=5
  ·subst k5;rw[if_pos rfl];obtain⟨fw,_⟩:=jr rfl;have BS:ks.length=(ordL l).length:=by rw[b_];exact fw
   have pv:=mH BS;unfold mapOf wideJ;rw[Bool.and_eq_true];refine⟨decide_eq_true ?_,List.all_eq_true.2 fun x hx=>fo x (pv.mem_iff.1 hx)⟩;rw[pv.length_eq,b_];exact vO
  ·rw[if_neg k5];unfold wideJ;rw[Bool.and_eq_true];exact⟨decide_eq_true (by rw[b_];exact vO),List.all_eq_true.2 fo⟩
theorem U4{d:Nat}{j:J}(hg:goodJ d j=true)(hs:szJ d j=true):sJ d (ord j)=true:=by
 unfold sJ;rw[zw d j hg,Ff d j hg hs];rfl
theorem oO:∀l:List J,inOrdL l=true↔∀x∈l,inOrd x=true
 | []=>by simp[inOrdL]
 | j::r=>by
  rw[inOrdL,Bool.and_eq_true,oO r];simp
theorem BU:∀(d:Nat) (j:J),goodJ d j=true->inOrd (ord j)=true
 | 0,j,h=>by unfold goodJ at h;cases h
 | d+1,.mk k i t ks l,h=>by
  obtain⟨Jq,jr,Jr⟩:=iT h;have fo:∀x∈ordL l,inOrd x=true:=fun x hx=>by
   obtain⟨y,hy,rfl⟩:=uD hx;exact BU d y (List.all_eq_true.1 Jq y hy)
  rw[ord]
  by_cases k5:k=5
  ·subst k5;rw[if_pos rfl];obtain⟨fw,hp⟩:=jr rfl;have BS:ks.length=(ordL l).length:=by rw[b_];exact fw
   have pv:=mH BS;unfold mapOf;rw[inOrd,Bool.and_eq_true,oO];refine⟨ll _ ?_,fun x hx=>fo x (pv.mem_iff.1 hx)⟩;have:((ks.zip (ordL l)).map (·.1)).Pairwise (· ≠ ·):=by rw[List.map_fst_zip (by omega)];exact hp
   exact List.pairwise_map.1 this
  ·rw[if_neg k5];rw[inOrd,Bool.and_eq_true,oO];exact⟨rfl,fo⟩
def Fair(t:List Int)(p:Nat):Prop:=∀m,strayL t m p=none
theorem Fair.end{t:List Int}{p:Nat}(h:t.length<=p):Fair t p:=fun m=>by
 cases m with
 | zero=>rfl
 | succ m=>unfold strayL;rw[if_neg (by omega)]
theorem Fair.step{t:List Int}{p wd:Nat}{c:Int}(hr:bN t p=(c,wd))(h0:wd≠0)(h:Fair t (p+wd)):Fair t p:=fun m=>by
 cases m with
 | zero=>rfl
 | succ m=>
  unfold strayL
  split
  ·rw[hr,if_neg h0];exact h m
  ·rfl
theorem Fair.MK{t:List Int}:∀(l r:List Int) (p:Nat),(∀c∈l,0<=c/\c<128)->t.drop p=l++r->Fair t (p+l.length)->Fair t p
 | [],_,p,_,_,h=>by simpa using h
 | a::l,r,p,hl,hd,h=>by
  have ha:=hl a (List.mem_cons_self ..);have hb:aB t p=a:=NP (by simpa using hd);have hr:bN t p=(a,1):=by unfold bN;rw[hb,if_pos ha.2]
  refine Fair.step hr (by decide) (Fair.MK l r (p+1) (fun c hc=>hl c (List.mem_cons_of_mem _ hc)) (drop_tail (by simpa using hd)) ?_);rw[show p+1+l.length=p+(a::l).length by simp;omega];exact h
def Pure(l:List Int):Prop:=∀(t r:List Int) (q:Nat),t.drop q=l++r->Fair t (q+l.length)->Fair t q
theorem Pure.MK{l:List Int}(h:∀c∈l,0<=c/\c<128):Pure l:=fun _ r q hd hf=>Fair.MK l r q h hd hf
theorem xz:letters aT=true:=by decide
end Go.Proofs.YtldegjjaknelgaaGreatDoor

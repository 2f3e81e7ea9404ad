/- A part. -/
import Derived.Test.YtldegjjaknelgaaGreatDoorAJ17
set_option maxRecDepth 100000
set_option maxHeartbeats 64000000
namespace Go.Proofs.YtldegjjaknelgaaGreatDoor
open Go.RowKit
theorem Sd{ks:List ByteArray}(h1:∀m,m<ks.length->letters (aF ks m)=true)(h2:∀b,b<ks.length->∀a,a<b->aF ks a≠aF ks b):fF ks=true:=by
 unfold fF;rw[Bool.and_eq_true]
 constructor
 ·rw[List.all_eq_true];intro x hx;obtain⟨n,hn,rfl⟩:=List.getElem_of_mem hx;rw[<-dV hn];exact h1 n hn
 ·apply fE
  rw[List.pairwise_iff_getElem];intro a b ha hb jQ;rw[<-dV ha,<-dV hb];exact h2 b hb a jQ
theorem Km{ks:List ByteArray}{m:Nat}(hm:m<ks.length)(h:letters (aF ks m)=false):fF ks=false:=by
 cases hg:fF ks with
 | false=>rfl
 | true=>
  unfold fF at hg;rw[Bool.and_eq_true,List.all_eq_true]at hg;rw[dV hm,hg.1 _ (List.getElem_mem hm)]at h
  cases h
theorem Ko{ks:List ByteArray}{a b:Nat}(hb:b<ks.length)(jQ:a<b)(h:aF ks b=aF ks a):fF ks=false:=by
 cases hg:fF ks with
 | false=>rfl
 | true=>
  unfold fF at hg;rw[Bool.and_eq_true]at hg;have hp:=List.pairwise_iff_getElem.1 (gM hg.2) a b (by omega) hb jQ;rw[<-dV (by omega),<-dV hb]at hp;exact absurd h.symm hp
theorem gZ{s:ByteArray}:(letters s=true->BV (iO (ints s))= -1)/\(letters s=false->∃p:Nat,BV (iO (ints s))=p):=by
 unfold letters
 cases iO (ints s)with
 | none=>exact⟨fun _=>rfl,fun h=>(by cases h)⟩
 | some p=>exact⟨fun h=>(by cases h),fun _=>⟨p,rfl⟩⟩
theorem Pq{O:Nat->Prop}{ks:List ByteArray}{p:Option Addr}{c:Nat}{w:World}(iK:jP O w p c ks)(hO:∀k,O k->k<w.heap.size)(hl:ks.length<=100000)(CZ:∀k∈ks,k.size<=1000000000):
    Calls Tryz.prog 128 #[.slice p ks.length c] w fun x w'=>x=.returned (.bool (fF ks))/\Below w.heap.size w w':=by
 obtain⟨n,hn⟩:∃n,ks.length=n:=⟨_,rfl⟩;have HN:Hid (ks.length=n):=hn;have Oo:=iK.1;rw[hn]at hl Oo ⊢;clear hn;go_enter Tryz.func128,Tryz.ntmps128;go_wp2
 go_loopw [3] (fun v wr=>∃m:Nat,v=.int .i64 m/\m<=n/\Hid ((∀x,x<m->letters (aF ks x)=true)/\∀b,b<m->∀a,a<b->aF ks a≠aF ks b)/\Below w.heap.size w wr) (fun v _=>n - (intOf v).toNat)
 case atStart=>exact⟨0,rfl,Nat.zero_le _,⟨fun x hx=>absurd hx (by omega),fun x hx=>absurd hx (by omega)⟩,Below.refl _ _⟩
 case round=>
  obtain⟨m,rfl,hm,HI,ed⟩:=hrel
  by_cases Eo:m<n
  ·have pK:(m:Int)<(n:Int):=by omega
   have P5:m<ks.length:=by rw[HN.out];exact Eo
   have HMK:Hid (m<ks.length):=P5;obtain⟨ka,YE,qR,Sg⟩:=iK.2 m P5;subst YE;have hKA:wr.cell? (ka.add m)=some (.string (aF ks m)):=(World.cell?_of_block (by rw[bK];exact ed.block _ (hO _ qR))).trans Sg;have Fx:Hid (∀x,x<n->∀W:World,Below w.heap.size w W->W.cell? (ka.add x)=some (.string (aF ks x))):=fun x hx W hW=>by
    obtain⟨a',WR,QT,hc'⟩:=iK.2 x (by rw[HN.out];exact hx)
    cases WR
    exact(World.cell?_of_block (by rw[bK];exact hW.block _ (hO _ QT))).trans hc'
   have hz:(aF ks m).size<=1000000000:=by rw[dV P5];exact CZ _ (List.getElem_mem P5)
   have hB:=C8 Sc (aF ks m) wr hz;obtain⟨u,hu⟩:∃u,aF ks m=u:=⟨_,rfl⟩;have HU:Hid (aF ks m=u):=hu;rw[hu]at hKA hB;clear hu Sg P5 hz
   cases hlu:letters u with
   | false=>
    obtain⟨bp,hbp⟩:=gZ.2 hlu;rw[hbp]at hB;have HR:Hid (fF ks=false):=Km HMK.out (by rw[HU.out];exact hlu);go_wp2_with(go_at_call 36;refine hB.mono ?_;rintro x w' ⟨rfl,rfl⟩);go_ret;exact⟨aj HR.out.symm,ed⟩
   | true=>
    rw[gZ.1 hlu]at hB;have HLU:Hid (letters u=true):=hlu;clear hlu;go_wp2_with(go_at_call 36;refine hB.mono ?_;rintro x w' ⟨rfl,rfl⟩);clear hB hKA
    go_loopw [4] (fun v w2=>∃a:Nat,v=.int .i64 a/\a<=m/\Hid (∀x,x<a->aF ks x≠u)/\Below w.heap.size w w2) (fun v _=>m - (intOf v).toNat)
    case atStart=>exact⟨0,rfl,Nat.zero_le _,fun x hx=>absurd hx (by omega),ed⟩
    case round=>
     obtain⟨a,rfl,ha,HD,aY⟩:=hrel
     by_cases ham:a<m
     ·have Ou:(a:Int)<(m:Int):=by omega
      have han:(a:Int)<(n:Int):=by omega
      obtain⟨v,hv⟩:∃v,aF ks a=v:=⟨_,rfl⟩;have HV:Hid (aF ks a=v):=hv;clear hv;have gP:Below w.heap.size w wr.drew:=⟨aY.os,aY.tape,aY.output,aY.size,aY.block⟩
      by_cases XB:u=v
      ·have heq:(u.toList==v.toList)=true:=by rw[XB];simp
       have HR:Hid (fF ks=false):=Ko (a:=a) HMK.out ham (by rw[HU.out,HV.out,XB]);go_wp2;refine aI (by kernel_rfl) (fun W=>Below w.heap.size w W) ?_;change wpIn _ _ _ _ _ _ _ _ (World.drew _);refine aa (i:=0) (d:=some 22) rfl ?_;refine aa (i:=1) (d:=some 23) rfl ?_;refine aa (i:=2) (d:=some 24) rfl ?_;refine aC (i:=3) (d:=some 25) rfl (by(intro wq hq;have q0:=Fx.out m Eo wq hq;rw[HU.out]at q0;go_simp;first| done| with_reducible rfl)) ?_;refine aa (i:=4) (d:=some 26) rfl ?_;refine aa (i:=5) (d:=some 27) rfl ?_;refine aa (i:=6) (d:=some 28) rfl ?_;refine aC (i:=7) (d:=some 29) rfl (by(intro wq hq;have q0:=Fx.out a (by omega) wq hq;rw[HV.out]at q0;go_simp;first| done| with_reducible rfl)) ?_;refine aa (i:=8) (d:=some 30) rfl ?_;refine aH gP (by kernel_rfl) ?_ _;go_wp2;go_ret;exact⟨aj HR.out.symm,gP⟩
      ·have heq:(u.toList==v.toList)=false:=by rw[beq_eq_false_iff_ne];intro e;exact XB (toList_inj e)
       go_wp2;refine aI (by kernel_rfl) (fun W=>Below w.heap.size w W) ?_;change wpIn _ _ _ _ _ _ _ _ (World.drew _);refine aa (i:=0) (d:=some 22) rfl ?_;refine aa (i:=1) (d:=some 23) rfl ?_;refine aa (i:=2) (d:=some 24) rfl ?_;refine aC (i:=3) (d:=some 25) rfl (by(intro wq hq;have q0:=Fx.out m Eo wq hq;rw[HU.out]at q0;go_simp;first| done| with_reducible rfl)) ?_;refine aa (i:=4) (d:=some 26) rfl ?_;refine aa (i:=5) (d:=some 27) rfl ?_;refine aa (i:=6) (d:=some 28) rfl ?_;refine aC (i:=7) (d:=some 29) rfl (by(intro wq hq;have q0:=Fx.out a (by omega) wq hq;rw[HV.out]at q0;go_simp;first| done| with_reducible rfl)) ?_;refine aa (i:=8) (d:=some 30) rfl ?_;refine aH gP (by kernel_rfl) ?_ _;go_wp2;go_roundw
       case rel=>exact⟨a+1,by go_num,ham,fun x hx=>(Nat.lt_succ_iff_lt_or_eq.1 hx).elim (HD.out x) fun e=>by rw[e,HV.out];exact fun e'=>XB e'.symm,gP⟩
       case measure=>simp[intOf];omega
     ·obtain rfl:a=m:=by omega
      go_wp2;go_roundw
      case rel=>
       refine⟨a+1,by go_num,Eo,⟨fun x hx=> ?_,fun b hb x hx=> ?_⟩,aY⟩
       ·rcases Nat.lt_succ_iff_lt_or_eq.1 hx with h| h
        ·exact HI.out.1 x h
        ·rw[h,HU.out];exact HLU.out
       ·rcases Nat.lt_succ_iff_lt_or_eq.1 hb with h| h
        ·exact HI.out.2 b h x hx
        ·rw[h,HU.out];exact HD.out x (by omega)
      case measure=>simp[intOf];omega
  ·obtain rfl:m=n:=by omega
   have HR:Hid (fF ks=true):=Sd (fun x hx=>HI.out.1 x (by rw[<-HN.out];exact hx)) (fun b hb=>HI.out.2 b (by rw[<-HN.out];exact hb));go_wp2;go_ret;exact⟨aj HR.out.symm,ed⟩
def a_(k i:Int)(t:ByteArray)(ks:List ByteArray)(nl:Nat):Bool:=bA k i t ks.length nl&&
    (if k=0 then true
     else if k=1 then decide (i=0) || decide (i=1)
     else if k=2 then decide (-dN<=i)&&decide (i<=dN)
     else if k=3 then letters t
     else if k=4 then true
     else if k=5 then decide (ks.length=nl)&&fF ks
     else false)
theorem tu(d:Nat)(k i:Int)(t:ByteArray)(ks:List ByteArray)(l:List J):goodJ (d+1) (.mk k i t ks l)=(a_ k i t ks l.length&&l.all (goodJ d)):=by
 rw[goodJ,C7];unfold a_ fF
 cases hb:bA k i t ks.length l.length with
 | false=>rfl
 | true=>
  have hl:k≠4->k≠5->l= []:=fun h4 h5=>by
   unfold bA at hb;simp only[Bool.and_eq_true,Bool.or_eq_true,decide_eq_true_eq]at hb;exact List.eq_nil_of_length_eq_zero (by omega)
  simp only[Bool.true_and]
  by_cases k0:k=0
  ·rw[if_pos k0,if_pos k0,hl (by omega) (by omega)];rfl
  rw[if_neg k0,if_neg k0]
  by_cases k1:k=1
  ·rw[if_pos k1,if_pos k1,hl (by omega) (by omega)];simp
  rw[if_neg k1,if_neg k1]
  by_cases k2:k=2
  ·rw[if_pos k2,if_pos k2,hl (by omega) (by omega)];simp
  rw[if_neg k2,if_neg k2]
  by_cases k3:k=3
  ·rw[if_pos k3,if_pos k3,hl (by omega) (by omega)];simp
  rw[if_neg k3,if_neg k3]
  by_cases k4:k=4
  ·rw[if_pos k4,if_pos k4];rfl
  rw[if_neg k4,if_neg k4]
  by_cases k5:k=5
  ·rw[if_pos k5,if_pos k5]
  ·rw[if_neg k5,if_neg k5];rfl
theorem Ps{O:Nat->Prop}{w:World}(k i:Int)(t:ByteArray)(ks:List ByteArray)(pk pl:Option Addr)(nk ck nl cl:Nat)(kX:ks.length=nk)(iK:jP O w pk ck ks)(hO:∀k,O k->k<w.heap.size)(hl:nk<=100000)(vO:nl<=100000)(CZ:∀k∈ks,k.size<=1000000000)(htz:t.size<=1000000000):
    Calls Tryz.prog 100 #[.agg #[.int .i64 k,.int .i64 i,.string t,.slice pk nk ck,.slice pl nl cl]] w fun x w'=>x=.returned (.bool (a_ k i t ks nl))/\Below w.heap.size w w':=by
 have hn:=ME (t:=t);have bM:Below w.heap.size w (w.alloc (.cells #[.int .i64 k,.int .i64 i,.string t,.slice pk nk ck,.slice pl nl cl] 25)):=(Below.refl _ _).alloc (Nat.le_refl _) _;have hK:=Pq (w:=w.alloc (.cells #[.int .i64 k,.int .i64 i,.string t,.slice pk nk ck,.slice pl nl cl] 25)) (iK.carry fun b hb=>⟨hb,bM.block b (hO b hb)⟩) (fun b hb=>Nat.lt_of_lt_of_le (hO b hb) bM.size) (by rw[kX];exact hl) CZ;rw[kX]at hK;have kG:Hid (ks.length=nk):=kX;have hB:=C8 Sc t (w.alloc (.cells #[.int .i64 k,.int .i64 i,.string t,.slice pk nk ck,.slice pl nl cl] 25)) htz;clear kX iK CZ
 by_cases Ur:k=0
 ·skip
  subst Ur
  by_cases hA:nk+nl=0
  ·skip
   obtain rfl:nk=0:=by omega
   obtain rfl:nl=0:=by omega
   by_cases hi:i=0
   ·skip
    subst hi
    by_cases hT:t.size=0
    ·skip
     rw[decide_eq_true hT]at hn;have HB:Hid (a_ 0 0 t ks 0=true):=by show _=_;unfold a_ bA;rw[kG.out];simp[*]
     go_enter Tryz.func100,Tryz.ntmps100;go_wp2;go_ret;refine⟨aj ?_, ?_⟩
     ·first| exact HB.out.symm| (rw[HB.out];simp;omega)
     ·exact(Below.refl _ _).alloc (Nat.le_refl _) _
    ·skip
     rw[decide_eq_false hT]at hn;have HB:Hid (a_ 0 0 t ks 0=false):=by show _=_;unfold a_ bA;rw[kG.out];simp[*]
     go_enter Tryz.func100,Tryz.ntmps100;go_wp2;go_ret;refine⟨aj ?_, ?_⟩
     ·first| exact HB.out.symm| (rw[HB.out];simp;omega)
     ·exact(Below.refl _ _).alloc (Nat.le_refl _) _
   ·skip
    have HB:Hid (a_ 0 i t ks 0=false):=by show _=_;unfold a_ bA;rw[kG.out];simp[*]
    go_enter Tryz.func100,Tryz.ntmps100;go_wp2;go_ret;refine⟨aj ?_, ?_⟩
    ·first| exact HB.out.symm| (rw[HB.out];simp;omega)
    ·exact(Below.refl _ _).alloc (Nat.le_refl _) _
  ·skip
   have Nz:0<nk+nl:=by omega
   have HB:Hid (a_ 0 i t ks nl=false):=by show _=_;unfold a_ bA;rw[kG.out];(by_cases pR:nk=0<;>by_cases nC:nl=0<;>first| (exfalso;omega)| simp[pR,nC])
   go_enter Tryz.func100,Tryz.ntmps100;go_wp2;go_ret;refine⟨aj ?_, ?_⟩
   ·first| exact HB.out.symm| (rw[HB.out];simp;omega)
   ·exact(Below.refl _ _).alloc (Nat.le_refl _) _
 ·skip
  by_cases AJ:k=1
  ·skip
   subst AJ
   by_cases hA:nk+nl=0
   ·skip
    obtain rfl:nk=0:=by omega
    obtain rfl:nl=0:=by omega
    by_cases hi:i=0
    ·skip
     subst hi
     by_cases hT:t.size=0
     ·skip
      rw[decide_eq_true hT]at hn;have HB:Hid (a_ 1 0 t ks 0=true):=by show _=_;unfold a_ bA;rw[kG.out];simp[*]
      go_enter Tryz.func100,Tryz.ntmps100;go_wp2;go_ret;refine⟨aj ?_, ?_⟩
      ·first| exact HB.out.symm| (rw[HB.out];simp;omega)
      ·exact(Below.refl _ _).alloc (Nat.le_refl _) _
     ·skip
      rw[decide_eq_false hT]at hn;have HB:Hid (a_ 1 0 t ks 0=false):=by show _=_;unfold a_ bA;rw[kG.out];simp[*]
      go_enter Tryz.func100,Tryz.ntmps100;go_wp2;go_ret;refine⟨aj ?_, ?_⟩
      ·first| exact HB.out.symm| (rw[HB.out];simp;omega)
      ·exact(Below.refl _ _).alloc (Nat.le_refl _) _
    ·skip
     by_cases hi1:i=1
     ·skip
      subst hi1
      by_cases hT:t.size=0
      ·skip
       rw[decide_eq_true hT]at hn;have HB:Hid (a_ 1 1 t ks 0=true):=by show _=_;unfold a_ bA;rw[kG.out];simp[*]
       go_enter Tryz.func100,Tryz.ntmps100;go_wp2;go_ret;refine⟨aj ?_, ?_⟩
       ·first| exact HB.out.symm| (rw[HB.out];simp;omega)
       ·exact(Below.refl _ _).alloc (Nat.le_refl _) _
      ·skip
       rw[decide_eq_false hT]at hn;have HB:Hid (a_ 1 1 t ks 0=false):=by show _=_;unfold a_ bA;rw[kG.out];simp[*]
       go_enter Tryz.func100,Tryz.ntmps100;go_wp2;go_ret;refine⟨aj ?_, ?_⟩
       ·first| exact HB.out.symm| (rw[HB.out];simp;omega)
       ·exact(Below.refl _ _).alloc (Nat.le_refl _) _
     ·skip
      have HB:Hid (a_ 1 i t ks 0=false):=by show _=_;unfold a_ bA;rw[kG.out];simp[*]
      go_enter Tryz.func100,Tryz.ntmps100;go_wp2;go_ret;refine⟨aj ?_, ?_⟩
      ·first| exact HB.out.symm| (rw[HB.out];simp;omega)
      ·exact(Below.refl _ _).alloc (Nat.le_refl _) _
   ·skip
    have Nz:0<nk+nl:=by omega
    have HB:Hid (a_ 1 i t ks nl=false):=by show _=_;unfold a_ bA;rw[kG.out];(by_cases pR:nk=0<;>by_cases nC:nl=0<;>first| (exfalso;omega)| simp[pR,nC])
    go_enter Tryz.func100,Tryz.ntmps100;go_wp2;go_ret;refine⟨aj ?_, ?_⟩
    ·first| exact HB.out.symm| (rw[HB.out];simp;omega)
    ·exact(Below.refl _ _).alloc (Nat.le_refl _) _
  ·skip
   by_cases rM:k=2
   ·skip
    subst rM
    by_cases hA:nk+nl=0
    ·skip
     obtain rfl:nk=0:=by omega
     obtain rfl:nl=0:=by omega
     by_cases U3: -9007199254740991<=i
     ·skip
      by_cases hhi:i<=9007199254740991
      ·skip
       by_cases hT:t.size=0
       ·skip
        rw[decide_eq_true hT]at hn;have HB:Hid (a_ 2 i t ks 0=true):=by show _=_;unfold a_ bA;rw[kG.out];simp[*,dN]
        go_enter Tryz.func100,Tryz.ntmps100;go_wp2;go_ret;refine⟨aj ?_, ?_⟩
        ·first| exact HB.out.symm| (rw[HB.out];simp;omega)
        ·exact(Below.refl _ _).alloc (Nat.le_refl _) _
       ·skip
        rw[decide_eq_false hT]at hn;have HB:Hid (a_ 2 i t ks 0=false):=by show _=_;unfold a_ bA;rw[kG.out];simp[*,dN]
        go_enter Tryz.func100,Tryz.ntmps100;go_wp2;go_ret;refine⟨aj ?_, ?_⟩
        ·first| exact HB.out.symm| (rw[HB.out];simp;omega)
        ·exact(Below.refl _ _).alloc (Nat.le_refl _) _
      ·skip
       have HB:Hid (a_ 2 i t ks 0=false):=by show _=_;unfold a_ bA;rw[kG.out];simp[*,dN]
       go_enter Tryz.func100,Tryz.ntmps100;go_wp2;go_ret;refine⟨aj ?_, ?_⟩
       ·first| exact HB.out.symm| (rw[HB.out];simp;omega)
       ·exact(Below.refl _ _).alloc (Nat.le_refl _) _
     ·skip
      have HB:Hid (a_ 2 i t ks 0=false):=by show _=_;unfold a_ bA;rw[kG.out];simp[*,dN]
      go_enter Tryz.func100,Tryz.ntmps100;go_wp2;go_ret;refine⟨aj ?_, ?_⟩
      ·first| exact HB.out.symm| (rw[HB.out];simp;omega)
      ·exact(Below.refl _ _).alloc (Nat.le_refl _) _
    ·skip
     have Nz:0<nk+nl:=by omega
     have HB:Hid (a_ 2 i t ks nl=false):=by show _=_;unfold a_ bA;rw[kG.out];(by_cases pR:nk=0<;>by_cases nC:nl=0<;>first| (exfalso;omega)| simp[pR,nC])
     go_enter Tryz.func100,Tryz.ntmps100;go_wp2;go_ret;refine⟨aj ?_, ?_⟩
     ·first| exact HB.out.symm| (rw[HB.out];simp;omega)
     ·exact(Below.refl _ _).alloc (Nat.le_refl _) _
   ·skip
    by_cases E8:k=3
    ·skip
     subst E8
     by_cases hA:nk+nl=0
     ·skip
      obtain rfl:nk=0:=by omega
      obtain rfl:nl=0:=by omega
      by_cases hi:i=0
      ·skip
       subst hi
       cases bQ:letters t with
       | true=>
        rw[gZ.1 bQ]at hB;have HB:Hid (a_ 3 0 t ks 0=true):=by show _=_;unfold a_ bA;rw[kG.out];simp[*]
        go_enter Tryz.func100,Tryz.ntmps100;go_wp2_with(go_at_call 36;refine hB.mono ?_;rintro x w2 ⟨rfl,rfl⟩);go_ret;refine⟨aj ?_, ?_⟩
        ·first| exact HB.out.symm| (rw[HB.out];simp;omega)
        ·exact(Below.refl _ _).alloc (Nat.le_refl _) _
       | false=>
        obtain⟨bp,hbp⟩:=gZ.2 bQ;rw[hbp]at hB;have HB:Hid (a_ 3 0 t ks 0=false):=by show _=_;unfold a_ bA;rw[kG.out];simp[*]
        go_enter Tryz.func100,Tryz.ntmps100;go_wp2_with(go_at_call 36;refine hB.mono ?_;rintro x w2 ⟨rfl,rfl⟩);go_ret;refine⟨aj ?_, ?_⟩
        ·first| exact HB.out.symm| (rw[HB.out];simp;omega)
        ·exact(Below.refl _ _).alloc (Nat.le_refl _) _
      ·skip
       have HB:Hid (a_ 3 i t ks 0=false):=by show _=_;unfold a_ bA;rw[kG.out];simp[*]
       go_enter Tryz.func100,Tryz.ntmps100;go_wp2;go_ret;refine⟨aj ?_, ?_⟩
       ·first| exact HB.out.symm| (rw[HB.out];simp;omega)
       ·exact(Below.refl _ _).alloc (Nat.le_refl _) _
     ·skip
      have Nz:0<nk+nl:=by omega
      have HB:Hid (a_ 3 i t ks nl=false):=by show _=_;unfold a_ bA;rw[kG.out];(by_cases pR:nk=0<;>by_cases nC:nl=0<;>first| (exfalso;omega)| simp[pR,nC])
      go_enter Tryz.func100,Tryz.ntmps100;go_wp2;go_ret;refine⟨aj ?_, ?_⟩
      ·first| exact HB.out.symm| (rw[HB.out];simp;omega)
      ·exact(Below.refl _ _).alloc (Nat.le_refl _) _
    ·skip
     by_cases zm:k=4
     ·skip
      subst zm
      by_cases hA:nk=0
      ·skip
       subst hA
       by_cases hi:i=0
       ·skip
        subst hi
        by_cases hT:t.size=0
        ·skip
         rw[decide_eq_true hT]at hn;have HB:Hid (a_ 4 0 t ks nl=true):=by show _=_;unfold a_ bA;rw[kG.out];simp[*]
         go_enter Tryz.func100,Tryz.ntmps100;go_wp2;go_ret;refine⟨aj ?_, ?_⟩
         ·first| exact HB.out.symm| (rw[HB.out];simp;omega)
         ·exact(Below.refl _ _).alloc (Nat.le_refl _) _
        ·skip
         rw[decide_eq_false hT]at hn;have HB:Hid (a_ 4 0 t ks nl=false):=by show _=_;unfold a_ bA;rw[kG.out];simp[*]
         go_enter Tryz.func100,Tryz.ntmps100;go_wp2;go_ret;refine⟨aj ?_, ?_⟩
         ·first| exact HB.out.symm| (rw[HB.out];simp;omega)
         ·exact(Below.refl _ _).alloc (Nat.le_refl _) _
       ·skip
        have HB:Hid (a_ 4 i t ks nl=false):=by show _=_;unfold a_ bA;rw[kG.out];simp[*]
        go_enter Tryz.func100,Tryz.ntmps100;go_wp2;go_ret;refine⟨aj ?_, ?_⟩
        ·first| exact HB.out.symm| (rw[HB.out];simp;omega)
        ·exact(Below.refl _ _).alloc (Nat.le_refl _) _
      ·skip
       have Nz:0<nk:=by omega
       have HB:Hid (a_ 4 i t ks nl=false):=by show _=_;unfold a_ bA;rw[kG.out];simp[*]
       go_enter Tryz.func100,Tryz.ntmps100;go_wp2;go_ret;refine⟨aj ?_, ?_⟩
       ·first| exact HB.out.symm| (rw[HB.out];simp;omega)
       ·exact(Below.refl _ _).alloc (Nat.le_refl _) _
     ·skip
      by_cases Cb:k=5
      ·skip
       subst Cb
       by_cases hA:nk=nl
       ·skip
        subst hA
        by_cases hi:i=0
        ·skip
         subst hi
         by_cases hT:t.size=0
         ·skip
          rw[decide_eq_true hT]at hn;have HB:Hid (a_ 5 0 t ks nk=fF ks):=by show _=_;unfold a_ bA;rw[kG.out];simp[*]
          go_enter Tryz.func100,Tryz.ntmps100;go_wp2_with(go_at_call 128;refine hK.mono ?_;rintro x w2 ⟨rfl,aY⟩);go_ret;refine⟨aj ?_, ?_⟩
          ·first| exact HB.out.symm| (rw[HB.out];simp;omega)
          ·exact av ((Below.refl _ _).alloc (Nat.le_refl _) _) aY
         ·skip
          rw[decide_eq_false hT]at hn;have HB:Hid (a_ 5 0 t ks nk=false):=by show _=_;unfold a_ bA;rw[kG.out];simp[*]
          go_enter Tryz.func100,Tryz.ntmps100;go_wp2;go_ret;refine⟨aj ?_, ?_⟩
          ·first| exact HB.out.symm| (rw[HB.out];simp;omega)
          ·exact(Below.refl _ _).alloc (Nat.le_refl _) _
        ·skip
         have HB:Hid (a_ 5 i t ks nk=false):=by show _=_;unfold a_ bA;rw[kG.out];simp[*]
         go_enter Tryz.func100,Tryz.ntmps100;go_wp2;go_ret;refine⟨aj ?_, ?_⟩
         ·first| exact HB.out.symm| (rw[HB.out];simp;omega)
         ·exact(Below.refl _ _).alloc (Nat.le_refl _) _
       ·skip
        have HB:Hid (a_ 5 i t ks nl=false):=by show _=_;unfold a_ bA;rw[kG.out];simp[*]
        go_enter Tryz.func100,Tryz.ntmps100;go_wp2;go_ret;refine⟨aj ?_, ?_⟩
        ·first| exact HB.out.symm| (rw[HB.out];simp;omega)
        ·exact(Below.refl _ _).alloc (Nat.le_refl _) _
      ·skip
       have HB:Hid (a_ k i t ks nl=false):=by show _=_;unfold a_ bA;rw[kG.out];simp[*]
       go_enter Tryz.func100,Tryz.ntmps100;go_wp2;go_ret;refine⟨aj ?_, ?_⟩
       ·first| exact HB.out.symm| (rw[HB.out];simp;omega)
       ·exact(Below.refl _ _).alloc (Nat.le_refl _) _
def DK(d:Nat):Prop:=∀(w:World) (O:Nat->Prop) (j:J) (k i most:Int) (t:ByteArray) (pk pl:Option Addr) (nk ck nl cl:Nat),(∀x,O x->x<w.heap.size)->most=(d:Int)->d<=100->szJ d j=true→
 isJ O w j [.int .i64 k,.int .i64 i,.string t,.slice pk nk ck,.slice pl nl cl]→
 Calls Tryz.prog 71 #[.agg #[.int .i64 k,.int .i64 i,.string t,.slice pk nk ck,.slice pl nl cl],.int .i64 most] w fun x w'=>x=.returned (.bool (goodJ d j))/\Below w.heap.size w w'
theorem Kq:DK 0:=by
 intro w O j k i most t pk pl nk ck nl cl hO hm _ _ _;subst hm;go_enter Tryz.func71,Tryz.ntmps71;go_wp2;go_ret;exact⟨by unfold goodJ;rfl,(Below.refl _ _).alloc (Nat.le_refl _) _⟩
theorem Kr{d:Nat}(V:DK d):DK (d+1):=by
 intro w O j k i most t pk pl nk ck nl cl hO hm hd fK hj;obtain⟨kx,ix,tx,ks,l⟩:=j;unfold isJ at hj;obtain⟨YH,U0,YI,A_,e,hk,hl,hs⟩:=hj;simp only[List.cons.injEq,Value.int.injEq,Value.string.injEq,Value.slice.injEq,true_and,and_true]at e;obtain⟨rfl,rfl,rfl,⟨rfl,rfl,rfl⟩,rfl,rfl,rfl⟩:=e;unfold szJ at fK;simp only[Bool.and_eq_true,decide_eq_true_eq]at fK;obtain⟨htz,sG,CZ,vO,Si⟩:=fK;have HLS:Hid (l.all (szJ d)=true):=Si;have Ic:1<=most:=by omega
 have Rj:most<=101:=by omega
 have HM:Hid (most - 1=(d:Int)):=by show _=_;omega
 have HDL:Hid (d<=100):=by show _<=_;omega
 have HGS:Hid (goodJ (d+1) (.mk k i t ks l)=(a_ k i t ks l.length&&l.all (goodJ d))):=tu d k i t ks l;clear hm hd Si;obtain⟨nk,kX⟩:∃n,ks.length=n:=⟨_,rfl⟩;obtain⟨nl,o_⟩:∃n,l.length=n:=⟨_,rfl⟩;have yX:Hid (l.length=nl):=o_;rw[o_]at HGS;obtain⟨wB,vD⟩:∃wB,wB=w.alloc (.cells #[.int .i64 k,.int .i64 i,.string t,.slice pk nk ck,.slice pl nl cl] 25):=⟨_,rfl⟩;have bM:Below w.heap.size w wB:=by rw[vD];exact(Below.refl _ _).alloc (Nat.le_refl _) _
 have hA:wB.heap[w.heap.size]?=some (.cells #[.int .i64 k,.int .i64 i,.string t,.slice pk nk ck,.slice pl nl cl] 25 (0,0)):=by rw[vD];exact heap_alloc_new _ _
 have hsB:w.heap.size<wB.heap.size:=(Array.getElem?_eq_some_iff.1 hA).1;have Aj:=Ps (w:=wB) (O:=O) k i t ks pk pl nk ck nl cl kX (hk.carry fun b hb=>⟨hb,bM.block b (hO b hb)⟩) (fun b hb=>Nat.lt_of_lt_of_le (hO b hb) bM.size) (by rw[<-kX];exact sG) (by rw[<-o_];exact vO) (fun x hx=>of_decide_eq_true (List.all_eq_true.1 CZ x hx)) htz;rw[kX,o_];have zl5:nl<=100000:=by rw[<-o_];exact vO
 have Em:nl<=cl:=by rw[<-o_];exact hl
 have Xw:Hid (∀W:World,Below wB.heap.size wB W->∀n v, [Value.int .i64 k,.int .i64 i,.string t,.slice pk nk ck,.slice pl nl cl][n]?=some v->W.cell? ⟨w.heap.size,n,none⟩=some v):=fun W hW n v hv=>
  (World.cell?_of_block (a:=⟨w.heap.size,n,none⟩) (hW.block w.heap.size hsB)).trans (bB (cur:= [.int .i64 k,.int .i64 i,.string t,.slice pk nk ck,.slice pl nl cl]) hA n v hv)
 clear kX o_ sG CZ vO htz hk hl hA
 cases hsb:a_ k i t ks nl with
 | false=>
  rw[hsb]at Aj HGS;rw[vD]at Aj;go_enter Tryz.func71,Tryz.ntmps71;go_wp2_with(go_at_call 100;refine Aj.mono ?_;rintro x w2 ⟨rfl,aY⟩);go_ret;rw[<-vD]at aY;exact⟨aj HGS.out.symm,av bM aY⟩
 | true=>
  rw[hsb,Bool.true_and]at HGS;rw[hsb,vD]at Aj;go_enter Tryz.func71,Tryz.ntmps71;go_wp2_with(go_at_call 100;refine Aj.mono ?_;rintro x w2 ⟨rfl,aY⟩);rw[<-vD]at aY;clear vD Aj hsb
  go_loopw [5] (fun v wr=>∃m:Nat,v=.int .i64 m/\m<=nl/\Hid ((l.take m).all (goodJ d)=true)/\Below wB.heap.size wB wr) (fun v _=>nl - (intOf v).toNat)
  case atStart=>exact⟨0,rfl,Nat.zero_le _,rfl,aY⟩
  case round=>
   obtain⟨m,rfl,hm,HT,df⟩:=hrel;have a4:=Xw.out wr df 4 _ rfl
   by_cases AX:m<nl
   ·have pK:(m:Int)<(nl:Int):=by omega
    have o8:m<l.length:=by rw[yX.out];exact AX
    have Uk:Hid (m<l.length):=o8;obtain⟨lb,lo,cs,tO,XC,bC,iL⟩:=isJs.at l 0 m hs o8;subst tO;obtain⟨x0,x1,x2,p3,n3,c3,p4,n4,c4,rfl⟩:=dw iL;have Az:=gy bM (by omega) df;have tK:=Az.block lb (hO _ XC);have cc:∀n v, [Value.int .i64 x0,.int .i64 x1,.string x2,.slice p3 n3 c3,.slice p4 n4 c4][n]?=some v->wr.cell? ⟨lb,lo+m*5+n,none⟩=some v:=fun n v h=>by
     have:=bC n v h;rw[Nat.zero_add]at this;exact(World.cell?_of_block (a:=⟨lb,lo+m*5+n,none⟩) tK).trans this
    have y0:wr.cell? ⟨lb,lo+m*5,none⟩=some (.int .i64 x0):=cc 0 _ rfl;have y1:=cc 1 _ rfl;have y2:=cc 2 _ rfl;have y3:=cc 3 _ rfl;have y4:=cc 4 _ rfl;have hV:=V wr O (l.getD m J.zero) x0 x1 (most - 1) x2 p3 p4 n3 c3 n4 c4 (fun b hb=>Nat.lt_of_lt_of_le (hO b hb) Az.size) HM.out HDL.out (oM HLS.out o8) (iL.carry fun b hb=>⟨hb,Az.block b (hO b hb)⟩);clear cc bC o8 iL tK
    cases hgj:goodJ d (l.getD m J.zero)with
    | true=>
     rw[hgj]at hV;go_wp2_with(go_at_call 71;refine hV.mono ?_;rintro x w4 ⟨rfl,dF⟩);go_roundw
     case rel=>exact⟨m+1,by go_num,AX,by show _=_;rw[zq Uk.out,HT.out,hgj];rfl,gy df df.size dF⟩
     case measure=>simp[intOf];omega
    | false=>
     rw[hgj]at hV;go_wp2_with(go_at_call 71;refine hV.mono ?_;rintro x w4 ⟨rfl,dF⟩);go_ret;exact⟨aj (by rw[HGS.out];exact(MG Uk.out hgj).symm),gy bM (by omega) (gy df df.size dF)⟩
   ·obtain rfl:m=nl:=by omega
    go_wp2;go_ret;have ht:=HT.out;rw[List.take_of_length_le (by rw[yX.out];omega)]at ht;exact⟨aj (by rw[HGS.out];exact ht.symm),gy bM (by omega) df⟩
theorem Sj:∀d,DK d
 | 0=>Kq
 | d+1=>Kr (Sj d)
theorem qZ{w:World}{O:Nat->Prop}{j:J}{k i:Int}{t:ByteArray}{pk pl:Option Addr}{nk ck nl cl:Nat}(hO:∀x,O x->x<w.heap.size)(fK:szJ 12 j=true)
    (hj:isJ O w j [.int .i64 k,.int .i64 i,.string t,.slice pk nk ck,.slice pl nl cl]):
    Calls Tryz.prog 37 #[.agg #[.int .i64 k,.int .i64 i,.string t,.slice pk nk ck,.slice pl nl cl]] w fun x w'=>x=.returned (.bool (goodJ 12 j))/\Below w.heap.size w w':=by
 have bM:Below w.heap.size w (w.alloc (.cells #[.int .i64 k,.int .i64 i,.string t,.slice pk nk ck,.slice pl nl cl] 25)):=(Below.refl _ _).alloc (Nat.le_refl _) _;have hV:=Sj 12 (w.alloc (.cells #[.int .i64 k,.int .i64 i,.string t,.slice pk nk ck,.slice pl nl cl] 25)) O j k i 12 t pk pl nk ck nl cl (fun b hb=>Nat.lt_of_lt_of_le (hO b hb) bM.size) rfl (by decide) fK (hj.carry fun b hb=>⟨hb,bM.block b (hO b hb)⟩);go_enter Tryz.func37,Tryz.ntmps37;go_wp2_with(go_at_call 71;refine hV.mono ?_;rintro x w4 ⟨rfl,dF⟩);go_ret;exact⟨rfl,av bM dF⟩
theorem Sl:∀(n:Nat) (P:List Nat),P.Nodup->(∀i∈P,i<n)->P.length<=n
 | 0,P,_,h=>by
  cases P with
  | nil=>exact Nat.le_refl _
  | cons x r=>exact absurd (h x (by simp)) (by omega)
 | n+1,P,QB,h=>by
  have h1:(P.erase n).length<=n:=Sl n (P.erase n) (QB.erase n) fun i hi=>by
   have h2:=h i (List.mem_of_mem_erase hi);have h3:i≠n:=fun e=>by subst e;exact(QB.not_mem_erase) hi
   omega
  have h4:=List.length_erase (a:=n) (l:=P)
  split at h4<;>omega
theorem Cv:∀(n:Nat) (P:List Nat),(∀j,j<n->j∈P)->n<=P.length
 | 0,_,_=>Nat.zero_le _
 | n+1,P,h=>by
  have h1:n<=(P.erase n).length:=Cv n (P.erase n) fun j hj=>(List.mem_erase_of_ne (by omega)).2 (h j (by omega));have h2:=List.length_erase_of_mem (h n (by omega));have h3:0<P.length:=List.length_pos_of_mem (h n (by omega));omega
theorem Al:∀(n:Nat) (P:List Nat),P.Nodup->(∀i∈P,i<n)->P.length=n->P.Perm (List.range n)
 | 0,P,_,_,h=>by
  obtain rfl:P= []:=List.eq_nil_of_length_eq_zero h;exact List.Perm.refl _
 | n+1,P,QB,bQ,hl=>by
  have Dr:n∈P:=by
   refine Classical.byContradiction fun hn=> ?_;have:=Sl n P QB fun i hi=>by
    have:=bQ i hi;have:i≠n:=fun e=>hn (e ▸ hi);omega
   omega
  have h1:=Al n (P.erase n) (QB.erase n) (fun i hi=>by
   have h2:=bQ i (List.mem_of_mem_erase hi);have h3:i≠n:=fun e=>by subst e;exact(QB.not_mem_erase) hi
   omega) (by rw[List.length_erase_of_mem Dr];omega)
  rw[List.range_succ];exact(List.perm_cons_erase Dr).trans ((h1.cons n).trans (List.perm_append_singleton n (List.range n)).symm)
structure wM(ks:List ByteArray)(P:List Nat):Prop where
 nd:P.Nodup
 lt:∀i∈P,i<ks.length
 up:P.Pairwise (fun i j=>jB (aF ks i) (aF ks j)=true)
 over:∀i∈P,∀j,j<ks.length->j∉P->jB (aF ks i) (aF ks j)=true
theorem wM.nil(ks:List ByteArray):wM ks []:=⟨List.nodup_nil,fun i h=>(by cases h),List.Pairwise.nil,fun i h=>(by cases h)⟩
theorem wM.snoc{ks:List ByteArray}{P:List Nat}(h:wM ks P){m:Nat}(hm:m<ks.length)(hn:m∉P)(Yj:∀j,j<ks.length->j∉P->j=m\/ jB (aF ks m) (aF ks j)=true):wM ks (P++ [m]):=by
 refine⟨?_,fun i hi=> ?_, ?_,fun i hi j hj hnj=> ?_⟩
 ·unfold List.Nodup;rw[List.pairwise_append];exact⟨h.nd,List.pairwise_singleton _ _,fun a ha b hb=>by rw[List.mem_singleton.1 hb];exact fun e=>hn (e ▸ ha)⟩
 ·rcases List.mem_append.1 hi with hi| hi
  ·exact h.lt i hi
  ·rw[List.mem_singleton.1 hi];exact hm
 ·rw[List.pairwise_append];exact⟨h.up,List.pairwise_singleton _ _,fun a ha b hb=>by rw[List.mem_singleton.1 hb];exact h.over a ha m hm hn⟩
 ·have hnP:j∉P:=fun e=>hnj (List.mem_append_left _ e)
  rcases List.mem_append.1 hi with hi| hi
  ·exact h.over i hi j hj hnP
  ·rw[List.mem_singleton.1 hi]
   rcases Yj j hj hnP with e| e
   ·exact absurd (by rw[e];simp) hnj
   ·exact e
theorem wM.full{ks:List ByteArray}{P:List Nat}{l:List J}(h:wM ks P)(fw:P.length=ks.length)(vO:ks.length=l.length)(hd:ks.Pairwise (· ≠ ·)):AA ks l P=fQ (ks.zip l):=by
 have hp:=Al ks.length P h.nd h.lt fw;have QA:(AA ks l P).Perm (ks.zip l):=by
  rw[<-BJ ks l vO];exact hp.map _
 have hpw:(ks.zip l).Pairwise fun x y=>x.1≠y.1:=by
  have:((ks.zip l).map (·.1)).Pairwise (· ≠ ·):=by rw[List.map_fst_zip (by omega)];exact hd
  exact List.pairwise_map.1 this
 refine zb _ _ ?_ (ll _ hpw) (QA.trans (jX _).symm);unfold AA;rw[List.map_map];exact ze _ P h.up
def eP(ks:List ByteArray)(P:List Nat)(i:Nat)(v:Int):Prop:=
 (v= -1/\∀j,j<i->j∈P)\/ ∃m:Nat,v=m/\m<i/\m∉P/\∀j,j<i->j∉P->j=m\/ jB (aF ks m) (aF ks j)=true
section
variable {ks : List ByteArray} {P : List Nat} {i : Nat} {v : Int}
theorem eP.zero:eP ks P 0 (-1):=.inl ⟨rfl,fun j h=>absurd h (by omega)⟩
theorem eP.skip(h:eP ks P i v)(hi:i∈P):eP ks P (i+1) v:=by
 rcases h with⟨h1,h2⟩| ⟨m,h1,h2,h3,h4⟩
 ·refine .inl ⟨h1,fun j hj=> ?_⟩
  by_cases e:j=i
  ·rw[e];exact hi
  ·exact h2 j (by omega)
 ·refine .inr ⟨m,h1,by omega,h3,fun j hj hn=> ?_⟩
  by_cases e:j=i
  ·exact absurd (e ▸ hi) hn
  ·exact h4 j (by omega) hn
theorem eP.first(h:eP ks P i (-1))(hi:i∉P):eP ks P (i+1) i:=by
 rcases h with⟨_,h2⟩| ⟨m,h1,_⟩
 ·refine .inr ⟨i,rfl,by omega,hi,fun j hj hn=>.inl ?_⟩
  by_cases e:j=i
  ·exact e
  ·exact absurd (h2 j (by omega)) hn
 ·omega
theorem eP.less{m:Nat}(h:eP ks P i m)(hi:i∉P)(hl:jB (aF ks i) (aF ks m)=true):eP ks P (i+1) i:=by
 rcases h with⟨h1,_⟩| ⟨m',h1,h2,h3,h4⟩
 ·omega
 ·obtain rfl:m=m':=by omega
  refine .inr ⟨i,rfl,by omega,hi,fun j hj hn=> ?_⟩
  by_cases e:j=i
  ·exact .inl e
  ·right
   rcases h4 j (by omega) hn with e'| e'
   ·rw[e'];exact hl
   ·exact jh hl e'
theorem eP.same{m:Nat}(h:eP ks P i m)(hl:jB (aF ks i) (aF ks m)=false)(xk:m<i->aF ks m≠aF ks i):eP ks P (i+1) m:=by
 rcases h with⟨h1,_⟩| ⟨m',h1,h2,h3,h4⟩
 ·omega
 ·obtain rfl:m=m':=by omega
  refine .inr ⟨m,rfl,by omega,h3,fun j hj hn=> ?_⟩
  by_cases e:j=i
  ·right
   rw[e]
   rcases nA (xk h2)with h'| h'
   ·exact h'
   ·rw[h']at hl;cases hl
  ·exact h4 j (by omega) hn
theorem eP.done(h:eP ks P ks.length v)(hP:wM ks P)(fw:P.length<ks.length):∃m:Nat,v=m/\m<ks.length/\m∉P/\wM ks (P++ [m]):=by
 rcases h with⟨_,h2⟩| ⟨m,h1,h2,h3,h4⟩
 ·have:=Cv ks.length P h2;omega
 ·exact⟨m,h1,h2,h3,hP.snoc h2 h3 h4⟩
end
theorem bytesLess_eq:∀x y:List UInt8,Op.bytesLess x y=lessB x y
 | [], []=>rfl
 | [],_::_=>rfl
 | _::_, []=>rfl
 | a::x,b::y=>by
  unfold Op.bytesLess lessB;rw[bytesLess_eq x y]
  cases h:decide (a=b)<;>simp_all
theorem Gm(a b:ByteArray):Op.bytesLess a.toList b.toList=jB a b:=by
 rw[bytesLess_eq];unfold jB;rw[Lib.toList_data,Lib.toList_data]
def Eb(O:Nat->Prop)(b D:Nat)(vk vl:Value)(w:World):Nat->Prop:=fun k=>O k\/ (b+3<=k/\k<w.heap.size/\vk.ownBlock≠some k/\vl.ownBlock≠some k/\k≠D)
structure OI(O:Nat->Prop)(w:World)(b D:Nat)(dn:List Bool)(nL:Array Value)(c0 c1 c2:Value)(Sk:List ByteArray)(Sv:List J)(vk vl:Value)(W:World):Prop where
 box:W.heap[b]?=some (.cells nL 25 (0,0))
 res:W.heap[b+1]?=some (.cells #[.int .i64 0,.int .i64 0,.string ⟨#[]⟩,.slice none 0 0,.slice none 0 0] 25 (0,0))
 obj:W.heap[b+2]?=some (.cells #[c0,c1,c2,vk,vl] 25 (0,0))
 keys:W.ownsRow (b+3) 9 1 vk Sk.length (Sk.map Value.string)
 fq:∃xs,W.ownsRow (b+3) 25 5 vl Sv.length xs/\isRow (Eb O b D vk vl W) W Sv xs
 VK:D=0\/ (b+3<=D/\W.heap[D]?=some (.cells (dn.map Value.bool).toArray 4 (0,0)))
 ne:∀i,vk.ownBlock=some i->vl.ownBlock≠some i
 nek:vk.ownBlock≠some D
 nel:vl.ownBlock≠some D
 low:∀k,O k->k<b
 below:Below b w W
 at':b=w.heap.size
section
variable {O : Nat -> Prop} {w W W2 W4 : World} {b D : Nat} {dn : List Bool} {nL : Array Value} {c0 c1 c2 : Value} {Sk : List ByteArray} {Sv : List J} {vk vl kP jd : Value}
theorem OI.size(h:OI O w b D dn nL c0 c1 c2 Sk Sv vk vl W):b+2<W.heap.size:=(Array.getElem?_eq_some_iff.1 h.obj).1
theorem OI.more(h:OI O w b D dn nL c0 c1 c2 Sk Sv vk vl W)(hb:Below W.heap.size W W4):OI O w b D dn nL c0 c1 c2 Sk Sv vk vl W4:=by
 have hs:=h.size;have Q3:=hb.size;obtain⟨xs,h1,h2⟩:=h.fq;have kp:ay (fun _=>False) W W4:=ay.bq hb;refine⟨(hb.block b (by omega)).trans h.box,(hb.block (b+1) (by omega)).trans h.res,(hb.block (b+2) (by omega)).trans h.obj,bf h.keys kp fun _ _ h=>h,⟨xs,bf h1 kp fun _ _ h=>h,h2.carry fun k hk=> ?_⟩, ?_,h.ne,h.nek,h.nel,h.low,h.below.trans ⟨hb.os,hb.tape,hb.output,hb.size,fun k hk=>hb.block k (by omega)⟩,h.at'⟩
 ·rcases hk with hk| hk
  ·have:=h.low k hk;exact⟨.inl hk,hb.block k (by omega)⟩
  ·exact⟨.inr ⟨hk.1,by have:=hk.2.1;omega,hk.2.2⟩,hb.block k hk.2.1⟩
 ·rcases h.VK with h'| ⟨h',M5⟩
  ·exact .inl h'
  ·exact .inr ⟨h',(hb.block D (Array.getElem?_eq_some_iff.1 M5).1).trans M5⟩
theorem OI.drew(h:OI O w b D dn nL c0 c1 c2 Sk Sv vk vl W):OI O w b D dn nL c0 c1 c2 Sk Sv vk vl W.drew:=h.more ⟨rfl,rfl,rfl,Nat.le_refl _,fun _ _=>rfl⟩
theorem rf{o:Obj}{row:Option Nat}{f k:Nat}{v:Value}(hg:(W.alloc o).grownBy W2 row)(hk:k<W.heap.size)(hr:row≠some k)(hb:k≠b+2):(W2.setCell ⟨b+2,f,none⟩ v).heap[k]?=W.heap[k]?:=by
 have K3:ay (One (b+2)) W2 (W2.setCell ⟨b+2,f,none⟩ v):=ay.setCell (ay.refl _ _) (fun _=>(rfl:b+2=b+2)) _;have:=hg.size;simp at this;rw[K3.block k (by omega) (by unfold One;exact hb),bJ hg hk hr]
theorem OI.key(h:OI O w b D dn nL c0 c1 c2 Sk Sv vk vl W){x:ByteArray}{o:Obj}(aN:W2.ownsRow (b+3) 9 1 kP (Sk.length+1) (Sk.map Value.string++ [.string x]))(hg:(W.alloc o).grownBy W2 vk.ownBlock)(iR:kP.ownBlock=vk.ownBlock\/ kP.ownBlock=some (W.alloc o).heap.size):
    W2.cell? ⟨b+2,3,none⟩=some vk/\W2.frozen? ⟨b+2,3,none⟩=false/\OI O w b D dn nL c0 c1 c2 (Sk++ [x]) Sv kP vl (W2.setCell ⟨b+2,3,none⟩ kP):=by
 have hs:=h.size;have qO:=aO h.keys;obtain⟨xs,bV,eZ⟩:=h.fq;have qc:=aO bV;have hgs:=hg.size;simp at hgs;have ob:W2.heap[b+2]?=some (.cells #[c0,c1,c2,vk,vl] 25 (0,0)):=by
  rw[bJ hg (by omega) (fun e=>by have:=qO _ e;omega)];exact h.obj
 have K3:ay (One (b+2)) W2 (W2.setCell ⟨b+2,3,none⟩ kP):=ay.setCell (ay.refl _ _) (fun _=>(rfl:b+2=b+2)) _;have QC:=aO aN;have new:∀i,kP.ownBlock=some i->vk.ownBlock=some i\/ W.heap.size<i:=fun i e=>by
  rcases iR with h1| h1
  ·exact .inl (h1 ▸ e)
  ·rw[h1]at e;have:=Option.some.inj e;simp at this;exact .inr (by omega)
 have carry:∀k,Eb O b D vk vl W k->Eb O b D kP vl (W2.setCell ⟨b+2,3,none⟩ kP) k/\(W2.setCell ⟨b+2,3,none⟩ kP).heap[k]?=W.heap[k]?:=by
  intro k hk
  rcases hk with hk| hk
  ·have:=h.low k hk;exact⟨.inl hk,rf hg (by omega) (fun e=>by have:=qO _ e;omega) (by omega)⟩
  ·refine⟨.inr ⟨hk.1,by have:=hk.2.1;simp;omega,fun e=> ?_,hk.2.2.2.1,hk.2.2.2.2⟩,rf hg hk.2.1 hk.2.2.1 (by have:=hk.1;omega)⟩
   rcases new k e with h'| h'
   ·exact hk.2.2.1 h'
   ·have:=hk.2.1;omega
 refine⟨fV ob,gN ob 3,⟨?_, ?_, ?_, ?_,⟨xs, ?_,eZ.carry carry⟩, ?_, ?_, ?_,h.nel,h.low, ?_,h.at'⟩⟩
 ·rw[rf hg (by omega) (fun e=>by have:=qO _ e;omega) (by omega)];exact h.box
 ·rw[rf hg (by omega) (fun e=>by have:=qO _ e;omega) (by omega)];exact h.res
 ·rw[heap_setCell_same _ (b+2) 3 _ _ _ ob];rfl
 ·rw[List.length_append,List.map_append];exact bf aN K3 fun k e=>by have:=QC k e;unfold One;omega
 ·exact bf (bf (bV.alloc o) (S:=fun k=>vk.ownBlock=some k) (ay.gQ hg fun _ _ e=>e) fun k e e'=>h.ne k e' e) K3 fun k e=>by have:=qc k e;unfold One;omega
 ·rcases h.VK with h'| ⟨h',M5⟩
  ·exact .inl h'
  ·exact .inr ⟨h',by rw[rf hg (Array.getElem?_eq_some_iff.1 M5).1 h.nek (by omega)];exact M5⟩
 ·intro i e e'
  rcases new i e with h1| h1
  ·exact h.ne i h1 e'
  ·have:=(qc i e').2;omega
 ·intro e
  rcases new D e with h1| h1
  ·exact h.nek h1
  ·rcases h.VK with h'| ⟨_,M5⟩
   ·omega
   ·have:=(Array.getElem?_eq_some_iff.1 M5).1;omega
 ·refine h.below.trans ⟨hg.os,hg.tape,hg.output,by simp;omega,fun k hk=>rf hg (by omega) (fun e=>by have:=qO _ e;omega) (by omega)⟩
theorem OI.val(h:OI O w b D dn nL c0 c1 c2 Sk Sv vk vl W){y:J}{cs xs:List Value}{o:Obj}(bV:W.ownsRow (b+3) 25 5 vl Sv.length xs)(eZ:isRow (Eb O b D vk vl W) W Sv xs)(hy:isJ (Eb O b D vk vl W) W y cs)(aN:W2.ownsRow (b+3) 25 5 jd (Sv.length+1) (xs++cs))(hg:(W.alloc o).grownBy W2 vl.ownBlock)(iR:jd.ownBlock=vl.ownBlock\/ jd.ownBlock=some (W.alloc o).heap.size):
    W2.cell? ⟨b+2,4,none⟩=some vl/\W2.frozen? ⟨b+2,4,none⟩=false/\OI O w b D dn nL c0 c1 c2 Sk (Sv++ [y]) vk jd (W2.setCell ⟨b+2,4,none⟩ jd):=by
 have hs:=h.size;have qO:=aO h.keys;have qc:=aO bV;have hgs:=hg.size;simp at hgs;have ob:W2.heap[b+2]?=some (.cells #[c0,c1,c2,vk,vl] 25 (0,0)):=by
  rw[bJ hg (by omega) (fun e=>by have:=qc _ e;omega)];exact h.obj
 have K3:ay (One (b+2)) W2 (W2.setCell ⟨b+2,4,none⟩ jd):=ay.setCell (ay.refl _ _) (fun _=>(rfl:b+2=b+2)) _;have NQ:=aO aN;have new:∀i,jd.ownBlock=some i->vl.ownBlock=some i\/ W.heap.size<i:=fun i e=>by
  rcases iR with h1| h1
  ·exact .inl (h1 ▸ e)
  ·rw[h1]at e;have:=Option.some.inj e;simp at this;exact .inr (by omega)
 have carry:∀k,Eb O b D vk vl W k->Eb O b D vk jd (W2.setCell ⟨b+2,4,none⟩ jd) k/\(W2.setCell ⟨b+2,4,none⟩ jd).heap[k]?=W.heap[k]?:=by
  intro k hk
  rcases hk with hk| hk
  ·have:=h.low k hk;exact⟨.inl hk,rf hg (by omega) (fun e=>by have:=qc _ e;omega) (by omega)⟩
  ·refine⟨.inr ⟨hk.1,by have:=hk.2.1;simp;omega,hk.2.2.1,fun e=> ?_,hk.2.2.2.2⟩,rf hg hk.2.1 hk.2.2.2.1 (by have:=hk.1;omega)⟩
   rcases new k e with h'| h'
   ·exact hk.2.2.2.1 h'
   ·have:=hk.2.1;omega
 refine⟨bG ob,gN ob 4,⟨?_, ?_, ?_, ?_,⟨xs++cs, ?_,isRow.snoc hy.AP (hy.carry carry) Sv xs (eZ.carry carry)⟩, ?_, ?_,h.nek, ?_,h.low, ?_,h.at'⟩⟩
 ·rw[rf hg (by omega) (fun e=>by have:=qc _ e;omega) (by omega)];exact h.box
 ·rw[rf hg (by omega) (fun e=>by have:=qc _ e;omega) (by omega)];exact h.res
 ·rw[heap_setCell_same _ (b+2) 4 _ _ _ ob];rfl
 ·exact bf (bf (h.keys.alloc o) (S:=fun k=>vl.ownBlock=some k) (ay.gQ hg fun _ _ e=>e) fun k e e'=>h.ne k e e') K3 fun k e=>by have:=qO k e;unfold One;omega
 ·rw[List.length_append];exact bf aN K3 fun k e=>by have:=NQ k e;unfold One;omega
 ·rcases h.VK with h'| ⟨h',M5⟩
  ·exact .inl h'
  ·exact .inr ⟨h',by rw[rf hg (Array.getElem?_eq_some_iff.1 M5).1 h.nel (by omega)];exact M5⟩
 ·intro i e e'
  rcases new i e' with h1| h1
  ·exact h.ne i e h1
  ·have:=(qO i e).2;omega
 ·intro e
  rcases new D e with h1| h1
  ·exact h.nel h1
  ·rcases h.VK with h'| ⟨_,M5⟩
   ·omega
   ·have:=(Array.getElem?_eq_some_iff.1 M5).1;omega
 ·refine h.below.trans ⟨hg.os,hg.tape,hg.output,by simp;omega,fun k hk=>rf hg (by omega) (fun e=>by have:=qc _ e;omega) (by omega)⟩
theorem OI.new(h:OI O w b D dn nL c0 c1 c2 Sk Sv vk vl W)(hb:Below W.heap.size W W4){y:J}{cs:List Value}(hy:isJ (fun k=>O k\/ tN W W4 k) W4 y cs):isJ (Eb O b D vk vl W4) W4 y cs:=by
 have hs:=h.size;have Q3:=hb.size;obtain⟨xs,h1,_⟩:=h.fq;refine hy.carry fun k hk=>⟨?_,rfl⟩
 rcases hk with hk| hk
 ·exact .inl hk
 ·have e1:=hk.1;refine .inr ⟨by omega,hk.2,fun e=>by have:=(aO h.keys k e).2;omega,fun e=>by have:=(aO h1 k e).2;omega,fun e=> ?_⟩
  rcases h.VK with h'| ⟨_,M5⟩
  ·omega
  ·have:=(Array.getElem?_eq_some_iff.1 M5).1;omega
theorem OI.marks(h:OI O w b 0 dn nL c0 c1 c2 Sk Sv vk vl W)(ds:List Bool):OI O w b W.heap.size ds nL c0 c1 c2 Sk Sv vk vl (W.alloc (.cells (ds.map Value.bool).toArray 4)):=by
 have hs:=h.size;have hb:Below W.heap.size W (W.alloc (.cells (ds.map Value.bool).toArray 4)):=(Below.refl _ _).alloc (Nat.le_refl _) _;obtain⟨xs,h1,h2⟩:=h.fq;have kp:ay (fun _=>False) W (W.alloc (.cells (ds.map Value.bool).toArray 4)):=ay.bq hb;refine⟨(hb.block b (by omega)).trans h.box,(hb.block (b+1) (by omega)).trans h.res,(hb.block (b+2) (by omega)).trans h.obj,bf h.keys kp fun _ _ h=>h,⟨xs,bf h1 kp fun _ _ h=>h,h2.carry fun k hk=> ?_⟩,.inr ⟨by omega,heap_alloc_new _ _⟩,h.ne,fun e=>by have:=(aO h.keys _ e).2;omega,fun e=>by have:=(aO h1 _ e).2;omega,h.low,h.below.trans ⟨hb.os,hb.tape,hb.output,hb.size,fun k hk=>hb.block k (by omega)⟩,h.at'⟩
 rcases hk with hk| hk
 ·have:=h.low k hk;exact⟨.inl hk,hb.block k (by omega)⟩
 ·exact⟨.inr ⟨hk.1,by have:=hk.2.1;simp;omega,hk.2.2.1,hk.2.2.2.1,by have:=hk.2.1;omega⟩,hb.block k hk.2.1⟩
theorem OI.mark(h:OI O w b D dn nL c0 c1 c2 Sk Sv vk vl W)(hD:b+3<=D)(m:Nat):OI O w b D (dn.set m true) nL c0 c1 c2 Sk Sv vk vl (W.setCell ⟨D,m,none⟩ (.bool true)):=by
 have hs:=h.size;obtain⟨xs,h1,h2⟩:=h.fq;have K3:ay (One D) W (W.setCell ⟨D,m,none⟩ (.bool true)):=ay.setCell (ay.refl _ _) (fun _=>(rfl:D=D)) _;obtain⟨_,hd⟩:b+3<=D/\W.heap[D]?=some (.cells (dn.map Value.bool).toArray 4 (0,0)):=by
  rcases h.VK with h'| h'
  ·omega
  ·exact h'
 have Pv:∀k,k<W.heap.size->k≠D->(W.setCell ⟨D,m,none⟩ (.bool true)).heap[k]?=W.heap[k]?:=fun k hk hn=>K3.block k hk (by unfold One;exact hn);refine⟨(Pv b (by omega) (by omega)).trans h.box,(Pv (b+1) (by omega) (by omega)).trans h.res,(Pv (b+2) (by omega) (by omega)).trans h.obj,bf h.keys K3 fun k e=>by unfold One;exact fun e'=>h.nek (e' ▸ e),⟨xs,bf h1 K3 fun k e=>by unfold One;exact fun e'=>h.nel (e' ▸ e),h2.carry fun k hk=> ?_⟩,.inr ⟨hD, ?_⟩,h.ne,h.nek,h.nel,h.low,h.below.trans ⟨rfl,rfl,rfl,by simp,fun k hk=>Pv k (by omega) (by omega)⟩,h.at'⟩
 ·rcases hk with hk| hk
  ·have:=h.low k hk;exact⟨.inl hk,Pv k (by omega) (by omega)⟩
  ·exact⟨.inr ⟨hk.1,by have:=hk.2.1;simp;omega,hk.2.2⟩,Pv k hk.2.1 hk.2.2.2.2⟩
 ·rw[heap_setCell_same _ D m _ _ _ hd]
  congr 2
  rw[<-Array.toList_inj];simp[List.map_set]
end
end Go.Proofs.YtldegjjaknelgaaGreatDoor

/- A part. -/
import Derived.Test.YtldegjjaknelgaaGreatDoorAR16
set_option maxRecDepth 100000
set_option maxHeartbeats 64000000
namespace Go.Proofs.YtldegjjaknelgaaGreatDoor
open Go.RowKit
theorem Ql{ks:List ByteArray}(h1:∀m,m<ks.length->letters (aC ks m)=true)(h2:∀b,b<ks.length->∀a,a<b->aC ks a≠aC ks b):fe ks=true:=by
 unfold fe;rw[Bool.and_eq_true]
 constructor
 ·rw[List.all_eq_true];intro x hx;obtain⟨n,hn,rfl⟩:=List.getElem_of_mem hx;rw[<-dJ hn];exact h1 n hn
 ·apply eY
  rw[List.pairwise_iff_getElem];intro a b ha hb jH;rw[<-dJ ha,<-dJ hb];exact h2 b hb a jH
theorem Ji{ks:List ByteArray}{m:Nat}(hm:m<ks.length)(h:letters (aC ks m)=false):fe ks=false:=by
 cases hg:fe ks with
 | false=>rfl
 | true=>
  unfold fe at hg;rw[Bool.and_eq_true,List.all_eq_true]at hg;rw[dJ hm,hg.1 _ (List.getElem_mem hm)]at h
  cases h
theorem Jj{ks:List ByteArray}{a b:Nat}(hb:b<ks.length)(jH:a<b)(h:aC ks b=aC ks a):fe ks=false:=by
 cases hg:fe ks with
 | false=>rfl
 | true=>
  unfold fe at hg;rw[Bool.and_eq_true]at hg;have hp:=List.pairwise_iff_getElem.1 (fV hg.2) a b (by omega) hb jH;rw[<-dJ (by omega),<-dJ hb]at hp;exact absurd h.symm hp
theorem gB{s:ByteArray}:(letters s=true->Av (gY (ints s))= -1)/\(letters s=false->∃p:Nat,Av (gY (ints s))=p):=by
 unfold letters
 cases gY (ints s)with
 | none=>exact⟨fun _=>rfl,fun h=>(by cases h)⟩
 | some p=>exact⟨fun h=>(by cases h),fun _=>⟨p,rfl⟩⟩
theorem Ng{O:Nat->Prop}{ks:List ByteArray}{p:Option Addr}{c:Nat}{w:World}(gW:ig O w p c ks)(hO:∀k,O k->k<w.heap.size)(hl:ks.length<=100000)(BG:∀k∈ks,k.size<=1000000000):
    Calls Tryz.prog 128 #[.slice p ks.length c] w fun x w'=>x=.returned (.bool (fe ks))/\Below w.heap.size w w':=by
 obtain⟨n,hn⟩:∃n,ks.length=n:=⟨_,rfl⟩;have HN:Hid (ks.length=n):=hn;have Mh:=gW.1;rw[hn]at hl Mh ⊢;clear hn;go_enter Tryz.func128,Tryz.ntmps128;go_wp2
 go_loopw [3] (fun v wr=>∃m:Nat,v=.int .i64 m/\m<=n/\Hid ((∀x,x<m->letters (aC ks x)=true)/\∀b,b<m->∀a,a<b->aC ks a≠aC ks b)/\Below w.heap.size w wr) (fun v _=>n - (intOf v).toNat)
 case atStart=>exact⟨0,rfl,Nat.zero_le _,⟨fun x hx=>absurd hx (by omega),fun x hx=>absurd hx (by omega)⟩,Below.refl _ _⟩
 case round=>
  obtain⟨m,rfl,hm,HI,gX⟩:=hrel
  by_cases CY:m<n
  ·have oH:(m:Int)<(n:Int):=by omega
   have NN:m<ks.length:=by rw[HN.out];exact CY
   have HMK:Hid (m<ks.length):=NN;obtain⟨ka,VT,rX,Qm⟩:=gW.2 m NN;subst VT;have hKA:wr.cell? (ka.add m)=some (.string (aC ks m)):=(World.cell?_of_block (by rw[bF];exact gX.block _ (hO _ rX))).trans Qm;have Ei:Hid (∀x,x<n->∀W:World,Below w.heap.size w W->W.cell? (ka.add x)=some (.string (aC ks x))):=fun x hx W hW=>by
    obtain⟨a',Ur,O0,hc'⟩:=gW.2 x (by rw[HN.out];exact hx)
    cases Ur
    exact(World.cell?_of_block (by rw[bF];exact hW.block _ (hO _ O0))).trans hc'
   have hz:(aC ks m).size<=1000000000:=by rw[dJ NN];exact BG _ (List.getElem_mem NN)
   have hB:=BI Qk (aC ks m) wr hz;obtain⟨u,hu⟩:∃u,aC ks m=u:=⟨_,rfl⟩;have HU:Hid (aC ks m=u):=hu;rw[hu]at hKA hB;clear hu Qm NN hz
   cases hlu:letters u with
   | false=>
    obtain⟨bp,hbp⟩:=gB.2 hlu;rw[hbp]at hB;have HR:Hid (fe ks=false):=Ji HMK.out (by rw[HU.out];exact hlu);go_wp2_with(go_at_call 36;refine hB.mono ?_;rintro x w' ⟨rfl,rfl⟩);go_ret;exact⟨ai HR.out.symm,gX⟩
   | true=>
    rw[gB.1 hlu]at hB;have HLU:Hid (letters u=true):=hlu;clear hlu;go_wp2_with(go_at_call 36;refine hB.mono ?_;rintro x w' ⟨rfl,rfl⟩);clear hB hKA
    go_loopw [4] (fun v w2=>∃a:Nat,v=.int .i64 a/\a<=m/\Hid (∀x,x<a->aC ks x≠u)/\Below w.heap.size w w2) (fun v _=>m - (intOf v).toNat)
    case atStart=>exact⟨0,rfl,Nat.zero_le _,fun x hx=>absurd hx (by omega),gX⟩
    case round=>
     obtain⟨a,rfl,ha,HD,aT⟩:=hrel
     by_cases ham:a<m
     ·have Mk:(a:Int)<(m:Int):=by omega
      have han:(a:Int)<(n:Int):=by omega
      obtain⟨v,hv⟩:∃v,aC ks a=v:=⟨_,rfl⟩;have HV:Hid (aC ks a=v):=hv;clear hv;have f_:Below w.heap.size w wr.drew:=⟨aT.os,aT.tape,aT.output,aT.size,aT.block⟩
      by_cases U1:u=v
      ·have heq:(u.toList==v.toList)=true:=by rw[U1];simp
       have HR:Hid (fe ks=false):=Jj (a:=a) HMK.out ham (by rw[HU.out,HV.out,U1]);go_wp2;refine aF (by kernel_rfl) (fun W=>Below w.heap.size w W) ?_;change wpIn _ _ _ _ _ _ _ _ (World.drew _);refine aa (i:=0) (d:=some 22) rfl ?_;refine aa (i:=1) (d:=some 23) rfl ?_;refine aa (i:=2) (d:=some 24) rfl ?_;refine az (i:=3) (d:=some 25) rfl (by(intro wq hq;have q0:=Ei.out m CY wq hq;rw[HU.out]at q0;go_simp;first| done| with_reducible rfl)) ?_;refine aa (i:=4) (d:=some 26) rfl ?_;refine aa (i:=5) (d:=some 27) rfl ?_;refine aa (i:=6) (d:=some 28) rfl ?_;refine az (i:=7) (d:=some 29) rfl (by(intro wq hq;have q0:=Ei.out a (by omega) wq hq;rw[HV.out]at q0;go_simp;first| done| with_reducible rfl)) ?_;refine aa (i:=8) (d:=some 30) rfl ?_;refine aD f_ (by kernel_rfl) ?_ _;go_wp2;go_ret;exact⟨ai HR.out.symm,f_⟩
      ·have heq:(u.toList==v.toList)=false:=by rw[beq_eq_false_iff_ne];intro e;exact U1 (toList_inj e)
       go_wp2;refine aF (by kernel_rfl) (fun W=>Below w.heap.size w W) ?_;change wpIn _ _ _ _ _ _ _ _ (World.drew _);refine aa (i:=0) (d:=some 22) rfl ?_;refine aa (i:=1) (d:=some 23) rfl ?_;refine aa (i:=2) (d:=some 24) rfl ?_;refine az (i:=3) (d:=some 25) rfl (by(intro wq hq;have q0:=Ei.out m CY wq hq;rw[HU.out]at q0;go_simp;first| done| with_reducible rfl)) ?_;refine aa (i:=4) (d:=some 26) rfl ?_;refine aa (i:=5) (d:=some 27) rfl ?_;refine aa (i:=6) (d:=some 28) rfl ?_;refine az (i:=7) (d:=some 29) rfl (by(intro wq hq;have q0:=Ei.out a (by omega) wq hq;rw[HV.out]at q0;go_simp;first| done| with_reducible rfl)) ?_;refine aa (i:=8) (d:=some 30) rfl ?_;refine aD f_ (by kernel_rfl) ?_ _;go_wp2;go_roundw
       case rel=>exact⟨a+1,by go_num,ham,fun x hx=>(Nat.lt_succ_iff_lt_or_eq.1 hx).elim (HD.out x) fun e=>by rw[e,HV.out];exact fun e'=>U1 e'.symm,f_⟩
       case measure=>simp[intOf];omega
     ·obtain rfl:a=m:=by omega
      go_wp2;go_roundw
      case rel=>
       refine⟨a+1,by go_num,CY,⟨fun x hx=> ?_,fun b hb x hx=> ?_⟩,aT⟩
       ·rcases Nat.lt_succ_iff_lt_or_eq.1 hx with h| h
        ·exact HI.out.1 x h
        ·rw[h,HU.out];exact HLU.out
       ·rcases Nat.lt_succ_iff_lt_or_eq.1 hb with h| h
        ·exact HI.out.2 b h x hx
        ·rw[h,HU.out];exact HD.out x (by omega)
      case measure=>simp[intOf];omega
  ·obtain rfl:m=n:=by omega
   have HR:Hid (fe ks=true):=Ql (fun x hx=>HI.out.1 x (by rw[<-HN.out];exact hx)) (fun b hb=>HI.out.2 b (by rw[<-HN.out];exact hb));go_wp2;go_ret;exact⟨ai HR.out.symm,gX⟩
def aS(k i:Int)(t:ByteArray)(ks:List ByteArray)(nl:Nat):Bool:=aZ k i t ks.length nl&&
    (if k=0 then true
     else if k=1 then decide (i=0) || decide (i=1)
     else if k=2 then decide (-dC<=i)&&decide (i<=dC)
     else if k=3 then letters t
     else if k=4 then true
     else if k=5 then decide (ks.length=nl)&&fe ks
     else false)
theorem rC(d:Nat)(k i:Int)(t:ByteArray)(ks:List ByteArray)(l:List J):goodJ (d+1) (.mk k i t ks l)=(aS k i t ks l.length&&l.all (goodJ d)):=by
 rw[goodJ,BH];unfold aS fe
 cases hb:aZ k i t ks.length l.length with
 | false=>rfl
 | true=>
  have hl:k≠4->k≠5->l= []:=fun h4 h5=>by
   unfold aZ at hb;simp only[Bool.and_eq_true,Bool.or_eq_true,decide_eq_true_eq]at hb;exact List.eq_nil_of_length_eq_zero (by omega)
  simp only[Bool.true_and]
  by_cases k0:k=0
  ·rw[if_pos k0,if_pos k0,hl (by omega) (by omega)];rfl
  rw[if_neg k0,if_neg k0]
  by_cases k1:k=1
  ·rw[if_pos k1,if_pos k1,hl (by omega) (by omega)];simp
  rw[if_neg k1,if_neg k1]
  by_cases k2:k=2
  ·rw[if_pos k2,if_pos k2,hl (by omega) (by omega)];simp
  rw[if_neg k2,if_neg k2]
  by_cases k3:k=3
  ·rw[if_pos k3,if_pos k3,hl (by omega) (by omega)];simp
  rw[if_neg k3,if_neg k3]
  by_cases k4:k=4
  ·rw[if_pos k4,if_pos k4];rfl
  rw[if_neg k4,if_neg k4]
  by_cases k5:k=5
  ·rw[if_pos k5,if_pos k5]
  ·rw[if_neg k5,if_neg k5];rfl
theorem Nh{O:Nat->Prop}{w:World}(k i:Int)(t:ByteArray)(ks:List ByteArray)(pk pl:Option Addr)(nk ck nl cl:Nat)(nz:ks.length=nk)(gW:ig O w pk ck ks)(hO:∀k,O k->k<w.heap.size)(hl:nk<=100000)(su:nl<=100000)(BG:∀k∈ks,k.size<=1000000000)(htz:t.size<=1000000000):
    Calls Tryz.prog 100 #[.agg #[.int .i64 k,.int .i64 i,.string t,.slice pk nk ck,.slice pl nl cl]] w fun x w'=>x=.returned (.bool (aS k i t ks nl))/\Below w.heap.size w w':=by
 have hn:=Kk (t:=t);have bS:Below w.heap.size w (w.alloc (.cells #[.int .i64 k,.int .i64 i,.string t,.slice pk nk ck,.slice pl nl cl] 25)):=(Below.refl _ _).alloc (Nat.le_refl _) _;have hK:=Ng (w:=w.alloc (.cells #[.int .i64 k,.int .i64 i,.string t,.slice pk nk ck,.slice pl nl cl] 25)) (gW.carry fun b hb=>⟨hb,bS.block b (hO b hb)⟩) (fun b hb=>Nat.lt_of_lt_of_le (hO b hb) bS.size) (by rw[nz];exact hl) BG;rw[nz]at hK;have jJ:Hid (ks.length=nk):=nz;have hB:=BI Qk t (w.alloc (.cells #[.int .i64 k,.int .i64 i,.string t,.slice pk nk ck,.slice pl nl cl] 25)) htz;clear nz gW BG
 by_cases U2:k=0
 ·skip
  subst U2
  by_cases hA:nk+nl=0
  ·skip
   obtain rfl:nk=0:=by omega
   obtain rfl:nl=0:=by omega
   by_cases hi:i=0
   ·skip
    subst hi
    by_cases hT:t.size=0
    ·skip
     rw[decide_eq_true hT]at hn;have HB:Hid (aS 0 0 t ks 0=true):=by show _=_;unfold aS aZ;rw[jJ.out];simp[*]
     go_enter Tryz.func100,Tryz.ntmps100;go_wp2;go_ret;refine⟨ai ?_, ?_⟩
     ·first| exact HB.out.symm| (rw[HB.out];simp;omega)
     ·exact(Below.refl _ _).alloc (Nat.le_refl _) _
    ·skip
     rw[decide_eq_false hT]at hn;have HB:Hid (aS 0 0 t ks 0=false):=by show _=_;unfold aS aZ;rw[jJ.out];simp[*]
     go_enter Tryz.func100,Tryz.ntmps100;go_wp2;go_ret;refine⟨ai ?_, ?_⟩
     ·first| exact HB.out.symm| (rw[HB.out];simp;omega)
     ·exact(Below.refl _ _).alloc (Nat.le_refl _) _
   ·skip
    have HB:Hid (aS 0 i t ks 0=false):=by show _=_;unfold aS aZ;rw[jJ.out];simp[*]
    go_enter Tryz.func100,Tryz.ntmps100;go_wp2;go_ret;refine⟨ai ?_, ?_⟩
    ·first| exact HB.out.symm| (rw[HB.out];simp;omega)
    ·exact(Below.refl _ _).alloc (Nat.le_refl _) _
  ·skip
   have Lg:0<nk+nl:=by omega
   have HB:Hid (aS 0 i t ks nl=false):=by show _=_;unfold aS aZ;rw[jJ.out];(by_cases oI:nk=0<;>by_cases rV:nl=0<;>first| (exfalso;omega)| simp[oI,rV])
   go_enter Tryz.func100,Tryz.ntmps100;go_wp2;go_ret;refine⟨ai ?_, ?_⟩
   ·first| exact HB.out.symm| (rw[HB.out];simp;omega)
   ·exact(Below.refl _ _).alloc (Nat.le_refl _) _
 ·skip
  by_cases Rh:k=1
  ·skip
   subst Rh
   by_cases hA:nk+nl=0
   ·skip
    obtain rfl:nk=0:=by omega
    obtain rfl:nl=0:=by omega
    by_cases hi:i=0
    ·skip
     subst hi
     by_cases hT:t.size=0
     ·skip
      rw[decide_eq_true hT]at hn;have HB:Hid (aS 1 0 t ks 0=true):=by show _=_;unfold aS aZ;rw[jJ.out];simp[*]
      go_enter Tryz.func100,Tryz.ntmps100;go_wp2;go_ret;refine⟨ai ?_, ?_⟩
      ·first| exact HB.out.symm| (rw[HB.out];simp;omega)
      ·exact(Below.refl _ _).alloc (Nat.le_refl _) _
     ·skip
      rw[decide_eq_false hT]at hn;have HB:Hid (aS 1 0 t ks 0=false):=by show _=_;unfold aS aZ;rw[jJ.out];simp[*]
      go_enter Tryz.func100,Tryz.ntmps100;go_wp2;go_ret;refine⟨ai ?_, ?_⟩
      ·first| exact HB.out.symm| (rw[HB.out];simp;omega)
      ·exact(Below.refl _ _).alloc (Nat.le_refl _) _
    ·skip
     by_cases hi1:i=1
     ·skip
      subst hi1
      by_cases hT:t.size=0
      ·skip
       rw[decide_eq_true hT]at hn;have HB:Hid (aS 1 1 t ks 0=true):=by show _=_;unfold aS aZ;rw[jJ.out];simp[*]
       go_enter Tryz.func100,Tryz.ntmps100;go_wp2;go_ret;refine⟨ai ?_, ?_⟩
       ·first| exact HB.out.symm| (rw[HB.out];simp;omega)
       ·exact(Below.refl _ _).alloc (Nat.le_refl _) _
      ·skip
       rw[decide_eq_false hT]at hn;have HB:Hid (aS 1 1 t ks 0=false):=by show _=_;unfold aS aZ;rw[jJ.out];simp[*]
       go_enter Tryz.func100,Tryz.ntmps100;go_wp2;go_ret;refine⟨ai ?_, ?_⟩
       ·first| exact HB.out.symm| (rw[HB.out];simp;omega)
       ·exact(Below.refl _ _).alloc (Nat.le_refl _) _
     ·skip
      have HB:Hid (aS 1 i t ks 0=false):=by show _=_;unfold aS aZ;rw[jJ.out];simp[*]
      go_enter Tryz.func100,Tryz.ntmps100;go_wp2;go_ret;refine⟨ai ?_, ?_⟩
      ·first| exact HB.out.symm| (rw[HB.out];simp;omega)
      ·exact(Below.refl _ _).alloc (Nat.le_refl _) _
   ·skip
    have Lg:0<nk+nl:=by omega
    have HB:Hid (aS 1 i t ks nl=false):=by show _=_;unfold aS aZ;rw[jJ.out];(by_cases oI:nk=0<;>by_cases rV:nl=0<;>first| (exfalso;omega)| simp[oI,rV])
    go_enter Tryz.func100,Tryz.ntmps100;go_wp2;go_ret;refine⟨ai ?_, ?_⟩
    ·first| exact HB.out.symm| (rw[HB.out];simp;omega)
    ·exact(Below.refl _ _).alloc (Nat.le_refl _) _
  ·skip
   by_cases pO:k=2
   ·skip
    subst pO
    by_cases hA:nk+nl=0
    ·skip
     obtain rfl:nk=0:=by omega
     obtain rfl:nl=0:=by omega
     by_cases Sa: -9007199254740991<=i
     ·skip
      by_cases hhi:i<=9007199254740991
      ·skip
       by_cases hT:t.size=0
       ·skip
        rw[decide_eq_true hT]at hn;have HB:Hid (aS 2 i t ks 0=true):=by show _=_;unfold aS aZ;rw[jJ.out];simp[*,dC]
        go_enter Tryz.func100,Tryz.ntmps100;go_wp2;go_ret;refine⟨ai ?_, ?_⟩
        ·first| exact HB.out.symm| (rw[HB.out];simp;omega)
        ·exact(Below.refl _ _).alloc (Nat.le_refl _) _
       ·skip
        rw[decide_eq_false hT]at hn;have HB:Hid (aS 2 i t ks 0=false):=by show _=_;unfold aS aZ;rw[jJ.out];simp[*,dC]
        go_enter Tryz.func100,Tryz.ntmps100;go_wp2;go_ret;refine⟨ai ?_, ?_⟩
        ·first| exact HB.out.symm| (rw[HB.out];simp;omega)
        ·exact(Below.refl _ _).alloc (Nat.le_refl _) _
      ·skip
       have HB:Hid (aS 2 i t ks 0=false):=by show _=_;unfold aS aZ;rw[jJ.out];simp[*,dC]
       go_enter Tryz.func100,Tryz.ntmps100;go_wp2;go_ret;refine⟨ai ?_, ?_⟩
       ·first| exact HB.out.symm| (rw[HB.out];simp;omega)
       ·exact(Below.refl _ _).alloc (Nat.le_refl _) _
     ·skip
      have HB:Hid (aS 2 i t ks 0=false):=by show _=_;unfold aS aZ;rw[jJ.out];simp[*,dC]
      go_enter Tryz.func100,Tryz.ntmps100;go_wp2;go_ret;refine⟨ai ?_, ?_⟩
      ·first| exact HB.out.symm| (rw[HB.out];simp;omega)
      ·exact(Below.refl _ _).alloc (Nat.le_refl _) _
    ·skip
     have Lg:0<nk+nl:=by omega
     have HB:Hid (aS 2 i t ks nl=false):=by show _=_;unfold aS aZ;rw[jJ.out];(by_cases oI:nk=0<;>by_cases rV:nl=0<;>first| (exfalso;omega)| simp[oI,rV])
     go_enter Tryz.func100,Tryz.ntmps100;go_wp2;go_ret;refine⟨ai ?_, ?_⟩
     ·first| exact HB.out.symm| (rw[HB.out];simp;omega)
     ·exact(Below.refl _ _).alloc (Nat.le_refl _) _
   ·skip
    by_cases DT:k=3
    ·skip
     subst DT
     by_cases hA:nk+nl=0
     ·skip
      obtain rfl:nk=0:=by omega
      obtain rfl:nl=0:=by omega
      by_cases hi:i=0
      ·skip
       subst hi
       cases bH:letters t with
       | true=>
        rw[gB.1 bH]at hB;have HB:Hid (aS 3 0 t ks 0=true):=by show _=_;unfold aS aZ;rw[jJ.out];simp[*]
        go_enter Tryz.func100,Tryz.ntmps100;go_wp2_with(go_at_call 36;refine hB.mono ?_;rintro x w2 ⟨rfl,rfl⟩);go_ret;refine⟨ai ?_, ?_⟩
        ·first| exact HB.out.symm| (rw[HB.out];simp;omega)
        ·exact(Below.refl _ _).alloc (Nat.le_refl _) _
       | false=>
        obtain⟨bp,hbp⟩:=gB.2 bH;rw[hbp]at hB;have HB:Hid (aS 3 0 t ks 0=false):=by show _=_;unfold aS aZ;rw[jJ.out];simp[*]
        go_enter Tryz.func100,Tryz.ntmps100;go_wp2_with(go_at_call 36;refine hB.mono ?_;rintro x w2 ⟨rfl,rfl⟩);go_ret;refine⟨ai ?_, ?_⟩
        ·first| exact HB.out.symm| (rw[HB.out];simp;omega)
        ·exact(Below.refl _ _).alloc (Nat.le_refl _) _
      ·skip
       have HB:Hid (aS 3 i t ks 0=false):=by show _=_;unfold aS aZ;rw[jJ.out];simp[*]
       go_enter Tryz.func100,Tryz.ntmps100;go_wp2;go_ret;refine⟨ai ?_, ?_⟩
       ·first| exact HB.out.symm| (rw[HB.out];simp;omega)
       ·exact(Below.refl _ _).alloc (Nat.le_refl _) _
     ·skip
      have Lg:0<nk+nl:=by omega
      have HB:Hid (aS 3 i t ks nl=false):=by show _=_;unfold aS aZ;rw[jJ.out];(by_cases oI:nk=0<;>by_cases rV:nl=0<;>first| (exfalso;omega)| simp[oI,rV])
      go_enter Tryz.func100,Tryz.ntmps100;go_wp2;go_ret;refine⟨ai ?_, ?_⟩
      ·first| exact HB.out.symm| (rw[HB.out];simp;omega)
      ·exact(Below.refl _ _).alloc (Nat.le_refl _) _
    ·skip
     by_cases xS:k=4
     ·skip
      subst xS
      by_cases hA:nk=0
      ·skip
       subst hA
       by_cases hi:i=0
       ·skip
        subst hi
        by_cases hT:t.size=0
        ·skip
         rw[decide_eq_true hT]at hn;have HB:Hid (aS 4 0 t ks nl=true):=by show _=_;unfold aS aZ;rw[jJ.out];simp[*]
         go_enter Tryz.func100,Tryz.ntmps100;go_wp2;go_ret;refine⟨ai ?_, ?_⟩
         ·first| exact HB.out.symm| (rw[HB.out];simp;omega)
         ·exact(Below.refl _ _).alloc (Nat.le_refl _) _
        ·skip
         rw[decide_eq_false hT]at hn;have HB:Hid (aS 4 0 t ks nl=false):=by show _=_;unfold aS aZ;rw[jJ.out];simp[*]
         go_enter Tryz.func100,Tryz.ntmps100;go_wp2;go_ret;refine⟨ai ?_, ?_⟩
         ·first| exact HB.out.symm| (rw[HB.out];simp;omega)
         ·exact(Below.refl _ _).alloc (Nat.le_refl _) _
       ·skip
        have HB:Hid (aS 4 i t ks nl=false):=by show _=_;unfold aS aZ;rw[jJ.out];simp[*]
        go_enter Tryz.func100,Tryz.ntmps100;go_wp2;go_ret;refine⟨ai ?_, ?_⟩
        ·first| exact HB.out.symm| (rw[HB.out];simp;omega)
        ·exact(Below.refl _ _).alloc (Nat.le_refl _) _
      ·skip
       have Lg:0<nk:=by omega
       have HB:Hid (aS 4 i t ks nl=false):=by show _=_;unfold aS aZ;rw[jJ.out];simp[*]
       go_enter Tryz.func100,Tryz.ntmps100;go_wp2;go_ret;refine⟨ai ?_, ?_⟩
       ·first| exact HB.out.symm| (rw[HB.out];simp;omega)
       ·exact(Below.refl _ _).alloc (Nat.le_refl _) _
     ·skip
      by_cases CZ:k=5
      ·skip
       subst CZ
       by_cases hA:nk=nl
       ·skip
        subst hA
        by_cases hi:i=0
        ·skip
         subst hi
         by_cases hT:t.size=0
         ·skip
          rw[decide_eq_true hT]at hn;have HB:Hid (aS 5 0 t ks nk=fe ks):=by show _=_;unfold aS aZ;rw[jJ.out];simp[*]
          go_enter Tryz.func100,Tryz.ntmps100;go_wp2_with(go_at_call 128;refine hK.mono ?_;rintro x w2 ⟨rfl,aT⟩);go_ret;refine⟨ai ?_, ?_⟩
          ·first| exact HB.out.symm| (rw[HB.out];simp;omega)
          ·exact aj ((Below.refl _ _).alloc (Nat.le_refl _) _) aT
         ·skip
          rw[decide_eq_false hT]at hn;have HB:Hid (aS 5 0 t ks nk=false):=by show _=_;unfold aS aZ;rw[jJ.out];simp[*]
          go_enter Tryz.func100,Tryz.ntmps100;go_wp2;go_ret;refine⟨ai ?_, ?_⟩
          ·first| exact HB.out.symm| (rw[HB.out];simp;omega)
          ·exact(Below.refl _ _).alloc (Nat.le_refl _) _
        ·skip
         have HB:Hid (aS 5 i t ks nk=false):=by show _=_;unfold aS aZ;rw[jJ.out];simp[*]
         go_enter Tryz.func100,Tryz.ntmps100;go_wp2;go_ret;refine⟨ai ?_, ?_⟩
         ·first| exact HB.out.symm| (rw[HB.out];simp;omega)
         ·exact(Below.refl _ _).alloc (Nat.le_refl _) _
       ·skip
        have HB:Hid (aS 5 i t ks nl=false):=by show _=_;unfold aS aZ;rw[jJ.out];simp[*]
        go_enter Tryz.func100,Tryz.ntmps100;go_wp2;go_ret;refine⟨ai ?_, ?_⟩
        ·first| exact HB.out.symm| (rw[HB.out];simp;omega)
        ·exact(Below.refl _ _).alloc (Nat.le_refl _) _
      ·skip
       have HB:Hid (aS k i t ks nl=false):=by show _=_;unfold aS aZ;rw[jJ.out];simp[*]
       go_enter Tryz.func100,Tryz.ntmps100;go_wp2;go_ret;refine⟨ai ?_, ?_⟩
       ·first| exact HB.out.symm| (rw[HB.out];simp;omega)
       ·exact(Below.refl _ _).alloc (Nat.le_refl _) _
def Cn(d:Nat):Prop:=∀(w:World) (O:Nat->Prop) (j:J) (k i most:Int) (t:ByteArray) (pk pl:Option Addr) (nk ck nl cl:Nat),(∀x,O x->x<w.heap.size)->most=(d:Int)->d<=100->szJ d j=true→
 isJ O w j [.int .i64 k,.int .i64 i,.string t,.slice pk nk ck,.slice pl nl cl]→
 Calls Tryz.prog 71 #[.agg #[.int .i64 k,.int .i64 i,.string t,.slice pk nk ck,.slice pl nl cl],.int .i64 most] w fun x w'=>x=.returned (.bool (goodJ d j))/\Below w.heap.size w w'
theorem Jk:Cn 0:=by
 intro w O j k i most t pk pl nk ck nl cl hO hm _ _ _;subst hm;go_enter Tryz.func71,Tryz.ntmps71;go_wp2;go_ret;exact⟨by unfold goodJ;rfl,(Below.refl _ _).alloc (Nat.le_refl _) _⟩
theorem Jl{d:Nat}(V:Cn d):Cn (d+1):=by
 intro w O j k i most t pk pl nk ck nl cl hO hm hd fq hj;obtain⟨kx,ix,tx,ks,l⟩:=j;unfold isJ at hj;obtain⟨VW,R8,VX,zD,e,hk,hl,hs⟩:=hj;simp only[List.cons.injEq,Value.int.injEq,Value.string.injEq,Value.slice.injEq,true_and,and_true]at e;obtain⟨rfl,rfl,rfl,⟨rfl,rfl,rfl⟩,rfl,rfl,rfl⟩:=e;unfold szJ at fq;simp only[Bool.and_eq_true,decide_eq_true_eq]at fq;obtain⟨htz,qf,BG,su,Qn⟩:=fq;have HLS:Hid (l.all (szJ d)=true):=Qn;have Gg:1<=most:=by omega
 have hm2:most<=101:=by omega
 have HM:Hid (most - 1=(d:Int)):=by show _=_;omega
 have HDL:Hid (d<=100):=by show _<=_;omega
 have HGS:Hid (goodJ (d+1) (.mk k i t ks l)=(aS k i t ks l.length&&l.all (goodJ d))):=rC d k i t ks l;clear hm hd Qn;obtain⟨nk,nz⟩:∃n,ks.length=n:=⟨_,rfl⟩;obtain⟨nl,oo⟩:∃n,l.length=n:=⟨_,rfl⟩;have xH:Hid (l.length=nl):=oo;rw[oo]at HGS;obtain⟨wB,ug⟩:∃wB,wB=w.alloc (.cells #[.int .i64 k,.int .i64 i,.string t,.slice pk nk ck,.slice pl nl cl] 25):=⟨_,rfl⟩;have bS:Below w.heap.size w wB:=by rw[ug];exact(Below.refl _ _).alloc (Nat.le_refl _) _
 have hA:wB.heap[w.heap.size]?=some (.cells #[.int .i64 k,.int .i64 i,.string t,.slice pk nk ck,.slice pl nl cl] 25 (0,0)):=by rw[ug];exact heap_alloc_new _ _
 have hsB:w.heap.size<wB.heap.size:=(Array.getElem?_eq_some_iff.1 hA).1;have yK:=Nh (w:=wB) (O:=O) k i t ks pk pl nk ck nl cl nz (hk.carry fun b hb=>⟨hb,bS.block b (hO b hb)⟩) (fun b hb=>Nat.lt_of_lt_of_le (hO b hb) bS.size) (by rw[<-nz];exact qf) (by rw[<-oo];exact su) (fun x hx=>of_decide_eq_true (List.all_eq_true.1 BG x hx)) htz;rw[nz,oo];have zjR:nl<=100000:=by rw[<-oo];exact su
 have CX:nl<=cl:=by rw[<-oo];exact hl
 have UW:Hid (∀W:World,Below wB.heap.size wB W->∀n v, [Value.int .i64 k,.int .i64 i,.string t,.slice pk nk ck,.slice pl nl cl][n]?=some v->W.cell? ⟨w.heap.size,n,none⟩=some v):=fun W hW n v hv=>
  (World.cell?_of_block (a:=⟨w.heap.size,n,none⟩) (hW.block w.heap.size hsB)).trans (a_ (cur:= [.int .i64 k,.int .i64 i,.string t,.slice pk nk ck,.slice pl nl cl]) hA n v hv)
 clear nz oo qf BG su htz hk hl hA
 cases hsb:aS k i t ks nl with
 | false=>
  rw[hsb]at yK HGS;rw[ug]at yK;go_enter Tryz.func71,Tryz.ntmps71;go_wp2_with(go_at_call 100;refine yK.mono ?_;rintro x w2 ⟨rfl,aT⟩);go_ret;rw[<-ug]at aT;exact⟨ai HGS.out.symm,aj bS aT⟩
 | true=>
  rw[hsb,Bool.true_and]at HGS;rw[hsb,ug]at yK;go_enter Tryz.func71,Tryz.ntmps71;go_wp2_with(go_at_call 100;refine yK.mono ?_;rintro x w2 ⟨rfl,aT⟩);rw[<-ug]at aT;clear ug yK hsb
  go_loopw [5] (fun v wr=>∃m:Nat,v=.int .i64 m/\m<=nl/\Hid ((l.take m).all (goodJ d)=true)/\Below wB.heap.size wB wr) (fun v _=>nl - (intOf v).toNat)
  case atStart=>exact⟨0,rfl,Nat.zero_le _,rfl,aT⟩
  case round=>
   obtain⟨m,rfl,hm,HT,dA⟩:=hrel;have a4:=UW.out wr dA 4 _ rfl
   by_cases zu:m<nl
   ·have oH:(m:Int)<(nl:Int):=by omega
    have og:m<l.length:=by rw[xH.out];exact zu
    have F_:Hid (m<l.length):=og;obtain⟨lb,lo,cs,vM,U3,bA,ja⟩:=isJs.at l 0 m hs og;subst vM;obtain⟨x0,x1,x2,p3,n3,c3,p4,n4,c4,rfl⟩:=dI ja;have kW:=fI bS (by omega) dA;have rT:=kW.block lb (hO _ U3);have cc:∀n v, [Value.int .i64 x0,.int .i64 x1,.string x2,.slice p3 n3 c3,.slice p4 n4 c4][n]?=some v->wr.cell? ⟨lb,lo+m*5+n,none⟩=some v:=fun n v h=>by
     have:=bA n v h;rw[Nat.zero_add]at this;exact(World.cell?_of_block (a:=⟨lb,lo+m*5+n,none⟩) rT).trans this
    have y0:wr.cell? ⟨lb,lo+m*5,none⟩=some (.int .i64 x0):=cc 0 _ rfl;have y1:=cc 1 _ rfl;have y2:=cc 2 _ rfl;have y3:=cc 3 _ rfl;have y4:=cc 4 _ rfl;have hV:=V wr O (l.getD m J.zero) x0 x1 (most - 1) x2 p3 p4 n3 c3 n4 c4 (fun b hb=>Nat.lt_of_lt_of_le (hO b hb) kW.size) HM.out HDL.out (nP HLS.out og) (ja.carry fun b hb=>⟨hb,kW.block b (hO b hb)⟩);clear cc bA og ja rT
    cases hgj:goodJ d (l.getD m J.zero)with
    | true=>
     rw[hgj]at hV;go_wp2_with(go_at_call 71;refine hV.mono ?_;rintro x w4 ⟨rfl,dB⟩);go_roundw
     case rel=>exact⟨m+1,by go_num,zu,by show _=_;rw[xW F_.out,HT.out,hgj];rfl,fI dA dA.size dB⟩
     case measure=>simp[intOf];omega
    | false=>
     rw[hgj]at hV;go_wp2_with(go_at_call 71;refine hV.mono ?_;rintro x w4 ⟨rfl,dB⟩);go_ret;exact⟨ai (by rw[HGS.out];exact(Ko F_.out hgj).symm),fI bS (by omega) (fI dA dA.size dB)⟩
   ·obtain rfl:m=nl:=by omega
    go_wp2;go_ret;have ht:=HT.out;rw[List.take_of_length_le (by rw[xH.out];omega)]at ht;exact⟨ai (by rw[HGS.out];exact ht.symm),fI bS (by omega) dA⟩
theorem Qo:∀d,Cn d
 | 0=>Jk
 | d+1=>Jl (Qo d)
theorem uZ{w:World}{O:Nat->Prop}{j:J}{k i:Int}{t:ByteArray}{pk pl:Option Addr}{nk ck nl cl:Nat}(hO:∀x,O x->x<w.heap.size)(fq:szJ 12 j=true)
    (hj:isJ O w j [.int .i64 k,.int .i64 i,.string t,.slice pk nk ck,.slice pl nl cl]):
    Calls Tryz.prog 37 #[.agg #[.int .i64 k,.int .i64 i,.string t,.slice pk nk ck,.slice pl nl cl]] w fun x w'=>x=.returned (.bool (goodJ 12 j))/\Below w.heap.size w w':=by
 have bS:Below w.heap.size w (w.alloc (.cells #[.int .i64 k,.int .i64 i,.string t,.slice pk nk ck,.slice pl nl cl] 25)):=(Below.refl _ _).alloc (Nat.le_refl _) _;have hV:=Qo 12 (w.alloc (.cells #[.int .i64 k,.int .i64 i,.string t,.slice pk nk ck,.slice pl nl cl] 25)) O j k i 12 t pk pl nk ck nl cl (fun b hb=>Nat.lt_of_lt_of_le (hO b hb) bS.size) rfl (by decide) fq (hj.carry fun b hb=>⟨hb,bS.block b (hO b hb)⟩);go_enter Tryz.func37,Tryz.ntmps37;go_wp2_with(go_at_call 71;refine hV.mono ?_;rintro x w4 ⟨rfl,dB⟩);go_ret;exact⟨rfl,aj bS dB⟩
theorem Qp:∀(n:Nat) (P:List Nat),P.Nodup->(∀i∈P,i<n)->P.length<=n
 | 0,P,_,h=>by
  cases P with
  | nil=>exact Nat.le_refl _
  | cons x r=>exact absurd (h x (by simp)) (by omega)
 | n+1,P,OB,h=>by
  have h1:(P.erase n).length<=n:=Qp n (P.erase n) (OB.erase n) fun i hi=>by
   have h2:=h i (List.mem_of_mem_erase hi);have h3:i≠n:=fun e=>by subst e;exact(OB.not_mem_erase) hi
   omega
  have h4:=List.length_erase (a:=n) (l:=P)
  split at h4<;>omega
theorem Bd:∀(n:Nat) (P:List Nat),(∀j,j<n->j∈P)->n<=P.length
 | 0,_,_=>Nat.zero_le _
 | n+1,P,h=>by
  have h1:n<=(P.erase n).length:=Bd n (P.erase n) fun j hj=>(List.mem_erase_of_ne (by omega)).2 (h j (by omega));have h2:=List.length_erase_of_mem (h n (by omega));have h3:0<P.length:=List.length_pos_of_mem (h n (by omega));omega
theorem yM:∀(n:Nat) (P:List Nat),P.Nodup->(∀i∈P,i<n)->P.length=n->P.Perm (List.range n)
 | 0,P,_,_,h=>by
  obtain rfl:P= []:=List.eq_nil_of_length_eq_zero h;exact List.Perm.refl _
 | n+1,P,OB,bH,hl=>by
  have BZ:n∈P:=by
   refine Classical.byContradiction fun hn=> ?_;have:=Qp n P OB fun i hi=>by
    have:=bH i hi;have:i≠n:=fun e=>hn (e ▸ hi);omega
   omega
  have h1:=yM n (P.erase n) (OB.erase n) (fun i hi=>by
   have h2:=bH i (List.mem_of_mem_erase hi);have h3:i≠n:=fun e=>by subst e;exact(OB.not_mem_erase) hi
   omega) (by rw[List.length_erase_of_mem BZ];omega)
  rw[List.range_succ];exact(List.perm_cons_erase BZ).trans ((h1.cons n).trans (List.perm_append_singleton n (List.range n)).symm)
structure u_(ks:List ByteArray)(P:List Nat):Prop where
 nd:P.Nodup
 lt:∀i∈P,i<ks.length
 up:P.Pairwise (fun i j=>iN (aC ks i) (aC ks j)=true)
 over:∀i∈P,∀j,j<ks.length->j∉P->iN (aC ks i) (aC ks j)=true
theorem u_.nil(ks:List ByteArray):u_ ks []:=⟨List.nodup_nil,fun i h=>(by cases h),List.Pairwise.nil,fun i h=>(by cases h)⟩
theorem u_.snoc{ks:List ByteArray}{P:List Nat}(h:u_ ks P){m:Nat}(hm:m<ks.length)(hn:m∉P)(Vw:∀j,j<ks.length->j∉P->j=m\/ iN (aC ks m) (aC ks j)=true):u_ ks (P++ [m]):=by
 refine⟨?_,fun i hi=> ?_, ?_,fun i hi j hj hnj=> ?_⟩
 ·unfold List.Nodup;rw[List.pairwise_append];exact⟨h.nd,List.pairwise_singleton _ _,fun a ha b hb=>by rw[List.mem_singleton.1 hb];exact fun e=>hn (e ▸ ha)⟩
 ·rcases List.mem_append.1 hi with hi| hi
  ·exact h.lt i hi
  ·rw[List.mem_singleton.1 hi];exact hm
 ·rw[List.pairwise_append];exact⟨h.up,List.pairwise_singleton _ _,fun a ha b hb=>by rw[List.mem_singleton.1 hb];exact h.over a ha m hm hn⟩
 ·have hnP:j∉P:=fun e=>hnj (List.mem_append_left _ e)
  rcases List.mem_append.1 hi with hi| hi
  ·exact h.over i hi j hj hnP
  ·rw[List.mem_singleton.1 hi]
   rcases Vw j hj hnP with e| e
   ·exact absurd (by rw[e];simp) hnj
   ·exact e
theorem u_.full{ks:List ByteArray}{P:List Nat}{l:List J}(h:u_ ks P)(dP:P.length=ks.length)(su:ks.length=l.length)(hd:ks.Pairwise (· ≠ ·)):zh ks l P=eT (ks.zip l):=by
 have hp:=yM ks.length P h.nd h.lt dP;have OA:(zh ks l P).Perm (ks.zip l):=by
  rw[<-Ai ks l su];exact hp.map _
 have hpw:(ks.zip l).Pairwise fun x y=>x.1≠y.1:=by
  have:((ks.zip l).map (·.1)).Pairwise (· ≠ ·):=by rw[List.map_fst_zip (by omega)];exact hd
  exact List.pairwise_map.1 this
 refine xL _ _ ?_ (j6 _ hpw) (OA.trans (jq _).symm);unfold zh;rw[List.map_map];exact xM _ P h.up
def dX(ks:List ByteArray)(P:List Nat)(i:Nat)(v:Int):Prop:=
 (v= -1/\∀j,j<i->j∈P)\/ ∃m:Nat,v=m/\m<i/\m∉P/\∀j,j<i->j∉P->j=m\/ iN (aC ks m) (aC ks j)=true
section
variable {ks : List ByteArray} {P : List Nat} {i : Nat} {v : Int}
theorem dX.zero:dX ks P 0 (-1):=.inl ⟨rfl,fun j h=>absurd h (by omega)⟩
theorem dX.skip(h:dX ks P i v)(hi:i∈P):dX ks P (i+1) v:=by
 rcases h with⟨h1,h2⟩| ⟨m,h1,h2,h3,h4⟩
 ·refine .inl ⟨h1,fun j hj=> ?_⟩
  by_cases e:j=i
  ·rw[e];exact hi
  ·exact h2 j (by omega)
 ·refine .inr ⟨m,h1,by omega,h3,fun j hj hn=> ?_⟩
  by_cases e:j=i
  ·exact absurd (e ▸ hi) hn
  ·exact h4 j (by omega) hn
theorem dX.first(h:dX ks P i (-1))(hi:i∉P):dX ks P (i+1) i:=by
 rcases h with⟨_,h2⟩| ⟨m,h1,_⟩
 ·refine .inr ⟨i,rfl,by omega,hi,fun j hj hn=>.inl ?_⟩
  by_cases e:j=i
  ·exact e
  ·exact absurd (h2 j (by omega)) hn
 ·omega
theorem dX.less{m:Nat}(h:dX ks P i m)(hi:i∉P)(hl:iN (aC ks i) (aC ks m)=true):dX ks P (i+1) i:=by
 rcases h with⟨h1,_⟩| ⟨m',h1,h2,h3,h4⟩
 ·omega
 ·obtain rfl:m=m':=by omega
  refine .inr ⟨i,rfl,by omega,hi,fun j hj hn=> ?_⟩
  by_cases e:j=i
  ·exact .inl e
  ·right
   rcases h4 j (by omega) hn with e'| e'
   ·rw[e'];exact hl
   ·exact iB hl e'
theorem dX.same{m:Nat}(h:dX ks P i m)(hl:iN (aC ks i) (aC ks m)=false)(sN:m<i->aC ks m≠aC ks i):dX ks P (i+1) m:=by
 rcases h with⟨h1,_⟩| ⟨m',h1,h2,h3,h4⟩
 ·omega
 ·obtain rfl:m=m':=by omega
  refine .inr ⟨m,rfl,by omega,h3,fun j hj hn=> ?_⟩
  by_cases e:j=i
  ·right
   rw[e]
   rcases mg (sN h2)with h'| h'
   ·exact h'
   ·rw[h']at hl;cases hl
  ·exact h4 j (by omega) hn
theorem dX.done(h:dX ks P ks.length v)(hP:u_ ks P)(dP:P.length<ks.length):∃m:Nat,v=m/\m<ks.length/\m∉P/\u_ ks (P++ [m]):=by
 rcases h with⟨_,h2⟩| ⟨m,h1,h2,h3,h4⟩
 ·have:=Bd ks.length P h2;omega
 ·exact⟨m,h1,h2,h3,hP.snoc h2 h3 h4⟩
end
theorem bytesLess_eq:∀x y:List UInt8,Op.bytesLess x y=lessB x y
 | [], []=>rfl
 | [],_::_=>rfl
 | _::_, []=>rfl
 | a::x,b::y=>by
  unfold Op.bytesLess lessB;rw[bytesLess_eq x y]
  cases h:decide (a=b)<;>simp_all
theorem EY(a b:ByteArray):Op.bytesLess a.toList b.toList=iN a b:=by
 rw[bytesLess_eq];unfold iN;rw[Lib.toList_data,Lib.toList_data]
def Eb(O:Nat->Prop)(b D:Nat)(vk vl:Value)(w:World):Nat->Prop:=fun k=>O k\/ (b+3<=k/\k<w.heap.size/\vk.ownBlock≠some k/\vl.ownBlock≠some k/\k≠D)
structure OI(O:Nat->Prop)(w:World)(b D:Nat)(dn:List Bool)(mI:Array Value)(c0 c1 c2:Value)(Sk:List ByteArray)(Sv:List J)(vk vl:Value)(W:World):Prop where
 box:W.heap[b]?=some (.cells mI 25 (0,0))
 res:W.heap[b+1]?=some (.cells #[.int .i64 0,.int .i64 0,.string ⟨#[]⟩,.slice none 0 0,.slice none 0 0] 25 (0,0))
 obj:W.heap[b+2]?=some (.cells #[c0,c1,c2,vk,vl] 25 (0,0))
 keys:W.ownsRow (b+3) 9 1 vk Sk.length (Sk.map Value.string)
 eG:∃xs,W.ownsRow (b+3) 25 5 vl Sv.length xs/\isRow (Eb O b D vk vl W) W Sv xs
 S_:D=0\/ (b+3<=D/\W.heap[D]?=some (.cells (dn.map Value.bool).toArray 4 (0,0)))
 ne:∀i,vk.ownBlock=some i->vl.ownBlock≠some i
 nek:vk.ownBlock≠some D
 nel:vl.ownBlock≠some D
 low:∀k,O k->k<b
 below:Below b w W
 at':b=w.heap.size
section
variable {O : Nat -> Prop} {w W W2 W4 : World} {b D : Nat} {dn : List Bool} {mI : Array Value} {c0 c1 c2 : Value} {Sk : List ByteArray} {Sv : List J} {vk vl jO iq : Value}
theorem OI.size(h:OI O w b D dn mI c0 c1 c2 Sk Sv vk vl W):b+2<W.heap.size:=(Array.getElem?_eq_some_iff.1 h.obj).1
theorem OI.more(h:OI O w b D dn mI c0 c1 c2 Sk Sv vk vl W)(hb:Below W.heap.size W W4):OI O w b D dn mI c0 c1 c2 Sk Sv vk vl W4:=by
 have hs:=h.size;have O3:=hb.size;obtain⟨xs,h1,h2⟩:=h.eG;have kp:av (fun _=>False) W W4:=av.aW hb;refine⟨(hb.block b (by omega)).trans h.box,(hb.block (b+1) (by omega)).trans h.res,(hb.block (b+2) (by omega)).trans h.obj,aX h.keys kp fun _ _ h=>h,⟨xs,aX h1 kp fun _ _ h=>h,h2.carry fun k hk=> ?_⟩, ?_,h.ne,h.nek,h.nel,h.low,h.below.trans ⟨hb.os,hb.tape,hb.output,hb.size,fun k hk=>hb.block k (by omega)⟩,h.at'⟩
 ·rcases hk with hk| hk
  ·have:=h.low k hk;exact⟨.inl hk,hb.block k (by omega)⟩
  ·exact⟨.inr ⟨hk.1,by have:=hk.2.1;omega,hk.2.2⟩,hb.block k hk.2.1⟩
 ·rcases h.S_ with h'| ⟨h',KG⟩
  ·exact .inl h'
  ·exact .inr ⟨h',(hb.block D (Array.getElem?_eq_some_iff.1 KG).1).trans KG⟩
theorem OI.drew(h:OI O w b D dn mI c0 c1 c2 Sk Sv vk vl W):OI O w b D dn mI c0 c1 c2 Sk Sv vk vl W.drew:=h.more ⟨rfl,rfl,rfl,Nat.le_refl _,fun _ _=>rfl⟩
theorem pY{o:Obj}{row:Option Nat}{f k:Nat}{v:Value}(hg:(W.alloc o).grownBy W2 row)(hk:k<W.heap.size)(hr:row≠some k)(hb:k≠b+2):(W2.setCell ⟨b+2,f,none⟩ v).heap[k]?=W.heap[k]?:=by
 have K3:av (One (b+2)) W2 (W2.setCell ⟨b+2,f,none⟩ v):=av.setCell (av.refl _ _) (fun _=>(rfl:b+2=b+2)) _;have:=hg.size;simp at this;rw[K3.block k (by omega) (by unfold One;exact hb),bz hg hk hr]
theorem OI.key(h:OI O w b D dn mI c0 c1 c2 Sk Sv vk vl W){x:ByteArray}{o:Obj}(aL:W2.ownsRow (b+3) 9 1 jO (Sk.length+1) (Sk.map Value.string++ [.string x]))(hg:(W.alloc o).grownBy W2 vk.ownBlock)(iC:jO.ownBlock=vk.ownBlock\/ jO.ownBlock=some (W.alloc o).heap.size):
    W2.cell? ⟨b+2,3,none⟩=some vk/\W2.frozen? ⟨b+2,3,none⟩=false/\OI O w b D dn mI c0 c1 c2 (Sk++ [x]) Sv jO vl (W2.setCell ⟨b+2,3,none⟩ jO):=by
 have hs:=h.size;have pR:=aJ h.keys;obtain⟨xs,bM,eH⟩:=h.eG;have oq:=aJ bM;have hgs:=hg.size;simp at hgs;have ob:W2.heap[b+2]?=some (.cells #[c0,c1,c2,vk,vl] 25 (0,0)):=by
  rw[bz hg (by omega) (fun e=>by have:=pR _ e;omega)];exact h.obj
 have K3:av (One (b+2)) W2 (W2.setCell ⟨b+2,3,none⟩ jO):=av.setCell (av.refl _ _) (fun _=>(rfl:b+2=b+2)) _;have OC:=aJ aL;have new:∀i,jO.ownBlock=some i->vk.ownBlock=some i\/ W.heap.size<i:=fun i e=>by
  rcases iC with h1| h1
  ·exact .inl (h1 ▸ e)
  ·rw[h1]at e;have:=Option.some.inj e;simp at this;exact .inr (by omega)
 have carry:∀k,Eb O b D vk vl W k->Eb O b D jO vl (W2.setCell ⟨b+2,3,none⟩ jO) k/\(W2.setCell ⟨b+2,3,none⟩ jO).heap[k]?=W.heap[k]?:=by
  intro k hk
  rcases hk with hk| hk
  ·have:=h.low k hk;exact⟨.inl hk,pY hg (by omega) (fun e=>by have:=pR _ e;omega) (by omega)⟩
  ·refine⟨.inr ⟨hk.1,by have:=hk.2.1;simp;omega,fun e=> ?_,hk.2.2.2.1,hk.2.2.2.2⟩,pY hg hk.2.1 hk.2.2.1 (by have:=hk.1;omega)⟩
   rcases new k e with h'| h'
   ·exact hk.2.2.1 h'
   ·have:=hk.2.1;omega
 refine⟨fC ob,fZ ob 3,⟨?_, ?_, ?_, ?_,⟨xs, ?_,eH.carry carry⟩, ?_, ?_, ?_,h.nel,h.low, ?_,h.at'⟩⟩
 ·rw[pY hg (by omega) (fun e=>by have:=pR _ e;omega) (by omega)];exact h.box
 ·rw[pY hg (by omega) (fun e=>by have:=pR _ e;omega) (by omega)];exact h.res
 ·rw[heap_setCell_same _ (b+2) 3 _ _ _ ob];rfl
 ·rw[List.length_append,List.map_append];exact aX aL K3 fun k e=>by have:=OC k e;unfold One;omega
 ·exact aX (aX (bM.alloc o) (S:=fun k=>vk.ownBlock=some k) (av.gp hg fun _ _ e=>e) fun k e e'=>h.ne k e' e) K3 fun k e=>by have:=oq k e;unfold One;omega
 ·rcases h.S_ with h'| ⟨h',KG⟩
  ·exact .inl h'
  ·exact .inr ⟨h',by rw[pY hg (Array.getElem?_eq_some_iff.1 KG).1 h.nek (by omega)];exact KG⟩
 ·intro i e e'
  rcases new i e with h1| h1
  ·exact h.ne i h1 e'
  ·have:=(oq i e').2;omega
 ·intro e
  rcases new D e with h1| h1
  ·exact h.nek h1
  ·rcases h.S_ with h'| ⟨_,KG⟩
   ·omega
   ·have:=(Array.getElem?_eq_some_iff.1 KG).1;omega
 ·refine h.below.trans ⟨hg.os,hg.tape,hg.output,by simp;omega,fun k hk=>pY hg (by omega) (fun e=>by have:=pR _ e;omega) (by omega)⟩
theorem OI.val(h:OI O w b D dn mI c0 c1 c2 Sk Sv vk vl W){y:J}{cs xs:List Value}{o:Obj}(bM:W.ownsRow (b+3) 25 5 vl Sv.length xs)(eH:isRow (Eb O b D vk vl W) W Sv xs)(hy:isJ (Eb O b D vk vl W) W y cs)(aL:W2.ownsRow (b+3) 25 5 iq (Sv.length+1) (xs++cs))(hg:(W.alloc o).grownBy W2 vl.ownBlock)(iC:iq.ownBlock=vl.ownBlock\/ iq.ownBlock=some (W.alloc o).heap.size):
    W2.cell? ⟨b+2,4,none⟩=some vl/\W2.frozen? ⟨b+2,4,none⟩=false/\OI O w b D dn mI c0 c1 c2 Sk (Sv++ [y]) vk iq (W2.setCell ⟨b+2,4,none⟩ iq):=by
 have hs:=h.size;have pR:=aJ h.keys;have oq:=aJ bM;have hgs:=hg.size;simp at hgs;have ob:W2.heap[b+2]?=some (.cells #[c0,c1,c2,vk,vl] 25 (0,0)):=by
  rw[bz hg (by omega) (fun e=>by have:=oq _ e;omega)];exact h.obj
 have K3:av (One (b+2)) W2 (W2.setCell ⟨b+2,4,none⟩ iq):=av.setCell (av.refl _ _) (fun _=>(rfl:b+2=b+2)) _;have LD:=aJ aL;have new:∀i,iq.ownBlock=some i->vl.ownBlock=some i\/ W.heap.size<i:=fun i e=>by
  rcases iC with h1| h1
  ·exact .inl (h1 ▸ e)
  ·rw[h1]at e;have:=Option.some.inj e;simp at this;exact .inr (by omega)
 have carry:∀k,Eb O b D vk vl W k->Eb O b D vk iq (W2.setCell ⟨b+2,4,none⟩ iq) k/\(W2.setCell ⟨b+2,4,none⟩ iq).heap[k]?=W.heap[k]?:=by
  intro k hk
  rcases hk with hk| hk
  ·have:=h.low k hk;exact⟨.inl hk,pY hg (by omega) (fun e=>by have:=oq _ e;omega) (by omega)⟩
  ·refine⟨.inr ⟨hk.1,by have:=hk.2.1;simp;omega,hk.2.2.1,fun e=> ?_,hk.2.2.2.2⟩,pY hg hk.2.1 hk.2.2.2.1 (by have:=hk.1;omega)⟩
   rcases new k e with h'| h'
   ·exact hk.2.2.2.1 h'
   ·have:=hk.2.1;omega
 refine⟨bg ob,fZ ob 4,⟨?_, ?_, ?_, ?_,⟨xs++cs, ?_,isRow.snoc hy.zm (hy.carry carry) Sv xs (eH.carry carry)⟩, ?_, ?_,h.nek, ?_,h.low, ?_,h.at'⟩⟩
 ·rw[pY hg (by omega) (fun e=>by have:=oq _ e;omega) (by omega)];exact h.box
 ·rw[pY hg (by omega) (fun e=>by have:=oq _ e;omega) (by omega)];exact h.res
 ·rw[heap_setCell_same _ (b+2) 4 _ _ _ ob];rfl
 ·exact aX (aX (h.keys.alloc o) (S:=fun k=>vl.ownBlock=some k) (av.gp hg fun _ _ e=>e) fun k e e'=>h.ne k e e') K3 fun k e=>by have:=pR k e;unfold One;omega
 ·rw[List.length_append];exact aX aL K3 fun k e=>by have:=LD k e;unfold One;omega
 ·rcases h.S_ with h'| ⟨h',KG⟩
  ·exact .inl h'
  ·exact .inr ⟨h',by rw[pY hg (Array.getElem?_eq_some_iff.1 KG).1 h.nel (by omega)];exact KG⟩
 ·intro i e e'
  rcases new i e' with h1| h1
  ·exact h.ne i e h1
  ·have:=(pR i e).2;omega
 ·intro e
  rcases new D e with h1| h1
  ·exact h.nel h1
  ·rcases h.S_ with h'| ⟨_,KG⟩
   ·omega
   ·have:=(Array.getElem?_eq_some_iff.1 KG).1;omega
 ·refine h.below.trans ⟨hg.os,hg.tape,hg.output,by simp;omega,fun k hk=>pY hg (by omega) (fun e=>by have:=oq _ e;omega) (by omega)⟩
theorem OI.new(h:OI O w b D dn mI c0 c1 c2 Sk Sv vk vl W)(hb:Below W.heap.size W W4){y:J}{cs:List Value}(hy:isJ (fun k=>O k\/ qx W W4 k) W4 y cs):isJ (Eb O b D vk vl W4) W4 y cs:=by
 have hs:=h.size;have O3:=hb.size;obtain⟨xs,h1,_⟩:=h.eG;refine hy.carry fun k hk=>⟨?_,rfl⟩
 rcases hk with hk| hk
 ·exact .inl hk
 ·have e1:=hk.1;refine .inr ⟨by omega,hk.2,fun e=>by have:=(aJ h.keys k e).2;omega,fun e=>by have:=(aJ h1 k e).2;omega,fun e=> ?_⟩
  rcases h.S_ with h'| ⟨_,KG⟩
  ·omega
  ·have:=(Array.getElem?_eq_some_iff.1 KG).1;omega
theorem OI.marks(h:OI O w b 0 dn mI c0 c1 c2 Sk Sv vk vl W)(ds:List Bool):OI O w b W.heap.size ds mI c0 c1 c2 Sk Sv vk vl (W.alloc (.cells (ds.map Value.bool).toArray 4)):=by
 have hs:=h.size;have hb:Below W.heap.size W (W.alloc (.cells (ds.map Value.bool).toArray 4)):=(Below.refl _ _).alloc (Nat.le_refl _) _;obtain⟨xs,h1,h2⟩:=h.eG;have kp:av (fun _=>False) W (W.alloc (.cells (ds.map Value.bool).toArray 4)):=av.aW hb;refine⟨(hb.block b (by omega)).trans h.box,(hb.block (b+1) (by omega)).trans h.res,(hb.block (b+2) (by omega)).trans h.obj,aX h.keys kp fun _ _ h=>h,⟨xs,aX h1 kp fun _ _ h=>h,h2.carry fun k hk=> ?_⟩,.inr ⟨by omega,heap_alloc_new _ _⟩,h.ne,fun e=>by have:=(aJ h.keys _ e).2;omega,fun e=>by have:=(aJ h1 _ e).2;omega,h.low,h.below.trans ⟨hb.os,hb.tape,hb.output,hb.size,fun k hk=>hb.block k (by omega)⟩,h.at'⟩
 rcases hk with hk| hk
 ·have:=h.low k hk;exact⟨.inl hk,hb.block k (by omega)⟩
 ·exact⟨.inr ⟨hk.1,by have:=hk.2.1;simp;omega,hk.2.2.1,hk.2.2.2.1,by have:=hk.2.1;omega⟩,hb.block k hk.2.1⟩
theorem OI.mark(h:OI O w b D dn mI c0 c1 c2 Sk Sv vk vl W)(hD:b+3<=D)(m:Nat):OI O w b D (dn.set m true) mI c0 c1 c2 Sk Sv vk vl (W.setCell ⟨D,m,none⟩ (.bool true)):=by
 have hs:=h.size;obtain⟨xs,h1,h2⟩:=h.eG;have K3:av (One D) W (W.setCell ⟨D,m,none⟩ (.bool true)):=av.setCell (av.refl _ _) (fun _=>(rfl:D=D)) _;obtain⟨_,hd⟩:b+3<=D/\W.heap[D]?=some (.cells (dn.map Value.bool).toArray 4 (0,0)):=by
  rcases h.S_ with h'| h'
  ·omega
  ·exact h'
 have Ni:∀k,k<W.heap.size->k≠D->(W.setCell ⟨D,m,none⟩ (.bool true)).heap[k]?=W.heap[k]?:=fun k hk hn=>K3.block k hk (by unfold One;exact hn);refine⟨(Ni b (by omega) (by omega)).trans h.box,(Ni (b+1) (by omega) (by omega)).trans h.res,(Ni (b+2) (by omega) (by omega)).trans h.obj,aX h.keys K3 fun k e=>by unfold One;exact fun e'=>h.nek (e' ▸ e),⟨xs,aX h1 K3 fun k e=>by unfold One;exact fun e'=>h.nel (e' ▸ e),h2.carry fun k hk=> ?_⟩,.inr ⟨hD, ?_⟩,h.ne,h.nek,h.nel,h.low,h.below.trans ⟨rfl,rfl,rfl,by simp,fun k hk=>Ni k (by omega) (by omega)⟩,h.at'⟩
 ·rcases hk with hk| hk
  ·have:=h.low k hk;exact⟨.inl hk,Ni k (by omega) (by omega)⟩
  ·exact⟨.inr ⟨hk.1,by have:=hk.2.1;simp;omega,hk.2.2⟩,Ni k hk.2.1 hk.2.2.2.2⟩
 ·rw[heap_setCell_same _ D m _ _ _ hd]
  congr 2
  rw[<-Array.toList_inj];simp[List.map_set]
end
end Go.Proofs.YtldegjjaknelgaaGreatDoor

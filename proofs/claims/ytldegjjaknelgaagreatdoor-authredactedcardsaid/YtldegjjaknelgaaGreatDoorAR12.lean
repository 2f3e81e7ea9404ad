/- A part. -/
import Derived.Test.YtldegjjaknelgaaGreatDoorAR11
set_option maxRecDepth 100000
set_option maxHeartbeats 64000000
namespace Go.Proofs.YtldegjjaknelgaaGreatDoor
open Go.RowKit
theorem SV{d:Nat}{c:J}(h:szJ (d+1) c=true):szJ (d+1) (.mk 4 0 aN [] [c])=true:=by
 have:=lG d (d+1) c (by omega) h;unfold szJ;rw[show List.all [c] (szJ d)=true by rw[List.all_cons,this];rfl]
 rfl
theorem IQ{w:World}{O:Nat->Prop}{j:J}{k i:Int}{t:ByteArray}{pk pl:Option Addr}{nk ck nl cl:Nat}(hO:∀x,O x->x<w.heap.size)(fq:szJ 12 j=true)
    (hj:isJ O w j [.int .i64 k,.int .i64 i,.string t,.slice pk nk ck,.slice pl nl cl]):
    Calls Tryz.prog 105 #[.agg #[.int .i64 k,.int .i64 i,.string t,.slice pk nk ck,.slice pl nl cl]] w fun x w'=>x=.returned (.bool (dz j))/\Below w.heap.size w w':=by
 obtain⟨W3,vZ⟩:∃W3,W3=((w.alloc (.cells #[.int .i64 k,.int .i64 i,.string t,.slice pk nk ck,.slice pl nl cl] 25)).alloc (.cells #[.int .i64 k,.int .i64 i,.string t,.slice pk nk ck,.slice pl nl cl] 25)).alloc (.cells #[.int .i64 4,.int .i64 0,.string ⟨#[]⟩,.slice none 0 0,.slice (some ⟨w.heap.size+1,0,none⟩) 1 1] 25):=⟨_,rfl⟩;have bX:Below w.heap.size w W3:=by rw[vZ];exact(((Below.refl _ _).alloc (Nat.le_refl _) _).alloc (by simp) _).alloc (by simp;omega) _
 have hs3:W3.heap.size=w.heap.size+3:=by rw[vZ];simp
 have hm:W3.heap[w.heap.size+1]?=some (.cells #[.int .i64 k,.int .i64 i,.string t,.slice pk nk ck,.slice pl nl cl] 25 (0,0)):=by
  rw[vZ,Below.heap_alloc _ _ _ (by simp)];exact rh _ _
 have hj3:isJ (fun x=>O x\/ x=w.heap.size+1) W3 (.mk 4 0 aN [] [j]) [.int .i64 4,.int .i64 0,.string aN,.slice none 0 0,.slice (some ⟨w.heap.size+1,0,none⟩) 1 1]:=by
  unfold isJ;refine⟨none,0,some ⟨w.heap.size+1,0,none⟩,1,rfl,ig.nil _ _,Nat.le_refl _, ?_⟩;unfold isJs;refine⟨⟨_,0,_,rfl,.inr rfl,fun i v hi=> ?_,hj.carry fun x hx=>⟨.inl hx,bX.block x (hO x hx)⟩⟩,by unfold isJs;trivial⟩;rw[Nat.zero_mul,Nat.add_zero,Nat.zero_add];exact a_ (cur:= [_,_,_,_,_]) hm i v hi
 have hG:=xY (w:=W3) (fun x hx=>by rw[hs3];rcases hx with hx| hx;have:=hO x hx;omega;omega) (SV fq) hj3;have HF:Hid (dz j=(decide (k=5)&&goodJ 12 (.mk 4 0 aN [] [j]))):=by
  show _=_
  unfold dz
  cases j with
  | mk k' i' t' ks l=>
   unfold isJ at hj;obtain⟨_,_,_,_,e,_⟩:=hj
   cases e
   rfl
 rw[vZ]at hG bX;clear hm hj3 hs3 vZ
 by_cases hk:k=5
 ·subst hk;go_enter Tryz.func105,Tryz.ntmps105;go_wp2_with(go_at_call 110;refine hG.mono ?_;rintro x w2 ⟨rfl,aT⟩);go_ret;exact⟨ai (by rw[HF.out];rfl),aj bX aT⟩
 ·have Sd:decide (k=5)=false:=decide_eq_false hk;go_enter Tryz.func105,Tryz.ntmps105;go_wp2;go_ret;exact⟨ai (by rw[HF.out,Sd];rfl),bX⟩
theorem A8{O:Nat->Prop}{ks:List ByteArray}{p:Option Addr}{c:Nat}{w:World}(m:Nat)(gW:ig O w p c ks)(hO:∀k,O k->k<w.heap.size)(hl:ks.length<=100000)(BG:∀k∈ks,k.size<=1000000000):
    Calls Tryz.prog 106 #[.slice p ks.length c,.int .i64 m] w fun x w'=>x=.returned (.bool (bu m ks))/\Below w.heap.size w w':=by
 have hon:=PV gW hO hl BG;obtain⟨n,hn⟩:∃n,ks.length=n:=⟨_,rfl⟩;have HN:Hid (ks.length=n):=hn;have Mt:=gW.1;rw[hn]at hl Mt hon ⊢;clear hn
 by_cases mF:(m:Int)<(n:Int)
 ·have HF:Hid (bu m ks=false):=by
    show _=_
    unfold bu;rw[HN.out,decide_eq_false (by omega)];rfl
  clear hon;go_enter Tryz.func106,Tryz.ntmps106;go_wp2;go_ret;exact⟨ai HF.out.symm,Below.refl _ _⟩
 cases hd:noKeyTwice ks with
 | false=>
  have HF:Hid (bu m ks=false):=by
   show _=_
   unfold bu;rw[hd];simp
  rw[hd]at hon;go_enter Tryz.func106,Tryz.ntmps106;go_wp2_with(go_at_call 132;refine hon.mono ?_;rintro x w1 ⟨rfl,aP⟩);go_ret;exact⟨ai HF.out.symm,aP⟩
 | true=>
  have HE:Hid (bu m ks=ks.all Id.pK):=by
   show _=_
   unfold bu;rw[hd,HN.out,decide_eq_true (by omega)];rfl
  rw[hd]at hon;clear hd;go_enter Tryz.func106,Tryz.ntmps106;go_wp2_with(go_at_call 132;refine hon.mono ?_;rintro x w1 ⟨rfl,aP⟩)
  go_loopw [18] (fun i wr=>∃k:Nat,i=.int .i64 k/\k<=n/\Hid (∀j,j<k->Id.pK (ks.getD j aN)=true)/\Below w.heap.size w wr) (fun i _=>n - (intOf i).toNat)
  case atStart=>exact⟨0,rfl,Nat.zero_le _,fun j hj=>absurd hj (by omega),aP⟩
  case round=>
   obtain⟨k,rfl,hk,HG,hb⟩:=hrel
   by_cases bH:k<n
   ·have Ob:(k:Int)<(n:Int):=by omega
    have fG:k<ks.length:=by rw[HN.out];exact bH
    obtain⟨a,Wy,rX,rW⟩:=gW.2 k fG;subst Wy;have fF:wr.cell? (a.add k)=some (.string (ks.getD k aN)):=(World.cell?_of_block (by rw[bF];exact hb.block _ (hO _ rX))).trans rW;have BZ:ks.getD k aN∈ks:=by
     rw[List.getD_eq_getElem?_getD,List.getElem?_eq_getElem fG];exact List.getElem_mem _
    have OV:(ks.getD k aN).size<=1000000000:=BG _ BZ;have zb3:Hid (ks.getD k aN∈ks):=BZ;obtain⟨u,hu⟩:∃u,ks.getD k aN=u:=⟨_,rfl⟩;have HU:Hid (ks.getD k aN=u):=hu;rw[hu]at fF OV zb3;clear hu rW BZ fG;have hE:=Id.Af u wr (by omega)
    cases he:Id.pK u with
    | true=>
     have HEV:Hid (Id.pK u=true):=he;rw[he]at hE;clear he;go_wp2_with(go_at_call 133;refine hE.mono ?_;rintro x w2 ⟨rfl,aT⟩);go_roundw
     case rel=>exact⟨k+1,by go_num,bH,fun j hj=>(Nat.lt_succ_iff_lt_or_eq.1 hj).elim (HG.out j) (fun e=>by rw[e,HU.out];exact HEV.out),fI hb hb.size aT⟩
     case measure=>simp[intOf];omega
    | false=>
     have HF:Hid (bu m ks=false):=by
      show _=_
      rw[HE.out,List.all_eq_false];exact⟨u,zb3.out,by rw[he];decide⟩
     rw[he]at hE;go_wp2_with(go_at_call 133;refine hE.mono ?_;rintro x w2 ⟨rfl,aT⟩);go_ret;exact⟨ai HF.out.symm,fI hb hb.size aT⟩
   ·obtain rfl:k=n:=by omega
    have HT:Hid (bu m ks=true):=by
     show _=_
     rw[HE.out,List.all_eq_true];intro x hx;obtain⟨j,hj,rfl⟩:=List.getElem_of_mem hx;have:=HG.out j (by rw[<-HN.out];exact hj);rw[List.getD_eq_getElem?_getD,List.getElem?_eq_getElem hj]at this;exact this
    go_wp2;go_ret;exact⟨ai HT.out.symm,hb⟩
end Go.Proofs.YtldegjjaknelgaaGreatDoor

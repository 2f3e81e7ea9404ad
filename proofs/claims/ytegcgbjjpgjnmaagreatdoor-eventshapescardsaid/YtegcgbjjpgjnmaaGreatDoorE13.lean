/- A part. -/
import Derived.Test.YtegcgbjjpgjnmaaGreatDoorE12
import Derived.Lib.SlBytesConst
set_option maxRecDepth 100000
set_option maxHeartbeats 16000000
namespace Go.Proofs.YtegcgbjjpgjnmaaGreatDoor
open Go.RowKit
def szJ:Nat->J->Bool
 | 0,_=>true
 | d+1,.mk _ _ t ks l=>decide (t.size<=1000000000)&&(decide (ks.length<=100000)&&(ks.all (fun k=>decide (k.size<=1000000000))&&(decide (l.length<=100000)&&l.all (szJ d))))
def Ii(d:Nat):Prop:=∀(w:World) (O:Nat->Prop) (j:J) (k i deep:Int) (t:ByteArray) (pk pl:Option Addr) (nk ck nl cl:Nat),(∀x,O x->x<w.heap.size)->deep=13 - (d:Int)->szJ d j=true→
 isJ O w j [.int .i64 k,.int .i64 i,.string t,.slice pk nk ck,.slice pl nl cl]→
 Calls Tryz.prog 103 #[.agg #[.int .i64 k,.int .i64 i,.string t,.slice pk nk ck,.slice pl nl cl],.int .i64 deep] w fun x w'=>x=.returned (.bool (goodJ d j))/\Below w.heap.size w w'
theorem ae{a b c:World}(h:Below a.heap.size a b)(g:Below b.heap.size b c):Below a.heap.size a c:=h.trans ⟨g.os,g.tape,g.output,g.size,fun k hk=>g.block k (by have:=h.size;omega)⟩
theorem lG{α:Type}{P:α->Bool}{l:List α}{n:Nat}{z:α}(h:l.all P=true)(hn:n<l.length):P (l.getD n z)=true:=by
 rw[List.getD_eq_getElem?_getD,List.getElem?_eq_getElem hn];exact List.all_eq_true.1 h _ (List.getElem_mem hn)
theorem AU{P:J->Bool}{l:List J}{n:Nat}(hn:n<l.length):(l.take (n+1)).all P=((l.take n).all P&&P (l.getD n J.zero)):=by
 rw[gQ hn,List.all_append];simp
theorem NT{P:J->Bool}{l:List J}{n:Nat}(hn:n<l.length)(h:P (l.getD n J.zero)=false):l.all P=false:=by
 cases ha:l.all P with
 | false=>rfl
 | true=>rw[lG (z:=J.zero) ha hn]at h;cases h
theorem yG{d:Nat}(V:Ii d){w:World}{O:Nat->Prop}{l:List J}{pl:Option Addr}{cl:Nat}{deep:Int}(hO:∀x,O x->x<w.heap.size)(kT:deep=13 - (d:Int))(fI:l.all (szJ d)=true)(hj:isJs O w pl 0 l)(hc:l.length<=cl)(cB:l.length<=100000):
    Calls Tryz.prog 129 #[.slice pl l.length cl,.int .i64 deep] w fun x w'=>x=.returned (.bool (l.all (goodJ d)))/\Below w.heap.size w w':=by
 have HD:Hid (deep=13 - (d:Int)):=kT;clear kT;obtain⟨n,hn⟩:∃n,l.length=n:=⟨_,rfl⟩;have HN:Hid (l.length=n):=hn;rw[hn]at hc cB ⊢;clear hn;go_enter Tryz.func129,Tryz.ntmps129;go_wp2
 go_loopw [9] (fun i wr=>∃k:Nat,i=.int .i64 k/\k<=n/\(l.take k).all (goodJ d)=true/\Below w.heap.size w wr) (fun i _=>n - (intOf i).toNat)
 case atStart=>exact⟨0,rfl,Nat.zero_le _,rfl,Below.refl _ _⟩
 case round=>
  obtain⟨k,rfl,hk,VK,iB⟩:=hrel;have HAL:Hid ((l.take k).all (goodJ d)=true):=VK;clear VK
  by_cases gM:k<n
  ·have xK:k<l.length:=by rw[HN.out];exact gM
   have BU:Hid (k<l.length):=xK;obtain⟨lb,lo,cs,tY,xz,bY,jF⟩:=isJs.at l 0 k hj xK;subst tY;obtain⟨kv,iv,tv,pv,nv,cv,qv,mv,dv,rfl⟩:=dD jF;have jA:=iB.block lb (hO lb xz);have cc:∀m v, [Value.int .i64 kv,.int .i64 iv,.string tv,.slice pv nv cv,.slice qv mv dv][m]?=some v->wr.cell? ⟨lb,lo+k*5+m,none⟩=some v:=fun m v h=>by
    have:=bY m v h;rw[Nat.zero_add]at this;exact(World.cell?_of_block (a:=⟨lb,lo+k*5+m,none⟩) jA).trans this
   have y0:wr.cell? ⟨lb,lo+k*5,none⟩=some (.int .i64 kv):=cc 0 _ rfl;have y1:=cc 1 _ rfl;have y2:=cc 2 _ rfl;have y3:=cc 3 _ rfl;have y4:=cc 4 _ rfl;clear cc bY xK;have Gi:(k:Int)<(n:Int):=by omega
   have dP:Below w.heap.size w (wr.alloc (.cells #[.int .i64 kv,.int .i64 iv,.string tv,.slice pv nv cv,.slice qv mv dv] 25)):=iB.alloc iB.size _;have hV:=V (wr.alloc (.cells #[.int .i64 kv,.int .i64 iv,.string tv,.slice pv nv cv,.slice qv mv dv] 25)) O (l.getD k J.zero) kv iv deep tv pv qv nv cv mv dv (fun x hx=>Nat.lt_of_lt_of_le (hO x hx) dP.size) HD.out (lG fI BU.out) (jF.carry fun x hx=>⟨hx,dP.block x (hO x hx)⟩)
   cases hgj:goodJ d (l.getD k J.zero)with
   | true=>
    rw[hgj]at hV;go_wp2_with(go_at_call 103;refine hV.mono ?_;rintro x w4 ⟨rfl,dN⟩);go_roundw
    case rel=>exact⟨k+1,by go_num,gM,by rw[AU BU.out,HAL.out,hgj];rfl,dP.trans ⟨dN.os,dN.tape,dN.output,dN.size,fun x hx=>dN.block x (by have:=dP.size;omega)⟩⟩
    case measure=>simp[intOf];omega
   | false=>
    rw[hgj]at hV;go_wp2_with(go_at_call 103;refine hV.mono ?_;rintro x w4 ⟨rfl,dN⟩);go_ret;exact⟨av (NT BU.out hgj).symm,dP.trans ⟨dN.os,dN.tape,dN.output,dN.size,fun x hx=>dN.block x (by have:=dP.size;omega)⟩⟩
  ·obtain rfl:k=n:=by omega
   go_wp2;go_ret;have:=HAL.out;rw[List.take_of_length_le (by rw[HN.out];omega)]at this;exact⟨av this.symm,iB⟩
theorem LQ:Ii 0:=by
 intro w O j k i deep t pk pl nk ck nl cl hO kT fI hj;have UW:deep=13:=by omega
 clear kT;subst UW;have HG:Hid (goodJ 0 j=false):=by show _=_;unfold goodJ;rfl
 clear hj fI;go_enter Tryz.func103,Tryz.ntmps103;go_wp2;go_ret;exact⟨av HG.out.symm,(Below.refl _ _).alloc (Nat.le_refl _) _⟩
theorem E9(k i:Int)(t:ByteArray)(ks:List ByteArray)(l:List J):bare (.mk k i t ks l)=bO k i t ks.length l.length:=by unfold bare bO;rfl
theorem LU{d:Nat}(V:Ii d)(hd:d+1<=12):Ii (d+1):=by
 intro w O j k i deep t pk pl nk ck nl cl hO kT fI hj;have Cm:0<=deep:=by omega
 have qB:deep<=12:=by omega
 have HD:Hid (deep+1=13 - (d:Int)):=by show _=_;omega
 clear kT
 cases j with
 | mk k' i' t' ks l=>
  unfold isJ at hj;obtain⟨F7,DL,F8,uG,e,lM,DN,ny⟩:=hj
  cases e
  unfold szJ at fI;simp only[Bool.and_eq_true,decide_eq_true_eq]at fI;obtain⟨ht,gM,CB,uI,Ce⟩:=fI;have zbG:∀x∈ks,x.size<=1000000000:=fun x hx=>of_decide_eq_true (List.all_eq_true.1 CB x hx);have dP:Below w.heap.size w (w.alloc (.cells #[.int .i64 k,.int .i64 i,.string t,.slice pk ks.length ck,.slice pl l.length cl] 25)):=(Below.refl _ _).alloc (Nat.le_refl _) _;have bb:=Te k i t pk pl ks.length ck l.length cl (w.alloc (.cells #[.int .i64 k,.int .i64 i,.string t,.slice pk ks.length ck,.slice pl l.length cl] 25));have HB:Hid (goodJ (d+1) (.mk k i t ks l)=(bO k i t ks.length l.length&&
   (if k=0 then true else if k=1 then decide (i=0) || decide (i=1)else if k=2 then decide (-bK<=i)&&decide (i<=bK)else if k=3 then letters t else if k=4 then l.all (goodJ d)
    else if k=5 then decide (ks.length=l.length)&&(ks.all letters&&noKeyTwice ks)&&l.all (goodJ d)else false))):=by show _=_;rw[goodJ,E9]
  have bk:∀w2:World,Below (w.alloc (.cells #[.int .i64 k,.int .i64 i,.string t,.slice pk ks.length ck,.slice pl l.length cl] 25)).heap.size (w.alloc (.cells #[.int .i64 k,.int .i64 i,.string t,.slice pk ks.length ck,.slice pl l.length cl] 25)) w2→
      w2.heap[w.heap.size]?=some (.cells #[.int .i64 k,.int .i64 i,.string t,.slice pk ks.length ck,.slice pl l.length cl] 25 (0,0))/\Below w.heap.size w w2:=fun w2 h2=>
   ⟨by rw[h2.block w.heap.size (by simp)];exact heap_alloc_new _ _,dP.trans ⟨h2.os,h2.tape,h2.output,h2.size,fun x hx=>h2.block x (by simp;omega)⟩⟩
  clear CB
  cases iB:bO k i t ks.length l.length with
  | false=>
   have HG:Hid (goodJ (d+1) (.mk k i t ks l)=false):=by show _=_;rw[HB.out,iB];rfl
   rw[iB]at bb;go_enter Tryz.func103,Tryz.ntmps103;go_wp2_with(first
    | (go_at_call 127;refine bb.mono ?_;rintro x w2 ⟨rfl,bM⟩;obtain⟨hv,cK⟩:=bk w2 bM;clear bk;obtain⟨c0,c1,c2,c3,c4⟩:=ai hv))
   go_ret;exact⟨av HG.out.symm,cK⟩
  | true=>
   rw[iB]at bb HB;simp only[Bool.true_and]at HB
   by_cases k0:k=0
   ·subst k0;have HG:Hid (goodJ (d+1) (.mk 0 i t ks l)=true):=by show _=_;rw[HB.out];rfl
    go_enter Tryz.func103,Tryz.ntmps103;go_wp2_with(first
     | (go_at_call 127;refine bb.mono ?_;rintro x w2 ⟨rfl,bM⟩;obtain⟨hv,cK⟩:=bk w2 bM;clear bk;obtain⟨c0,c1,c2,c3,c4⟩:=ai hv))
    go_ret;exact⟨av HG.out.symm,cK⟩
   rw[if_neg k0]at HB
   by_cases k1:k=1
   ·subst k1;rw[if_pos rfl]at HB
    by_cases i0:i=0
    ·subst i0;have HG:Hid (goodJ (d+1) (.mk 1 0 t ks l)=true):=by show _=_;rw[HB.out];rfl
     go_enter Tryz.func103,Tryz.ntmps103;go_wp2_with(first
      | (go_at_call 127;refine bb.mono ?_;rintro x w2 ⟨rfl,bM⟩;obtain⟨hv,cK⟩:=bk w2 bM;clear bk;obtain⟨c0,c1,c2,c3,c4⟩:=ai hv))
     go_ret;exact⟨av HG.out.symm,cK⟩
    ·by_cases i1:i=1
     ·subst i1;have HG:Hid (goodJ (d+1) (.mk 1 1 t ks l)=true):=by show _=_;rw[HB.out];rfl
      go_enter Tryz.func103,Tryz.ntmps103;go_wp2_with(first
       | (go_at_call 127;refine bb.mono ?_;rintro x w2 ⟨rfl,bM⟩;obtain⟨hv,cK⟩:=bk w2 bM;clear bk;obtain⟨c0,c1,c2,c3,c4⟩:=ai hv))
      go_ret;exact⟨av HG.out.symm,cK⟩
     ·skip
      have HG:Hid (goodJ (d+1) (.mk 1 i t ks l)=false):=by show _=_;rw[HB.out];simp[i0,i1]
      go_enter Tryz.func103,Tryz.ntmps103;go_wp2_with(first
       | (go_at_call 127;refine bb.mono ?_;rintro x w2 ⟨rfl,bM⟩;obtain⟨hv,cK⟩:=bk w2 bM;clear bk;obtain⟨c0,c1,c2,c3,c4⟩:=ai hv))
      go_ret;refine⟨av ?_,cK⟩;rw[HG.out]
      first| rfl| simp[i0,i1]
   rw[if_neg k1]at HB
   by_cases k2:k=2
   ·subst k2;rw[if_pos rfl]at HB;unfold bK at HB
    by_cases i0: -9007199254740991<=i
    ·skip
     by_cases i1:i<=9007199254740991
     ·skip
      have HG:Hid (goodJ (d+1) (.mk 2 i t ks l)=true):=by show _=_;rw[HB.out];simp[i0,i1]
      go_enter Tryz.func103,Tryz.ntmps103;go_wp2_with(first
       | (go_at_call 127;refine bb.mono ?_;rintro x w2 ⟨rfl,bM⟩;obtain⟨hv,cK⟩:=bk w2 bM;clear bk;obtain⟨c0,c1,c2,c3,c4⟩:=ai hv))
      go_ret;refine⟨av ?_,cK⟩
      first| exact HG.out.symm| (rw[HG.out];simp[i0,i1])
     ·skip
      have HG:Hid (goodJ (d+1) (.mk 2 i t ks l)=false):=by show _=_;rw[HB.out];simp[i1]
      go_enter Tryz.func103,Tryz.ntmps103;go_wp2_with(first
       | (go_at_call 127;refine bb.mono ?_;rintro x w2 ⟨rfl,bM⟩;obtain⟨hv,cK⟩:=bk w2 bM;clear bk;obtain⟨c0,c1,c2,c3,c4⟩:=ai hv))
      go_ret;refine⟨av ?_,cK⟩
      first| exact HG.out.symm| (rw[HG.out];simp[i1])
    ·skip
     have HG:Hid (goodJ (d+1) (.mk 2 i t ks l)=false):=by show _=_;rw[HB.out];simp[i0]
     go_enter Tryz.func103,Tryz.ntmps103;go_wp2_with(first
      | (go_at_call 127;refine bb.mono ?_;rintro x w2 ⟨rfl,bM⟩;obtain⟨hv,cK⟩:=bk w2 bM;clear bk;obtain⟨c0,c1,c2,c3,c4⟩:=ai hv))
     go_ret;refine⟨av ?_,cK⟩
     first| exact HG.out.symm| (rw[HG.out];simp[i0])
   rw[if_neg k2]at HB
   by_cases k3:k=3
   ·subst k3;rw[if_pos rfl]at HB;go_enter Tryz.func103,Tryz.ntmps103;go_wp2_with(first
     | (go_at_call 127;refine bb.mono ?_;rintro x w2 ⟨rfl,bM⟩;obtain⟨hv,cK⟩:=bk w2 bM;clear bk;obtain⟨c0,c1,c2,c3,c4⟩:=ai hv)
     | (go_at_call 128;refine(yF t w2 ht).mono ?_;rintro x w3 ⟨rfl,a_⟩))
    go_ret;exact⟨av HB.out.symm,ae cK a_⟩
   rw[if_neg k3]at HB
   by_cases k4:k=4
   ·subst k4;rw[if_pos rfl]at HB;go_enter Tryz.func103,Tryz.ntmps103;go_wp2_with(first
     | (go_at_call 127;refine bb.mono ?_;rintro x w2 ⟨rfl,bM⟩;obtain⟨hv,cK⟩:=bk w2 bM;clear bk;obtain⟨c0,c1,c2,c3,c4⟩:=ai hv)
     | (go_at_call 129;refine(yG V (fun x hx=>Nat.lt_of_lt_of_le (hO x hx) (cK).size) HD.out Ce (ny.carry fun x hx=>⟨hx,(cK).block x (hO x hx)⟩) DN uI).mono ?_;rintro x w4 ⟨rfl,dN⟩))
    go_ret;exact⟨av HB.out.symm,ae cK dN⟩
   rw[if_neg k4]at HB
   by_cases k5:k=5
   ·subst k5;rw[if_pos rfl]at HB
    by_cases he:ks.length=l.length
    ·have heI:((ks.length:Int)==(l.length:Int))=true:=by simp[he]
     have HE:Hid (ks.length=l.length):=he;clear he
     cases qW:gX ks with
     | true=>
      have HGK:Hid (gX ks=true):=qW;have HG:Hid (goodJ (d+1) (.mk 5 i t ks l)=l.all (goodJ d)):=by
       show _=_
       rw[HB.out];unfold gX at qW;rw[qW,decide_eq_true HE.out]
       rfl
      clear qW;go_enter Tryz.func103,Tryz.ntmps103;go_wp2_with(first
       | (go_at_call 127;refine bb.mono ?_;rintro x w2 ⟨rfl,bM⟩;obtain⟨hv,cK⟩:=bk w2 bM;clear bk;obtain⟨c0,c1,c2,c3,c4⟩:=ai hv)
       | (go_at_call 130;refine(wK (lM.carry fun x hx=>⟨hx,cK.block x (hO x hx)⟩) (fun x hx=>Nat.lt_of_lt_of_le (hO x hx) cK.size) gM zbG).mono ?_;rw[HGK.out];rintro x w3 ⟨rfl,a_⟩;have ZY:=(a_.block w.heap.size (Array.getElem?_eq_some_iff.1 hv).1).trans hv;have Tg:=ae cK a_;obtain⟨c03,mO,c23,c33,c43⟩:=ai ZY)
       | (go_at_call 129;refine(yG V (fun x hx=>Nat.lt_of_lt_of_le (hO x hx) (Tg).size) HD.out Ce (ny.carry fun x hx=>⟨hx,(Tg).block x (hO x hx)⟩) DN uI).mono ?_;rintro x w4 ⟨rfl,dN⟩))
      go_ret;exact⟨av HG.out.symm,ae Tg dN⟩
     | false=>
      have HGK:Hid (gX ks=false):=qW;have HG:Hid (goodJ (d+1) (.mk 5 i t ks l)=false):=by
       show _=_
       rw[HB.out];unfold gX at qW;rw[qW,decide_eq_true HE.out]
       rfl
      clear qW;go_enter Tryz.func103,Tryz.ntmps103;go_wp2_with(first
       | (go_at_call 127;refine bb.mono ?_;rintro x w2 ⟨rfl,bM⟩;obtain⟨hv,cK⟩:=bk w2 bM;clear bk;obtain⟨c0,c1,c2,c3,c4⟩:=ai hv)
       | (go_at_call 130;refine(wK (lM.carry fun x hx=>⟨hx,cK.block x (hO x hx)⟩) (fun x hx=>Nat.lt_of_lt_of_le (hO x hx) cK.size) gM zbG).mono ?_;rw[HGK.out];rintro x w3 ⟨rfl,a_⟩;have ZY:=(a_.block w.heap.size (Array.getElem?_eq_some_iff.1 hv).1).trans hv;have Tg:=ae cK a_;obtain⟨c03,mO,c23,c33,c43⟩:=ai ZY))
      go_ret;exact⟨av HG.out.symm,Tg⟩
    ·have heI:((ks.length:Int)==(l.length:Int))=false:=by simp;omega
     have HG:Hid (goodJ (d+1) (.mk 5 i t ks l)=false):=by
      show _=_
      rw[HB.out,decide_eq_false he]
      rfl
     clear he;go_enter Tryz.func103,Tryz.ntmps103;go_wp2_with(first
      | (go_at_call 127;refine bb.mono ?_;rintro x w2 ⟨rfl,bM⟩;obtain⟨hv,cK⟩:=bk w2 bM;clear bk;obtain⟨c0,c1,c2,c3,c4⟩:=ai hv))
     go_ret;exact⟨av HG.out.symm,cK⟩
   ·rw[if_neg k5]at HB;go_enter Tryz.func103,Tryz.ntmps103;go_wp2_with(first
     | (go_at_call 127;refine bb.mono ?_;rintro x w2 ⟨rfl,bM⟩;obtain⟨hv,cK⟩:=bk w2 bM;clear bk;obtain⟨c0,c1,c2,c3,c4⟩:=ai hv))
    go_ret;exact⟨av HB.out.symm,cK⟩
theorem X0:∀d,d<=12->Ii d
 | 0,_=>LQ
 | d+1,h=>LU (X0 d (by omega)) h
def Elo(O:Nat->Prop)(B:Nat)(v:Value)(w:World):Nat->Prop:=fun k=>O k\/ (B<=k/\k<w.heap.size/\v.ownBlock≠some k)
structure AI(O:Nat->Prop)(B b:Nat)(WA:World)(qh:Array Value)(dz:List J)(vl:Value)(wr:World):Prop where
 box:wr.heap[b]?=some (.cells qh 25 (0,0))
 res:wr.heap[b+1]?=some (.cells #[.int .i64 0,.int .i64 0,.string ⟨#[]⟩,.slice none 0 0,.slice none 0 0] 25 (0,0))
 dS:∃xs,wr.ownsRow B 25 5 vl dz.length xs/\isRow (Elo O B vl wr) wr dz xs
 below:Below B WA wr
 KO:WA.heap.size=B
 lt:b+1<B
 low:∀k,O k->k<b
section
variable {O : Nat -> Prop} {B b : Nat} {WA W W4 W5 : World} {qh : Array Value} {dz : List J} {vl il : Value} {o1 o2 : Obj} {y : J} {cs xs : List Value}
theorem AI.size(h:AI O B b WA qh dz vl W):B<=W.heap.size:=by have:=h.below.size;have:=h.KO;omega
theorem AI.more(h:AI O B b WA qh dz vl W)(hb:Below W.heap.size W W4):AI O B b WA qh dz vl W4:=by
 have hs:=h.size;have bJ:=h.lt;have Ti:=hb.size;obtain⟨xs,h1,h2⟩:=h.dS;have kp:aj (fun _=>False) W W4:=aj.fO hb;refine⟨(hb.block b (by omega)).trans h.box,(hb.block (b+1) (by omega)).trans h.res,⟨xs,bz h1 kp fun _ _ h=>h,h2.carry fun k hk=> ?_⟩,h.below.trans ⟨hb.os,hb.tape,hb.output,hb.size,fun k hk=>hb.block k (by omega)⟩,h.KO,bJ,h.low⟩
 rcases hk with hk| hk
 ·have:=h.low k hk;exact⟨.inl hk,hb.block k (by omega)⟩
 ·exact⟨.inr ⟨hk.1,by have:=hk.2.1;omega,hk.2.2⟩,hb.block k hk.2.1⟩
theorem AI.alloc(h:AI O B b WA qh dz vl W)(o:Obj):AI O B b WA qh dz vl (W.alloc o):=h.more ((Below.refl _ _).alloc (Nat.le_refl _) o)
theorem AI.push(h:AI O B b WA qh dz vl W)(h1:W.ownsRow B 25 5 vl dz.length xs)(h2:isRow (Elo O B vl W) W dz xs)(hy:isJ (Elo O B vl W) W y cs)
    (aT:W5.ownsRow B 25 5 il (dz.length+1) (xs++cs)) (hg:W.grownBy W5 vl.ownBlock) (jB:il.ownBlock=vl.ownBlock\/ il.ownBlock=some W.heap.size):AI O B b WA qh (dz++ [y]) il W5:=by
 have hs:=h.size;have bJ:=h.lt;have Ti:=hg.size;have o6:=aM h1;have low:∀k,k<B->W5.heap[k]?=W.heap[k]?:=fun k hk=>hg.block k (by omega) fun e=>by have:=(o6 k e.symm).1;omega
 have carry:∀k,Elo O B vl W k->Elo O B il W5 k/\W5.heap[k]?=W.heap[k]?:=by
  intro k hk
  rcases hk with hk| hk
  ·have:=h.low k hk;exact⟨.inl hk,low k (by omega)⟩
  ·refine⟨.inr ⟨hk.1,by have:=hk.2.1;omega,fun e=> ?_⟩,hg.block k hk.2.1 fun e=>hk.2.2 e.symm⟩
   rcases jB with h'| h'
   ·exact hk.2.2 (h' ▸ e)
   ·rw[h']at e;have:=Option.some.inj e;have:=hk.2.1;omega
 exact⟨(low b (by omega)).trans h.box,(low (b+1) (by omega)).trans h.res,⟨xs++cs,by rw[List.length_append];exact aT,isRow.snoc hy.pO (hy.carry carry) dz xs (h2.carry carry)⟩,h.below.trans ⟨hg.os,hg.tape,hg.output,hg.size,low⟩,h.KO,bJ,h.low⟩
theorem AI.new(h:AI O B b WA qh dz vl W)(hb:Below W.heap.size W W4)(hy:isJ (fun k=>O k\/ fB W W4 k) W4 y cs)(o:Obj):isJ (Elo O B vl (W4.alloc o)) (W4.alloc o) y cs:=by
 have hs:=h.size;have Ti:=hb.size;obtain⟨xs,h1,_⟩:=h.dS;refine hy.carry fun k hk=> ?_
 rcases hk with hk| hk
 ·have:=h.low k hk;have:=h.lt;exact⟨.inl hk,Below.heap_alloc _ _ _ (by omega)⟩
 ·have e1:=hk.1;have e2:=hk.2;exact⟨.inr ⟨by omega,by simp;omega,fun e=>by have:=(aM h1 k e).2;omega⟩,Below.heap_alloc _ _ _ e2⟩
end
theorem dZ:∀l:List J,(ordL l).length=l.length
 | []=>by simp[ordL]
 | j::r=>by simp[ordL,dZ r]
theorem qi(j:J):∀l:List J,ordL (l++ [j])=ordL l++ [ord j]
 | []=>by simp[ordL]
 | i::r=>by simp[ordL,qi j r]
def VZ(d:Nat):Prop:=∀(w:World) (O:Nat->Prop) (j:J) (k i:Int) (t:ByteArray) (pk pl:Option Addr) (nk ck nl cl:Nat),(∀x,O x->x<w.heap.size)->goodJ d j=true->szJ d j=true→
 isJ O w j [.int .i64 k,.int .i64 i,.string t,.slice pk nk ck,.slice pl nl cl]→
 Calls Tryz.prog 65 #[.agg #[.int .i64 k,.int .i64 i,.string t,.slice pk nk ck,.slice pl nl cl]] w fun x w'=>∃k i t pk nk ck pl nl cl,x=.returned (.agg #[.int .i64 k,.int .i64 i,.string t,.slice pk nk ck,.slice pl nl cl])∧
  isJ (fun x=>O x\/ fB w w' x) w' (ord j) [.int .i64 k,.int .i64 i,.string t,.slice pk nk ck,.slice pl nl cl]/\Below w.heap.size w w'
theorem PZ:VZ 0:=by
 intro w O j k i t pk pl nk ck nl cl hO hg;unfold goodJ at hg
 cases hg
theorem iN{d:Nat}{k i:Int}{t:ByteArray}{ks:List ByteArray}{l:List J}(h:goodJ (d+1) (.mk k i t ks l)=true):l.all (goodJ d)=true/\(k=5->ks.length=l.length/\ks.Pairwise (· ≠ ·))/\(k≠5->ks= []):=by
 rw[goodJ,Bool.and_eq_true]at h;obtain⟨hb,h⟩:=h;unfold bare at hb;simp only[Bool.and_eq_true,Bool.or_eq_true,decide_eq_true_eq]at hb;obtain⟨⟨⟨_,_⟩,hk⟩,hl⟩:=hb;refine⟨?_,fun e=> ?_,fun e=> ?_⟩
 ·by_cases k4:k=4
  ·subst k4;simpa using h
  ·by_cases k5:k=5
   ·subst k5;simp at h;rw[List.all_eq_true];exact h.2
   ·have:l= []:=List.eq_nil_of_length_eq_zero (by omega);subst this;rfl
 ·subst e;rw[if_neg (by decide),if_neg (by decide),if_neg (by decide),if_neg (by decide),if_neg (by decide),if_pos rfl]at h;simp only[Bool.and_eq_true,decide_eq_true_eq]at h;exact⟨h.1.1,gW h.1.2.2⟩
 ·exact List.eq_nil_of_length_eq_zero (by omega)
theorem Tj{O:Nat->Prop}{w:World}(hO:∀x,O x->x<w.heap.size)(qh:Array Value):AI O (w.heap.size+2) w.heap.size ((w.alloc (.cells qh 25)).alloc zJ) qh [] (.slice none 0 0) ((w.alloc (.cells qh 25)).alloc zJ):=by
 refine⟨?_, ?_,⟨[],World.ownsRow_nil _ _ _ _,rfl⟩,Below.refl _ _,by simp,by omega,hO⟩
 ·rw[Below.heap_alloc _ _ _ (by simp)];exact heap_alloc_new _ _
 ·have:=heap_alloc_new (w.alloc (.cells qh 25)) zJ;rw[show(w.alloc (.cells qh 25)).heap.size=w.heap.size+1 by simp]at this;exact this
theorem Ij{O:Nat->Prop}{w wr:World}{qh:Array Value}{dz:List J}{vl:Value}(h:AI O (w.heap.size+2) w.heap.size ((w.alloc (.cells qh 25)).alloc zJ) qh dz vl wr):Below w.heap.size w wr:=by
 have h1:Below w.heap.size w ((w.alloc (.cells qh 25)).alloc zJ):=((Below.refl _ _).alloc (Nat.le_refl _) _).alloc (by simp) _;have h2:=h.below;exact h1.trans ⟨h2.os,h2.tape,h2.output,h2.size,fun k hk=>h2.block k (by omega)⟩
theorem DR{w wr W5:World}(h:Below w.heap.size w wr)(aX:aj (One (w.heap.size+1)) wr W5):Below w.heap.size w W5:=
 h.trans (aX.below h.size fun k hk=>by unfold One;omega)
theorem NU{w wr W5:World}{O:Nat->Prop}{j:J}{cs:List Value}(aX:aj (One (w.heap.size+1)) wr W5)(hj:isJ (fun x=>O x\/ (w.heap.size+2<=x/\x<wr.heap.size)) wr j cs)(hO:∀x,O x->x<w.heap.size)(hs:w.heap.size+2<=wr.heap.size):isJ (fun x=>O x\/ fB w W5 x) W5 j cs:=by
 have Ti:=aX.size;refine hj.carry fun k hk=> ?_
 rcases hk with hk| hk
 ·have:=hO k hk;exact⟨.inl hk,aX.block k (by omega) (by unfold One;omega)⟩
 ·exact⟨.inr ⟨by have:=hk.1;omega,by have:=hk.2;omega⟩,aX.block k hk.2 (by unfold One;have:=hk.1;omega)⟩
theorem P5{d:Nat}(V:VZ d):VZ (d+1):=by
 intro w O j k i t pk pl nk ck nl cl hO hg fI hj
 cases j with
 | mk k' i' t' ks l=>
  unfold isJ at hj;obtain⟨F7,DL,F8,uG,e,lM,DN,ny⟩:=hj
  cases e
  unfold szJ at fI;simp only[Bool.and_eq_true,decide_eq_true_eq]at fI;obtain⟨ht,gM,CB,uI,Ce⟩:=fI;obtain⟨zA,lh,Ik⟩:=iN hg;have HG5:Hid (k=5->ks.length=l.length/\ks.Pairwise (· ≠ ·)):=lh;have HGN:Hid (k≠5->ks= []):=Ik;clear lh Ik hg CB;obtain⟨n,hn⟩:∃n,l.length=n:=⟨_,rfl⟩;have HN:Hid (l.length=n):=hn;obtain⟨m,hm⟩:∃m,ks.length=m:=⟨_,rfl⟩;have HM:Hid (ks.length=m):=hm;rw[hn,hm];rw[hn]at uI DN;rw[hm]at gM;have zbH:=Tj hO #[.int .i64 k,.int .i64 i,.string t,.slice pk m ck,.slice pl n cl];clear hn hm;go_enter Tryz.func65,Tryz.ntmps65;go_wp2
  go_loopw [3,9] (fun vl iv wr=>∃q:Nat,iv=.int .i64 q/\q<=n/\AI O (w.heap.size+2) w.heap.size ((w.alloc (.cells #[.int .i64 k,.int .i64 i,.string t,.slice pk m ck,.slice pl n cl] 25)).alloc zJ) #[.int .i64 k,.int .i64 i,.string t,.slice pk m ck,.slice pl n cl] (ordL (l.take q)) vl wr) (fun _ iv _=>n - (intOf iv).toNat)
  case atStart=>exact⟨0,rfl,Nat.zero_le _,by rw[List.take_zero];exact zbH⟩
  case round=>
   clear zbH;obtain⟨q,rfl,hq,P6⟩:=hrel;obtain⟨ZM,Q9,_⟩:=P6.dS;obtain⟨ZN,sl2,XM,rfl⟩:=fH Q9;clear Q9;obtain⟨c0,c1,c2,c3,c4⟩:=ai P6.box;have cK:=Ij P6
   by_cases hql:q<n
   ·have ZZ:q<l.length:=by rw[HN.out];exact hql
    have HQL:Hid (q<l.length):=ZZ;obtain⟨lb,lo,cs,tY,xz,bY,jF⟩:=isJs.at l 0 q ny ZZ;subst tY;obtain⟨kv,iv,tv,pv,nv,cv,qv,mv,dv,rfl⟩:=dD jF;have jA:=cK.block lb (hO lb xz);have cc:∀m v, [Value.int .i64 kv,.int .i64 iv,.string tv,.slice pv nv cv,.slice qv mv dv][m]?=some v->wr.cell? ⟨lb,lo+q*5+m,none⟩=some v:=fun m v h=>by
     have:=bY m v h;rw[Nat.zero_add]at this;exact(World.cell?_of_block (a:=⟨lb,lo+q*5+m,none⟩) jA).trans this
    have y0:wr.cell? ⟨lb,lo+q*5,none⟩=some (.int .i64 kv):=cc 0 _ rfl;have y1:=cc 1 _ rfl;have y2:=cc 2 _ rfl;have y3:=cc 3 _ rfl;have y4:=cc 4 _ rfl;clear cc bY ZZ;have hqc:(q:Int)<(n:Int):=by omega
    have Z0:=P6.alloc (.cells #[.int .i64 kv,.int .i64 iv,.string tv,.slice pv nv cv,.slice qv mv dv] 25);have bI:=Ij Z0;have hV:=V (wr.alloc (.cells #[.int .i64 kv,.int .i64 iv,.string tv,.slice pv nv cv,.slice qv mv dv] 25)) O (l.getD q J.zero) kv iv tv pv qv nv cv mv dv (fun x hx=>Nat.lt_of_lt_of_le (hO x hx) bI.size) (lG zA HQL.out) (lG Ce HQL.out) (jF.carry fun x hx=>⟨hx,bI.block x (hO x hx)⟩);go_wp2_with(first
     | (go_at_call 65;refine hV.mono ?_;rintro x w4 ⟨kr,ir,tr,pr,nr,cr,qr,mr,dr,rfl,JY,dN⟩
        have hy:=Z0.new dN JY (.cells #[.int .i64 kr,.int .i64 ir,.string tr,.slice pr nr cr,.slice qr mr dr] 25);have Z4:=(Z0.more dN).alloc (.cells #[.int .i64 kr,.int .i64 ir,.string tr,.slice pr nr cr,.slice qr mr dr] 25);obtain⟨xs,bW,eZ⟩:=Z4.dS)
     | (at_builtin;refine qY rfl _ _ 23 rfl (w.heap.size+2) 25 (.agg #[.int .i64 0,.int .i64 0,.string ⟨#[]⟩,.slice none 0 0,.slice none 0 0]) 5 80 Tryz.underlying23 Tryz.dR rfl (by decide) (by decide) (.slice ZN sl2 XM) (ordL (l.take q)).length xs rfl bW _ [.int .i64 kr,.int .i64 ir,.string tr,.slice pr nr cr,.slice qr mr dr] rfl rfl (ug rfl) KR (by rw[dZ,List.length_take];omega) Z4.size ?_
        intro nP W5 dC lh jd;obtain⟨q5,n5,c5,vC⟩:=fH dC;subst vC;have zed:=Z4.push bW eZ hy dC lh jd;clear dC lh jd))
    go_roundw
    case rel=>exact⟨q+1,by go_num,hql,by rw[gQ HQL.out,qi];exact zed⟩
    case measure=>simp[intOf];omega
   ·obtain rfl:q=n:=by omega
    have bJ:l.take q=l:=List.take_of_length_le (by rw[HN.out];omega);rw[bJ]at P6;clear bJ;obtain⟨xs,bW,eZ⟩:=P6.dS;obtain⟨q2,jU,vP,vw,Pm⟩:=qV bW eZ;have VR:isJs (fun x=>O x\/ (w.heap.size+2<=x/\x<wr.heap.size)) wr q2 0 (ordL l):=Pm.carry fun x hx=>⟨by
     rcases hx with(hx| hx)| hx
     ·exact .inl hx
     ·exact .inr ⟨hx.1,hx.2.1⟩
     ·exact .inr hx,rfl⟩
    have HRJ:Hid (isJs (fun x=>O x\/ (w.heap.size+2<=x/\x<wr.heap.size)) wr q2 0 (ordL l)):=VR;have GR:Hid ((ordL l).length<=jU):=vw;have HOL:Hid ((ordL l).length=q):=(dZ l).trans HN.out;rw[HOL.out]at vP
    cases vP
    have zbI:jT (fun x=>O x\/ (w.heap.size+2<=x/\x<wr.heap.size)) wr pk ck ks:=lM.carry fun x hx=>⟨.inl hx,cK.block x (hO x hx)⟩;have ZG:Hid (jT (fun x=>O x\/ (w.heap.size+2<=x/\x<wr.heap.size)) wr pk ck ks):=zbI;have hOw:∀x,(O x\/ (w.heap.size+2<=x/\x<wr.heap.size))->x<wr.heap.size:=fun x hx=>by
     rcases hx with hx| hx
     ·have:=hO x hx;have:=cK.size;omega
     ·exact hx.2
    obtain⟨i0,i1,i2,i3,i4⟩:=ai P6.res;obtain⟨z0,z1,z2,z3,z4⟩:=aF P6.res;have Z5:=P6.size;clear Pm VR zbI vw bW eZ lM ny
    by_cases k5:k=5
    ·subst k5;obtain⟨JU,yD⟩:=HG5.out rfl;have hmo:=Dw (cl:=XM) ZG.out HRJ.out (by rw[HOL.out,<-HN.out];exact JU) hOw (by rw[HM.out];exact gM) yD;rw[HM.out,HOL.out]at hmo;clear JU yD;go_wp2_with(first
     | (go_at_call 104;refine hmo.mono ?_;rintro x w8 ⟨csr,rfl,JY,rT⟩
        obtain⟨kr,ir,tr,pr,nr,cr,qr,mr,dr,Gr⟩:=dD JY;obtain rfl:csr=#[.int .i64 kr,.int .i64 ir,.string tr,.slice pr nr cr,.slice qr mr dr]:=by rw[<-Array.toList_inj];exact Gr
        have n_:=(rT.block _ (Array.getElem?_eq_some_iff.1 P6.res).1).trans P6.res;obtain⟨j0,j1,j2,j3,j4⟩:=ai n_;obtain⟨x0,x1,x2,x3,x4⟩:=aF n_))
     have h5:=aK n_ (.int .i64 kr) (.int .i64 ir) (.string tr) (.slice pr nr cr) (.slice qr mr dr);have aX:aj (One (w.heap.size+1)) w8 _:=aJ w8 (w.heap.size+1) (.int .i64 kr) (.int .i64 ir) (.string tr) (.slice pr nr cr) (.slice qr mr dr);unfold bF at h5 aX;obtain⟨k0,k1,k2,k3,k4⟩:=ai h5;refine bodyPost_ret (v:=.agg #[.int .i64 kr,.int .i64 ir,.string tr,.slice pr nr cr,.slice qr mr dr]) (by simp[results,Tryz.results65,go_sem,k0,k1,k2,k3,k4]) rfl ?_;have Cf:=DR (ae cK rT) aX;refine⟨_,_,_,_,_,_,_,_,_,rfl, ?_,Cf⟩;have e:ord (.mk 5 i t ks l)=mapOf ks (ordL l):=by rw[ord,if_pos rfl]
     rw[e];exact NU aX (JY.carry fun x hx=>⟨by
      rcases hx with(hx| hx)| hx
      ·exact .inl hx
      ·exact .inr ⟨hx.1,by have:=rT.size;have:=hx.2;omega⟩
      ·exact .inr ⟨by have:=hx.1;omega,hx.2⟩,rfl⟩) (fun x hx=>hO x hx) (by have:=rT.size;omega)
    ·have HE:Hid (ord (.mk k i t ks l)=.mk k i t [] (ordL l)):=by show _=_;rw[ord,if_neg k5]
     go_wp2;have h5:=aK P6.res (.int .i64 k) (.int .i64 i) (.string t) (.slice none 0 0) (.slice ZN q XM);have aX:aj (One (w.heap.size+1)) wr _:=aJ wr (w.heap.size+1) (.int .i64 k) (.int .i64 i) (.string t) (.slice none 0 0) (.slice ZN q XM);unfold bF at h5 aX;obtain⟨k0,k1,k2,k3,k4⟩:=ai h5;refine bodyPost_ret (v:=.agg #[.int .i64 k,.int .i64 i,.string t,.slice none 0 0,.slice ZN q XM]) (by simp[results,Tryz.results65,go_sem,k0,k1,k2,k3,k4]) rfl ?_;have Cf:=DR cK aX;refine⟨_,_,_,_,_,_,_,_,_,rfl, ?_,Cf⟩;rw[HE.out];refine NU aX (cs:=_) ?_ (fun x hx=>hO x hx) Z5;unfold isJ;exact⟨none,0,ZN,XM,by rw[HOL.out];rfl,jT.nil _ _,GR.out,HRJ.out⟩
theorem V3:∀d,VZ d
 | 0=>PZ
 | d+1=>P5 (V3 d)
theorem uh{w w2:World}{cs:Array Value}{t:TypeId}(h:Below (w.alloc (.cells cs t)).heap.size (w.alloc (.cells cs t)) w2):w2.heap[w.heap.size]?=some (.cells cs t (0,0))/\Below w.heap.size w w2:=
 ⟨by rw[h.block w.heap.size (by simp)];exact heap_alloc_new _ _,ae ((Below.refl _ _).alloc (Nat.le_refl _) _) h⟩
theorem AV{w:World}{O:Nat->Prop}{j:J}{k i:Int}{t:ByteArray}{pk pl:Option Addr}{nk ck nl cl:Nat}(hO:∀x,O x->x<w.heap.size)(fI:szJ 12 j=true)
    (hj:isJ O w j [.int .i64 k,.int .i64 i,.string t,.slice pk nk ck,.slice pl nl cl]):
    Calls Tryz.prog 64 #[.agg #[.int .i64 k,.int .i64 i,.string t,.slice pk nk ck,.slice pl nl cl]] w fun x w'=>x=.returned (.bool (goodJ 12 j))/\Below w.heap.size w w':=by
 have hG:=X0 12 (Nat.le_refl _) (w.alloc (.cells #[.int .i64 k,.int .i64 i,.string t,.slice pk nk ck,.slice pl nl cl] 25)) O j k i 1 t pk pl nk ck nl cl (fun x hx=>by have:=hO x hx;simp;omega) rfl fI
  (hj.carry fun x hx=>⟨hx,Below.heap_alloc _ _ _ (hO x hx)⟩)
 go_enter Tryz.func64,Tryz.ntmps64;go_wp2_with(go_at_call 103;refine hG.mono ?_;rintro x w2 ⟨rfl,bM⟩);go_ret;exact⟨rfl,(uh bM).2⟩
def NV(w w':World)(j:J)(x:Ending):Prop:=
 (goodJ 12 j=false->x=.returned (.tuple #[.slice none 0 0,.int .i64 1]))∧
 (goodJ 12 j=true->16384<(aZ (ord j)).length->x=.returned (.tuple #[.slice none 0 0,.int .i64 13]))∧
 (goodJ 12 j=true->(aZ (ord j)).length<=16384->∃v,x=.returned (.tuple #[v,.int .i64 0])/\w'.ownsRow w.heap.size 5 1 v (aZ (ord j)).length ((aZ (ord j)).map (Value.int .u8)))/\Below w.heap.size w w'
theorem DT{w:World}{B B' e size n:Nat}{v:Value}{xs:List Value}(h:w.ownsRow B e size v n xs)(hB:B'<=B):w.ownsRow B' e size v n xs:=by
 refine⟨h.1, ?_⟩
 rcases h.2 with hn| ⟨g,cap,cur,rfl,hg,rest⟩
 ·exact .inl hn
 ·exact .inr ⟨g,cap,cur,rfl,by omega,rest⟩
theorem LV{w:World}{O:Nat->Prop}{j:J}{k i:Int}{t:ByteArray}{pk pl:Option Addr}{nk ck nl cl:Nat}(hO:∀x,O x->x<w.heap.size)(fI:szJ 12 j=true)(hT:Ra w.heap.size w)(uA:goodJ 12 j=true->qd 12 (ord j)=true)
    (hj:isJ O w j [.int .i64 k,.int .i64 i,.string t,.slice pk nk ck,.slice pl nl cl]):
    Calls Tryz.prog 39 #[.agg #[.int .i64 k,.int .i64 i,.string t,.slice pk nk ck,.slice pl nl cl]] w fun x w'=>NV w w' j x:=by
 have hG:=AV (w:=w.alloc (.cells #[.int .i64 k,.int .i64 i,.string t,.slice pk nk ck,.slice pl nl cl] 25)) (O:=O) (fun x hx=>by have:=hO x hx;simp;omega) fI (hj.carry fun x hx=>⟨hx,Below.heap_alloc _ _ _ (hO x hx)⟩)
 cases hg:goodJ 12 j with
 | false=>
  rw[hg]at hG;go_enter Tryz.func39,Tryz.ntmps39;go_wp2_with(go_at_call 64;refine hG.mono ?_;rintro x w2 ⟨rfl,bM⟩);go_ret2;refine⟨fun _=>rfl,fun h=> ?_,fun h=> ?_,(uh bM).2⟩
  ·rw[hg]at h;cases h
  ·rw[hg]at h;cases h
 | true=>
  have HF:Hid (qd 12 (ord j)=true):=uA hg;have X3:Hid (goodJ 12 j=true):=hg;rw[hg]at hG;clear uA hg
  by_cases kU:16384<(aZ (ord j)).length
  ·have LW:Hid (16384<(aZ (ord j)).length):=kU;clear kU;go_enter Tryz.func39,Tryz.ntmps39;go_wp2_with(first
    | (go_at_call 64;refine hG.mono ?_;rintro x w2 ⟨rfl,bM⟩
       obtain⟨hv,cK⟩:=uh bM;have Z6:Below w.heap.size w (w2.alloc (.cells #[.slice none 0 0] 92)):=cK.alloc cK.size _;have ZY:(w2.alloc (.cells #[.slice none 0 0] 92)).heap[w.heap.size]?=some (.cells #[.int .i64 k,.int .i64 i,.string t,.slice pk nk ck,.slice pl nl cl] 25 (0,0)):=by
        rw[Below.heap_alloc _ _ _ (Array.getElem?_eq_some_iff.1 hv).1];exact hv
       obtain⟨c0,c1,c2,c3,c4⟩:=ai ZY;have hA:=V3 12 (w2.alloc (.cells #[.slice none 0 0] 92)) O j k i t pk pl nk ck nl cl (fun x hx=>Nat.lt_of_lt_of_le (hO x hx) Z6.size) X3.out fI (hj.carry fun x hx=>⟨hx,Z6.block x (hO x hx)⟩))
    | (go_at_call 65;refine hA.mono ?_;rintro x w4 ⟨kr,ir,tr,pr,nr,cr,qr,mr,dr,rfl,JY,dN⟩
       have hK4:w4.heap[w2.heap.size]?=some (.cells #[.slice none 0 0] 92 (0,0)):=by rw[dN.block _ (by simp)];exact heap_alloc_new _ _
       have Il:=ae Z6 dN;have Rb:=dN.size;have F5:Cc w4 w4.heap.size w2.heap.size []:=⟨⟨_,hK4,World.ownsRow_nil _ _ _ _⟩,by simp at Rb;omega,Nat.le_refl _⟩;have hT4:Ra w2.heap.size w4:=fun w' h'=>hT w' (Il.trans ⟨h'.os,h'.tape,h'.output,h'.size,fun x hx=>h'.block x (by have:=cK.size;omega)⟩);have hW:=writes 12 w4 w4.heap.size w2.heap.size [] (fun x=>O x\/ fB (w2.alloc (.cells #[.slice none 0 0] 92)) w4 x) (ord j) kr ir tr pr qr nr cr mr dr F5 (by simp) (fun x hx=>by
        rcases hx with hx| hx
        ·have:=hO x hx;have:=cK.size;have:=Il.size;exact⟨by simp at Rb;omega,by omega⟩
        ·have e1:=hx.1;have e2:=hx.2;simp at e1;exact⟨e2,by omega⟩) hT4 HF.out JY)
    | (go_at_call 77;refine hW.mono ?_;rintro x w5 ⟨rfl,⟨out,Hu,hol,XZ⟩,VV⟩
       have hlg:=AO XZ;have nu:=VV.below (K:=w2.heap.size) (by simp at Rb;omega) (by simp at Rb;omega);have Z7:Below w.heap.size w w5:=Il.trans ⟨nu.os,nu.tape,nu.output,nu.size,fun x hx=>nu.block x (by have:=cK.size;omega)⟩;have Z8:16384<out.length:=by
        have V4:=LW.out
        rcases Hu with⟨h1,_⟩| ⟨_,h2⟩
        ·rw[List.nil_append]at h1;omega
        ·exact h2
       rw[decide_eq_true Z8]at hlg)
    | (go_at_call 78;refine hlg.mono ?_;rintro x w' ⟨rfl,rfl⟩))
   go_ret2;refine⟨fun h=> ?_,fun _ _=>rfl,fun _ h=> ?_,Z7⟩
   ·rw[X3.out]at h;cases h
   ·have:=LW.out;omega
  ·have LW:Hid ((aZ (ord j)).length<=16384):=by show _<=_;omega
   clear kU;go_enter Tryz.func39,Tryz.ntmps39;go_wp2_with(first
    | (go_at_call 64;refine hG.mono ?_;rintro x w2 ⟨rfl,bM⟩
       obtain⟨hv,cK⟩:=uh bM;have Z6:Below w.heap.size w (w2.alloc (.cells #[.slice none 0 0] 92)):=cK.alloc cK.size _;have ZY:(w2.alloc (.cells #[.slice none 0 0] 92)).heap[w.heap.size]?=some (.cells #[.int .i64 k,.int .i64 i,.string t,.slice pk nk ck,.slice pl nl cl] 25 (0,0)):=by
        rw[Below.heap_alloc _ _ _ (Array.getElem?_eq_some_iff.1 hv).1];exact hv
       obtain⟨c0,c1,c2,c3,c4⟩:=ai ZY;have hA:=V3 12 (w2.alloc (.cells #[.slice none 0 0] 92)) O j k i t pk pl nk ck nl cl (fun x hx=>Nat.lt_of_lt_of_le (hO x hx) Z6.size) X3.out fI (hj.carry fun x hx=>⟨hx,Z6.block x (hO x hx)⟩))
    | (go_at_call 65;refine hA.mono ?_;rintro x w4 ⟨kr,ir,tr,pr,nr,cr,qr,mr,dr,rfl,JY,dN⟩
       have hK4:w4.heap[w2.heap.size]?=some (.cells #[.slice none 0 0] 92 (0,0)):=by rw[dN.block _ (by simp)];exact heap_alloc_new _ _
       have Il:=ae Z6 dN;have Rb:=dN.size;have F5:Cc w4 w4.heap.size w2.heap.size []:=⟨⟨_,hK4,World.ownsRow_nil _ _ _ _⟩,by simp at Rb;omega,Nat.le_refl _⟩;have hT4:Ra w2.heap.size w4:=fun w' h'=>hT w' (Il.trans ⟨h'.os,h'.tape,h'.output,h'.size,fun x hx=>h'.block x (by have:=cK.size;omega)⟩);have hW:=writes 12 w4 w4.heap.size w2.heap.size [] (fun x=>O x\/ fB (w2.alloc (.cells #[.slice none 0 0] 92)) w4 x) (ord j) kr ir tr pr qr nr cr mr dr F5 (by simp) (fun x hx=>by
        rcases hx with hx| hx
        ·have:=hO x hx;have:=cK.size;have:=Il.size;exact⟨by simp at Rb;omega,by omega⟩
        ·have e1:=hx.1;have e2:=hx.2;simp at e1;exact⟨e2,by omega⟩) hT4 HF.out JY)
    | (go_at_call 77;refine hW.mono ?_;rintro x w5 ⟨rfl,⟨out,Hu,hol,XZ⟩,VV⟩
       have hlg:=AO XZ;have nu:=VV.below (K:=w2.heap.size) (by simp at Rb;omega) (by simp at Rb;omega);have Z7:Below w.heap.size w w5:=Il.trans ⟨nu.os,nu.tape,nu.output,nu.size,fun x hx=>nu.block x (by have:=cK.size;omega)⟩;have Z9:out=aZ (ord j):=by
        have V4:=LW.out
        rcases Hu with⟨_,h2⟩| ⟨h1,_⟩
        ·rw[List.nil_append]at h2;exact h2
        ·rw[List.nil_append]at h1;omega
       have zee:Hid (out=aZ (ord j)):=Z9;have Z8:¬16384<out.length:=by rw[Z9];have:=LW.out;omega
       clear Z9;rw[decide_eq_false Z8]at hlg;obtain⟨v5,h51,h52⟩:=XZ.row;have d0:=E8 h51;obtain⟨q5,n5,c5,vC⟩:=fH h52;subst vC)
    | (go_at_call 78;refine hlg.mono ?_;rintro x w' ⟨rfl,rfl⟩))
   go_ret2;refine⟨fun h=> ?_,fun _ h=> ?_,fun _ _=>⟨_,rfl, ?_⟩,Z7⟩
   ·rw[X3.out]at h;cases h
   ·have:=LW.out;omega
   ·rw[zee.out]at h52;exact DT h52 (by have:=Il.size;omega)
theorem wL{x:J}:∀{l:List J},x∈ordL l->∃y∈l,x=ord y
 | [],h=>by simp[ordL]at h
 | j::r,h=>by
  rw[ordL]at h
  rcases List.mem_cons.1 h with rfl| h
  ·exact⟨j,List.mem_cons_self ..,rfl⟩
  ·obtain⟨y,hy,e⟩:=wL h;exact⟨y,List.mem_cons_of_mem _ hy,e⟩
section
variable {ks : List ByteArray} {l : List J}
theorem o8(hl:ks.length=l.length):((fA (ks.zip l)).map (·.1)).Perm ks:=by
 have:=(nY (ks.zip l)).map (·.1);rw[List.map_fst_zip (by omega)]at this;exact this
theorem jJ(hl:ks.length=l.length):((fA (ks.zip l)).map (·.2)).Perm l:=by
 have:=(nY (ks.zip l)).map (·.2);rw[List.map_snd_zip (by omega)]at this;exact this
end
theorem gY:∀(d:Nat) (j:J),goodJ d j=true->goodJ d (ord j)=true
 | 0,j,h=>by unfold goodJ at h;cases h
 | d+1,.mk k i t ks l,h=>by
  obtain⟨zA,lh,Ik⟩:=iN h;have eO:∀x∈ordL l,goodJ d x=true:=fun x hx=>by
   obtain⟨y,hy,rfl⟩:=wL hx;exact gY d y (List.all_eq_true.1 zA y hy)
  rw[ord]
  by_cases k5:k=5
  ·subst k5;rw[if_pos rfl];obtain⟨cB,hp⟩:=lh rfl;have wM:ks.length=(ordL l).length:=by rw[dZ];exact cB
   have pk:=o8 wM;have pv:=jJ wM;have oN:ks.all letters=true:=by
    rw[goodJ,Bool.and_eq_true]at h;have h2:=h.2;rw[if_neg (by decide),if_neg (by decide),if_neg (by decide),if_neg (by decide),if_neg (by decide),if_pos rfl]at h2;simp only[Bool.and_eq_true]at h2;exact h2.1.2.1
   unfold mapOf;rw[goodJ];have e1:((fA (ks.zip (ordL l))).map (·.1)).all letters=true:=by
    rw[List.all_eq_true]at oN ⊢;exact fun x hx=>oN x (pk.mem_iff.1 hx)
   have e2:noKeyTwice ((fA (ks.zip (ordL l))).map (·.1))=true:=gB (pk.symm.pairwise hp fun{_ _} h=>h.symm);have e3:((fA (ks.zip (ordL l))).map (·.2)).all (goodJ d)=true:=by
    rw[List.all_eq_true];exact fun x hx=>eO x (pv.mem_iff.1 hx)
   rw[e1,e2,e3];simp[bare,aH,ByteArray.size]
  ·rw[if_neg k5];have rQ:=Ik k5;subst rQ;rw[goodJ,Bool.and_eq_true]at h ⊢;have VK:(ordL l).all (goodJ d)=true:=List.all_eq_true.2 eO;refine⟨by have:=h.1;rw[E9]at this ⊢;rw[dZ];exact this, ?_⟩;have h2:=h.2;rw[VK];rw[zA]at h2;rw[if_neg k5]at h2 ⊢;exact h2
theorem Im:∀(d:Nat) (j:J),goodJ d j=true->szJ d j=true->wideJ d (ord j)=true
 | 0,j,_,_=>by unfold wideJ;rfl
 | d+1,.mk k i t ks l,hg,h=>by
  obtain⟨zA,lh,_⟩:=iN hg;unfold szJ at h;simp only[Bool.and_eq_true,decide_eq_true_eq]at h;obtain⟨_,_,_,uI,Ce⟩:=h;have eO:∀x∈ordL l,wideJ d x=true:=fun x hx=>by
   obtain⟨y,hy,rfl⟩:=wL hx;exact Im d y (List.all_eq_true.1 zA y hy) (List.all_eq_true.1 Ce y hy)
  rw[ord]
  by_cases k5:k=5
  ·subst k5;rw[if_pos rfl];obtain⟨cB,_⟩:=lh rfl;have wM:ks.length=(ordL l).length:=by rw[dZ];exact cB
   have pv:=jJ wM;unfold mapOf wideJ;rw[Bool.and_eq_true];refine⟨decide_eq_true ?_,List.all_eq_true.2 fun x hx=>eO x (pv.mem_iff.1 hx)⟩;rw[pv.length_eq,dZ];exact uI
  ·rw[if_neg k5];unfold wideJ;rw[Bool.and_eq_true];exact⟨decide_eq_true (by rw[dZ];exact uI),List.all_eq_true.2 eO⟩
theorem E_{d:Nat}{j:J}(hg:goodJ d j=true)(hs:szJ d j=true):qd d (ord j)=true:=by
 unfold qd;rw[gY d j hg,Im d j hg hs];rfl
theorem mh:∀l:List J,inOrdL l=true↔∀x∈l,inOrd x=true
 | []=>by simp[inOrdL]
 | j::r=>by
  rw[inOrdL,Bool.and_eq_true,mh r];simp
theorem nR:∀(d:Nat) (j:J),goodJ d j=true->inOrd (ord j)=true
 | 0,j,h=>by unfold goodJ at h;cases h
 | d+1,.mk k i t ks l,h=>by
  obtain⟨zA,lh,Ik⟩:=iN h;have eO:∀x∈ordL l,inOrd x=true:=fun x hx=>by
   obtain⟨y,hy,rfl⟩:=wL hx;exact nR d y (List.all_eq_true.1 zA y hy)
  rw[ord]
  by_cases k5:k=5
  ·subst k5;rw[if_pos rfl];obtain⟨cB,hp⟩:=lh rfl;have wM:ks.length=(ordL l).length:=by rw[dZ];exact cB
   have pv:=jJ wM;unfold mapOf;rw[inOrd,Bool.and_eq_true,mh];refine⟨lC _ ?_,fun x hx=>eO x (pv.mem_iff.1 hx)⟩;have:((ks.zip (ordL l)).map (·.1)).Pairwise (· ≠ ·):=by rw[List.map_fst_zip (by omega)];exact hp
   exact List.pairwise_map.1 this
  ·rw[if_neg k5];rw[inOrd,Bool.and_eq_true,mh];exact⟨rfl,eO⟩
theorem qj:∀(d:Nat) (j:J),goodJ d j=true->inOrd j=true->ord j=j
 | 0,j,h,_=>by unfold goodJ at h;cases h
 | d+1,.mk k i t ks l,h,ho=>by
  obtain⟨zA,lh,Ik⟩:=iN h;rw[inOrd,Bool.and_eq_true,mh]at ho;have hl:∀(r:List J),(∀x∈r,x∈l)->ordL r=r:=by
   intro r
   induction r with
   | nil=>intro _;rfl
   | cons y r ih=>
    intro hr;rw[ordL,ih fun x hx=>hr x (List.mem_cons_of_mem _ hx),qj d y (List.all_eq_true.1 zA y (hr y (List.mem_cons_self ..))) (ho.2 y (hr y (List.mem_cons_self ..)))]
  rw[ord,hl l fun x hx=>hx]
  by_cases k5:k=5
  ·subst k5;rw[if_pos rfl];obtain⟨cB,hp⟩:=lh rfl;unfold mapOf;have hr:rises ((ks.zip l).map (·.1))=true:=by rw[List.map_fst_zip (by omega)];exact ho.1
   rw[sj _ hr,List.map_fst_zip (by omega),List.map_snd_zip (by omega)];rw[goodJ,Bool.and_eq_true]at h;have hb:=h.1;unfold bare at hb;simp only[Bool.and_eq_true,Bool.or_eq_true,decide_eq_true_eq]at hb;obtain⟨⟨⟨h1,h2⟩,_⟩,_⟩:=hb;have e1:i=0:=by omega
   have e2:t=aH:=vz (by omega);rw[e1,e2]
  ·rw[if_neg k5,Ik k5]
theorem P7{j:J}(hg:goodJ 12 j=true):whole (aZ (ord j))=.ok (ord j) (aZ (ord j)).length:=KQ (ord j) (gY 12 j hg) (nR 12 j hg)
theorem DU{t u:List Int}{p q:Nat}{c:Int}{wd:Nat}(h:bL u p=(c,wd))(h0:wd≠0)(he:∀i,i<wd->ag t (q+i)=ag u (p+i)):bL t q=(c,wd):=by
 have g0:ag t q=ag u p:=he 0 (by omega);have cont:∀i,i<wd->b_ t (q+i)=b_ u (p+i):=fun i hi=>by unfold b_;rw[he i hi]
 unfold bL at h ⊢;rw[g0]
 split at h
 ·rename_i a;rw[if_pos a];exact h
 ·rename_i a;rw[if_neg a]
  split at h
  ·rename_i b;have hw:wd=2:=by
    split at h
    ·exact(Prod.mk.inj h).2.symm
    ·exact absurd (Prod.mk.inj h).2.symm h0
   subst hw;have e1:=cont 1 (by omega);have f1:=he 1 (by omega);rw[e1,f1,if_pos b];exact h
  ·rename_i b;have nb:¬(decide (ag u p / 32=6)&&b_ t (q+1))=true:=by
    intro hb;simp only[Bool.and_eq_true,decide_eq_true_eq]at hb
    by_cases hw:1<wd
    ·rw[cont 1 hw]at hb;exact b (by simp[hb.1,hb.2])
    ·split at h
     ·rename_i x;simp only[Bool.and_eq_true,decide_eq_true_eq]at x;omega
     ·split at h
      ·rename_i x;simp only[Bool.and_eq_true,decide_eq_true_eq]at x;omega
      ·exact absurd (Prod.mk.inj h).2.symm h0
   rw[if_neg nb]
   split at h
   ·rename_i d;have hw:wd=3:=by
     split at h
     ·exact(Prod.mk.inj h).2.symm
     ·exact absurd (Prod.mk.inj h).2.symm h0
    subst hw;rw[cont 1 (by omega),cont 2 (by omega),he 1 (by omega),he 2 (by omega),if_pos d];exact h
   ·rename_i d
    split at h
    ·rename_i f;have hw:wd=4:=by
      split at h
      ·exact(Prod.mk.inj h).2.symm
      ·exact absurd (Prod.mk.inj h).2.symm h0
     subst hw;have nd:¬(decide (ag u p / 16=14)&&b_ t (q+1)&&b_ t (q+2))=true:=by
      rw[cont 1 (by omega),cont 2 (by omega)];exact d
     rw[if_neg nd,cont 1 (by omega),cont 2 (by omega),cont 3 (by omega),he 1 (by omega),he 2 (by omega),he 3 (by omega),if_pos f];exact h
    ·exact absurd (Prod.mk.inj h).2.symm h0
def Fair(t:List Int)(p:Nat):Prop:=∀m,strayL t m p=none
theorem Fair.end{t:List Int}{p:Nat}(h:t.length<=p):Fair t p:=fun m=>by
 cases m with
 | zero=>rfl
 | succ m=>unfold strayL;rw[if_neg (by omega)]
theorem Fair.step{t:List Int}{p wd:Nat}{c:Int}(hr:bL t p=(c,wd))(h0:wd≠0)(h:Fair t (p+wd)):Fair t p:=fun m=>by
 cases m with
 | zero=>rfl
 | succ m=>
  unfold strayL
  split
  ·rw[hr,if_neg h0];exact h m
  ·rfl
theorem rf{t l r:List Int}{p i:Nat}(hd:t.drop p=l++r)(hi:i<l.length):ag t (p+i)=l.getD i 0:=by
 unfold ag;have:t[p+i]?=(l++r)[i]?:=by rw[<-hd,List.getElem?_drop]
 rw[List.getD_eq_getElem?_getD,this,List.getElem?_append_left hi,List.getD_eq_getElem?_getD]
theorem Fair.sS{t:List Int}:∀(l r:List Int) (p:Nat),(∀c∈l,0<=c/\c<128)->t.drop p=l++r->Fair t (p+l.length)->Fair t p
 | [],_,p,_,_,h=>by simpa using h
 | a::l,r,p,hl,hd,h=>by
  have ha:=hl a (List.mem_cons_self ..);have hb:ag t p=a:=bG (by simpa using hd);have hr:bL t p=(a,1):=by unfold bL;rw[hb,if_pos ha.2]
  refine Fair.step hr (by decide) (Fair.sS l r (p+1) (fun c hc=>hl c (List.mem_cons_of_mem _ hc)) (drop_tail (by simpa using hd)) ?_);rw[show p+1+l.length=p+(a::l).length by simp;omega];exact h
theorem AX{t:List Int}{p:Nat}(h:ag t p<128):bL t p=(ag t p,1):=by unfold bL;rw[if_pos h]
theorem NW{t:List Int}{p:Nat}{c:Int}{wd:Nat}(hr:bL t p=(c,wd))(h:¬ag t p<128):∀i,i<wd->128<=ag t (p+i):=by
 have cont:∀i,b_ t i=true->128<=ag t i:=fun i hi=>by have:=(qZ hi).2;omega
 have k0:128<=ag t p:=by omega
 unfold bL at hr;rw[if_neg h]at hr;intro i hi
 split at hr
 ·rename_i b;simp only[Bool.and_eq_true,decide_eq_true_eq]at b;have hw:wd<=2:=by split at hr<;>(have:=(Prod.mk.inj hr).2;omega)
  match i,hi with
  | 0,_=>exact k0
  | 1,_=>exact cont _ b.2
  | i+2,hi=>omega
 ·split at hr
  ·rename_i b;simp only[Bool.and_eq_true,decide_eq_true_eq]at b;have hw:wd<=3:=by split at hr<;>(have:=(Prod.mk.inj hr).2;omega)
   match i,hi with
   | 0,_=>exact k0
   | 1,_=>exact cont _ b.1.2
   | 2,_=>exact cont _ b.2
   | i+3,hi=>omega
  ·split at hr
   ·rename_i b;simp only[Bool.and_eq_true,decide_eq_true_eq]at b;have hw:wd<=4:=by split at hr<;>(have:=(Prod.mk.inj hr).2;omega)
    match i,hi with
    | 0,_=>exact k0
    | 1,_=>exact cont _ b.1.1.2
    | 2,_=>exact cont _ b.1.2
    | 3,_=>exact cont _ b.2
    | i+4,hi=>omega
   ·have:=(Prod.mk.inj hr).2;omega
theorem CE{c:Int}(h:0<=c/\c<128):∀x∈aI c,0<=x/\x<128:=by
 unfold aI Ci
 (repeat' split);all_goals
  intro x hx;simp at hx;omega
theorem Fair.flat{t:List Int}(s:ByteArray):∀(m pos q:Nat) (r:List Int),s.size<=pos+m->strayL (ints s) m pos=none->t.drop q=((ints s).drop pos).flatMap aI++r->Fair t (q+(((ints s).drop pos).flatMap aI).length)->Fair t q
 | 0,pos,q,r,hm,_,hd,h=>by
  rw[List.drop_eq_nil_of_le (by rw[ax];omega)]at h;simpa using h
 | m+1,pos,q,r,hm,hs,hd,h=>by
  by_cases hp:pos<s.size
  ·unfold strayL at hs;rw[ax,if_pos hp]at hs;obtain⟨⟨c,wd⟩,hr⟩:∃r,bL (ints s) pos=r:=⟨_,rfl⟩;rw[hr]at hs;have h0:wd≠0:=fun e=>by simp only[e,if_true]at hs;cases hs
   simp only[if_neg h0]at hs;obtain⟨he,Ch,Q5,GI⟩:=Hz (jV s) (by rw[ax];exact hp) hr h0;have Tk:(ints s).drop pos=((ints s).drop pos).take wd++(ints s).drop (pos+wd):=by
    rw[<-List.drop_drop];exact(List.take_append_drop wd _).symm
   rw[Tk,List.flatMap_append,he,List.append_assoc]at hd;rw[Tk,List.flatMap_append,he,List.length_append,<-Nat.add_assoc]at h;have NY:=Fair.flat s m (pos+wd) (q+(escRune c).length) r (by omega) hs (jD hd) h
   by_cases hb:ag (ints s) pos<128
   ·have e:=AX hb;rw[hr]at e;obtain⟨rfl,rfl⟩:=Prod.mk.inj e;have ec:escRune (ag (ints s) pos)=aI (ag (ints s) pos):=by unfold escRune;rw[if_pos hb]
    rw[ec]at hd NY;exact Fair.sS _ _ q (CE ⟨Q5,hb⟩) hd NY
   ·have hi:=NW hr hb;have cB:(((ints s).drop pos).take wd).length=wd:=by
     rw[List.length_take,List.length_drop];rw[ax]at Ch ⊢;omega
    have et:escRune c=((ints s).drop pos).take wd:=by
     rw[<-he];refine wJ _ fun x hx=> ?_;obtain⟨i,YB,rfl⟩:=List.getElem_of_mem hx;rw[cB]at YB;have:=hi i YB;unfold ag at this;rw[List.getD_eq_getElem?_getD,List.getElem?_eq_getElem (by rw[ax]at Ch ⊢;omega)]at this;simpa using this
    rw[et,cB]at NY;rw[et]at hd;refine Fair.step (DU hr h0 fun i YB=> ?_) h0 NY;rw[rf hd (by rw[cB];exact YB)];unfold ag;rw[List.getD_eq_getElem?_getD,List.getElem?_take,if_pos YB,List.getElem?_drop,List.getD_eq_getElem?_getD]
  ·rw[List.drop_eq_nil_of_le (by rw[ax];omega)]at h;simpa using h
theorem Fair.quote{t r:List Int}{s:ByteArray}{q:Nat}(hs:gU (ints s)=none)(hd:t.drop q=quote (ints s)++r)(h:Fair t (q+(quote (ints s)).length)):Fair t q:=by
 unfold Go.Proofs.YtegcgbjjpgjnmaaGreatDoor.quote at hd h;have qB:t.drop q= [34]++((ints s).flatMap aI++([34]++r)):=by rw[hd];simp
 have sI:=jD qB;have hd3:=jD sI;refine Fair.sS [34] _ q (by intro c hc;simp at hc;omega) qB ?_;unfold gU at hs;rw[ax]at hs;refine Fair.flat s s.size 0 (q+1) _ (by omega) hs (by simpa using sI) ?_;refine Fair.sS [34] r _ (by intro c hc;simp at hc;omega) (by simpa using hd3) ?_;simp only[List.length_cons,List.length_append,List.drop_zero,List.length_nil]at h ⊢;rw[show q+1+((ints s).flatMap aI).length+(0+1)=q+(((ints s).flatMap aI).length+(0+1)+1) by omega];exact h
def Pure(l:List Int):Prop:=∀(t r:List Int) (q:Nat),t.drop q=l++r->Fair t (q+l.length)->Fair t q
theorem Pure.nil:Pure []:=fun _ _ _ _ h=>by simpa using h
theorem Pure.app{a b:List Int}(ha:Pure a)(hb:Pure b):Pure (a++b):=fun t r q hd h=>by
 rw[List.append_assoc]at hd;rw[List.length_append,<-Nat.add_assoc]at h;exact ha t _ q hd (hb t r _ (jD hd) h)
theorem Pure.sS{l:List Int}(h:∀c∈l,0<=c/\c<128):Pure l:=fun _ r q hd hf=>Fair.sS l r q h hd hf
theorem Pure.text{s:ByteArray}(h:letters s=true):Pure (quote (ints s)):=fun _ _ _ hd hf=>Fair.quote (Option.isNone_iff_eq_none.1 h) hd hf
theorem Pure.one{c:Int}(h:0<=c/\c<128):Pure [c]:=Pure.sS fun x hx=>by rw[List.mem_singleton.1 hx];exact h
theorem Pure.cons{c:Int}{l:List Int}(h:0<=c/\c<128)(hl:Pure l):Pure (c::l):=(Pure.one h).app hl
theorem AY(b:Bool):Pure (if b then []else [44]):=by
 cases b
 ·exact Pure.one (by decide)
 ·exact Pure.nil
theorem DV:∀(l:List J) (b:Bool),(∀j∈l,Pure (aZ j))->Pure (gq b l)
 | [],b,_=>by rw[gq];exact Pure.nil
 | j::r,b,h=>by
  rw[gT];exact(AY b).app ((h j (List.mem_cons_self ..)).app (DV r false fun x hx=>h x (List.mem_cons_of_mem _ hx)))
theorem sU:letters aH=true:=by decide
theorem CF{ks:List ByteArray}(h:∀k∈ks,letters k=true):letters (ks.headD aH)=true:=by
 cases ks with
 | nil=>exact sU
 | cons k r=>exact h k (List.mem_cons_self ..)
theorem AZ:∀(l:List J) (ks:List ByteArray) (b:Bool),(∀k∈ks,letters k=true)->(∀j∈l,Pure (aZ j))->Pure (fU b ks l)
 | [],ks,b,_,_=>by rw[fU];exact Pure.nil
 | j::r,ks,b,hk,h=>by
  rw[iM];exact(AY b).app ((Pure.text (CF hk)).app (Pure.cons (by decide) ((h j (List.mem_cons_self ..)).app (AZ r ks.tail false (fun k iK=>hk k (List.mem_of_mem_tail iK)) fun x hx=>h x (List.mem_cons_of_mem _ hx)))))
theorem Tm{c:Int}(h:bX c=true):0<=c/\c<128:=by
 unfold bX at h;simp only[Bool.and_eq_true,decide_eq_true_eq]at h;omega
theorem A7(n:Int):∀c∈uy n,0<=c/\c<128:=by
 intro c hc;unfold uy Lib.itoa at hc
 split at hc
 ·rw[List.map_cons]at hc
  rcases List.mem_cons.1 hc with rfl| hc
  ·decide
  ·exact Tm (wG _ c hc)
 ·exact Tm (wG _ c hc)
theorem Io:∀(d:Nat) (j:J),goodJ d j=true->Pure (aZ j)
 | 0,j,h=>by unfold goodJ at h;cases h
 | d+1,.mk k i t ks l,h=>by
  obtain⟨zA,lh,Ik⟩:=iN h;have eO:∀x∈l,Pure (aZ x):=fun x hx=>Io d x (List.all_eq_true.1 zA x hx);rw[goodJ,Bool.and_eq_true]at h;have h2:=h.2;rw[aZ]
  split
  ·exact Pure.sS (by intro c hc;simp at hc;omega)
  ·rename_i k0;rw[if_neg k0]at h2
   split
   ·split<;>exact Pure.sS (by intro c hc;simp at hc;omega)
   ·rename_i k1;rw[if_neg k1]at h2
    split
    ·exact Pure.sS (A7 i)
    ·rename_i k2;rw[if_neg k2]at h2
     split
     ·rename_i k3;rw[if_pos k3]at h2;exact Pure.text h2
     ·rename_i k3;rw[if_neg k3]at h2
      split
      ·exact Pure.cons (by decide) ((DV l true eO).app (Pure.one (by decide)))
      ·rename_i k4;rw[if_neg k4]at h2
       split
       ·rename_i k5;rw[if_pos k5]at h2;simp only[Bool.and_eq_true]at h2;exact Pure.cons (by decide) ((AZ l ks true (List.all_eq_true.1 h2.1.2.1) eO).app (Pure.one (by decide)))
       ·exact Pure.nil
theorem P8{d:Nat}{j:J}(h:goodJ d j=true):gU (aZ j)=none:=by
 unfold gU;exact Io d j h (aZ j) [] 0 (by simp) (Fair.end (by omega)) _
theorem LY{j:J}(hg:goodJ 12 j=true)(hl:(aZ (ord j)).length<=16384):decode (aZ (ord j))=.ok (ord j) (aZ (ord j)).length:=by
 unfold decode;rw[if_neg (by omega),P8 (gY 12 j hg)];exact P7 hg
def Bytes(l:List Int):Prop:=∀c∈l,0<=c/\c<=255
theorem Bytes.nil:Bytes []:=fun _ h=>by cases h
theorem Bytes.app{a b:List Int}(ha:Bytes a)(hb:Bytes b):Bytes (a++b):=fun c hc=>(List.mem_append.1 hc).elim (ha c) (hb c)
theorem Bytes.cons{c:Int}{l:List Int}(h:0<=c/\c<=255)(hl:Bytes l):Bytes (c::l):=fun x hx=>by
 rcases List.mem_cons.1 hx with rfl| hx
 ·exact h
 ·exact hl x hx
theorem LZ(s:ByteArray):Bytes (ints s):=fun c hc=>by
 unfold ints at hc;obtain⟨x,_,rfl⟩:=List.mem_map.1 hc;have:=x.toNat_lt;omega
theorem Ip(s:ByteArray):Bytes (quote (ints s)):=by
 unfold quote;refine Bytes.cons (by decide) (Bytes.app (fun c hc=> ?_) (Bytes.cons (by decide) Bytes.nil));obtain⟨x,hx,hc⟩:=List.mem_flatMap.1 hc;exact(AP (LZ s x hx)).1 c hc
theorem Iq(b:Bool):Bytes (if b then []else [44]):=by
 cases b
 ·exact Bytes.cons (by decide) Bytes.nil
 ·exact Bytes.nil
theorem NZ:∀(l:List J) (b:Bool),(∀j∈l,Bytes (aZ j))->Bytes (gq b l)
 | [],b,_=>by rw[gq];exact Bytes.nil
 | j::r,b,h=>by
  rw[gT];exact(Iq b).app ((h j (List.mem_cons_self ..)).app (NZ r false fun x hx=>h x (List.mem_cons_of_mem _ hx)))
theorem N_:∀(l:List J) (ks:List ByteArray) (b:Bool),(∀j∈l,Bytes (aZ j))->Bytes (fU b ks l)
 | [],ks,b,_=>by rw[fU];exact Bytes.nil
 | j::r,ks,b,h=>by
  rw[iM];exact(Iq b).app ((Ip _).app (Bytes.cons (by decide) ((h j (List.mem_cons_self ..)).app (N_ r ks.tail false fun x hx=>h x (List.mem_cons_of_mem _ hx)))))
theorem A8:∀(d:Nat) (j:J),goodJ d j=true->Bytes (aZ j)
 | 0,j,h=>by unfold goodJ at h;cases h
 | d+1,.mk k i t ks l,h=>by
  obtain⟨zA,_,_⟩:=iN h;have eO:∀x∈l,Bytes (aZ x):=fun x hx=>A8 d x (List.all_eq_true.1 zA x hx);rw[aZ]
  split
  ·intro c hc;simp at hc;omega
  ·split
   ·split<;>(intro c hc;simp at hc;omega)
   ·split
    ·intro c hc;have:=A7 i c hc;omega
    ·split
     ·exact Ip t
     ·split
      ·exact Bytes.cons (by decide) ((NZ l true eO).app (Bytes.cons (by decide) Bytes.nil))
      ·split
       ·exact Bytes.cons (by decide) ((N_ l ks true eO).app (Bytes.cons (by decide) Bytes.nil))
       ·exact Bytes.nil
theorem Z_{w w':World}{j:J}{v:Value}(hg:goodJ 12 j=true)(h:w'.ownsRow w.heap.size 5 1 v (aZ (ord j)).length ((aZ (ord j)).map (Value.int .u8))):∃q c,v=.slice q (aZ (ord j)).length c/\Rd w'.heap.size w' q c (aZ (ord j)):=
 Kn h (A8 12 (ord j) (gY 12 j hg))
theorem lW(n:Int)(h0:0<=n)(w:World):Calls Tryz.prog 117 #[.int .i64 n] w fun x w'=>x=.returned (.bool (dK n))/\w=w':=by
 by_cases h1:n<=1114111
 ·by_cases h2:n<55296
  ·have HL:Hid (dK n=true):=by show _=_;unfold dK;simp[h1,h2]
   go_enter Tryz.func117,Tryz.ntmps117;go_wp2;go_ret;refine⟨av ?_,rfl⟩
   first| exact HL.out.symm| (rw[HL.out];simp;omega)
  ·have HL:Hid (dK n=decide (57344<=n)):=by show _=_;unfold dK;simp[h1,h2]
   go_enter Tryz.func117,Tryz.ntmps117;go_wp2;go_ret;refine⟨av ?_,rfl⟩;rw[HL.out,decide_eq_decide];omega
 ·have HL:Hid (dK n=false):=by show _=_;unfold dK;simp[h1]
  go_enter Tryz.func117,Tryz.ntmps117;go_wp2;go_ret;refine⟨av ?_,rfl⟩
  first| exact HL.out.symm| (rw[HL.out];simp;omega)
def Runes:Prop:=∀(s:ByteArray) (p:Nat) (w:World),p<s.size->s.size<=1000000000→
 Calls Tryz.prog 81 #[.string s,.int .i64 p] w fun x w'=>x=.returned (.tuple #[.int .i64 (bL (ints s) p).1,.int .i64 ((bL (ints s) p).2:Nat)])/\w=w'
def DW(r:Option Nat):Int:=match r with
 | none=> -1
 | some p=>p
theorem Fa(V:Runes)(s:ByteArray)(w:World)(hs:s.size<=1000000000):Calls Tryz.prog 41 #[.string s] w fun x w'=>x=.returned (.int .i64 (DW (gU (ints s))))/\w=w':=by
 go_enter Tryz.func41,Tryz.ntmps41;go_wp2
 go_loopw [3] (fun i wr=>∃(p m:Nat),i=.int .i64 p/\p<=s.size+4/\s.size<=p+m/\strayL (ints s) m p=gU (ints s)/\wr=w) (fun i _=>s.size - (intOf i).toNat)
 case atStart=>exact⟨0,s.size,rfl,by omega,by omega,by unfold gU;rw[ax],rfl⟩
 case round=>
  obtain⟨p,m,rfl,hp4,hpm,lV,rfl⟩:=hrel;have HS:Hid (strayL (ints s) m p=gU (ints s)):=lV;clear lV
  by_cases hp:p<s.size
  ·have hpc:(p:Int)<(s.size:Int):=by omega
   have hV:=V s p wr hp hs;obtain⟨m,rfl⟩:∃m',m=m'+1:=⟨m - 1,by omega⟩;unfold strayL at HS;rw[ax,if_pos hp]at HS;have F5:=zL (ints s) p;obtain⟨⟨c,wd⟩,hr⟩:∃r,bL (ints s) p=r:=⟨_,rfl⟩;rw[hr]at HS hV F5;simp only at HS hV F5;clear hr
   by_cases h0:wd=0
   ·subst h0;rw[if_pos rfl]at HS;go_wp2_with(go_at_call 81;refine hV.mono ?_;rintro x w' ⟨rfl,rfl⟩);go_ret;rw[<-HS.out];exact⟨rfl,rfl⟩
   ·rw[if_neg h0]at HS;have hwi:(wd:Int)≠0:=by omega
    go_wp2_with(go_at_call 81;refine hV.mono ?_;rintro x w' ⟨rfl,rfl⟩);go_roundw
    case rel=>exact⟨p+wd,m,by go_num,by omega,by omega,HS.out,trivial⟩
    case measure=>simp[intOf];omega
  ·go_wp2;go_ret;have hn:strayL (ints s) m p=none:=by
    cases m with
    | zero=>rfl
    | succ m=>unfold strayL;rw[ax,if_neg hp]
   rw[<-HS.out,hn];exact⟨rfl,rfl⟩
theorem dU{B:Nat}{a b c:World}(h:Below B a b)(hB:B<=b.heap.size)(g:Below b.heap.size b c):Below B a c:=h.trans ⟨g.os,g.tape,g.output,g.size,fun k hk=>g.block k (by omega)⟩
theorem Ir{ks:List ByteArray}{m:Nat}(hm:m<ks.length):ks.getD m aH=ks[m]:=by
 rw[List.getD_eq_getElem?_getD,List.getElem?_eq_getElem hm];rfl
theorem wN:∀(d e:Nat) (j:J),d<=e->szJ e j=true->szJ d j=true
 | 0,_,_,_,_=>by unfold szJ;rfl
 | d+1,0,_,h,_=>by omega
 | d+1,e+1,.mk k i t ks l,h,hs=>by
  unfold szJ at hs ⊢;simp only[Bool.and_eq_true]at hs ⊢;refine⟨hs.1,hs.2.1,hs.2.2.1,hs.2.2.2.1, ?_⟩;rw[List.all_eq_true];intro x hx;exact wN d e x (by omega) (List.all_eq_true.1 hs.2.2.2.2 x hx)
def fM(j:J):J:=if goodJ 12 j=true then ord j else J.zero
theorem V5{w:World}(o1 o2:Obj):((w.alloc o1).alloc o2).heap[w.heap.size+1]?=some o2:=by
 have:=heap_alloc_new (w.alloc o1) o2;simpa using this
theorem yH{w w2 w3:World}(h:Below w.heap.size w w2)(hk:aj (One (w.heap.size+1)) w2 w3):Below w.heap.size w w3:=
 h.trans (hk.below h.size fun k iK e=>by unfold One at e;omega)
theorem ui{w:World}{O:Nat->Prop}{j:J}{k i:Int}{t:ByteArray}{pk pl:Option Addr}{nk ck nl cl:Nat}(hO:∀x,O x->x<w.heap.size)(fI:szJ 12 j=true)
    (hj:isJ O w j [.int .i64 k,.int .i64 i,.string t,.slice pk nk ck,.slice pl nl cl]):
    Calls Tryz.prog 32 #[.agg #[.int .i64 k,.int .i64 i,.string t,.slice pk nk ck,.slice pl nl cl]] w fun x w'=>(∃kr ir tr pr nr cr qr mr dr,x=.returned (.agg #[.int .i64 kr,.int .i64 ir,.string tr,.slice pr nr cr,.slice qr mr dr])/\isJ (fun b=>O b\/ fB w w' b) w' (fM j) [.int .i64 kr,.int .i64 ir,.string tr,.slice pr nr cr,.slice qr mr dr])/\Below w.heap.size w w':=by
 have r_:Below w.heap.size w ((w.alloc (.cells #[.int .i64 k,.int .i64 i,.string t,.slice pk nk ck,.slice pl nl cl] 25)).alloc (.cells #[.int .i64 0,.int .i64 0,.string ⟨#[]⟩,.slice none 0 0,.slice none 0 0] 25)):=((Below.refl _ _).alloc (Nat.le_refl _) _).alloc (by simp) _;obtain⟨wB,nA⟩:∃wB,wB=((w.alloc (.cells #[.int .i64 k,.int .i64 i,.string t,.slice pk nk ck,.slice pl nl cl] 25)).alloc (.cells #[.int .i64 0,.int .i64 0,.string ⟨#[]⟩,.slice none 0 0,.slice none 0 0] 25)):=⟨_,rfl⟩;have hA:wB.heap[w.heap.size]?=some (.cells #[.int .i64 k,.int .i64 i,.string t,.slice pk nk ck,.slice pl nl cl] 25 (0,0)):=by
  rw[nA,Below.heap_alloc _ _ _ (by simp)];exact heap_alloc_new _ _
 have hR:wB.heap[w.heap.size+1]?=some (.cells #[.int .i64 0,.int .i64 0,.string ⟨#[]⟩,.slice none 0 0,.slice none 0 0] 25 (0,0)):=by rw[nA];exact V5 _ _
 rw[<-nA]at r_;have L6:∀x,O x->x<wB.heap.size:=fun x hx=>Nat.lt_of_lt_of_le (hO x hx) r_.size;have JZ:=hj.carry (O':=O) (w':=wB) fun x hx=>⟨hx,r_.block x (hO x hx)⟩;have hG:=AV L6 fI JZ;have Oa:w.heap.size<wB.heap.size:=(Array.getElem?_eq_some_iff.1 hA).1;have Z5:w.heap.size+1<wB.heap.size:=(Array.getElem?_eq_some_iff.1 hR).1;have c0:=zu hA
 cases hg:goodJ 12 j with
 | false=>
  have HZ:Hid (fM j=J.zero):=by show _=_;unfold fM;rw[hg];rfl
  rw[hg]at hG;rw[nA]at hG;clear hj JZ c0;go_enter Tryz.func32,Tryz.ntmps32;go_wp2_with(go_at_call 64;refine hG.mono ?_;rintro x w2 ⟨rfl,bM⟩;rw[<-nA]at bM;have bn:=(bM.block _ Z5).trans hR;obtain⟨i0,i1,i2,i3,i4⟩:=ai bn;obtain⟨z0,z1,z2,z3,z4⟩:=aF bn);have h5:=aK bn (.int .i64 0) (.int .i64 0) (.string ⟨#[]⟩) (.slice none 0 0) (.slice none 0 0);have aX:aj (One (w.heap.size+1)) w2 _:=aJ w2 (w.heap.size+1) (.int .i64 0) (.int .i64 0) (.string ⟨#[]⟩) (.slice none 0 0) (.slice none 0 0);unfold bF at h5 aX;obtain⟨k0,k1,k2,k3,k4⟩:=ai h5;refine bodyPost_ret (v:=.agg #[.int .i64 0,.int .i64 0,.string ⟨#[]⟩,.slice none 0 0,.slice none 0 0]) (by simp[results,Tryz.results32,go_sem,k0,k1,k2,k3,k4]) rfl ?_;refine⟨⟨_,_,_,_,_,_,_,_,_,rfl, ?_⟩,yH (ae r_ bM) aX⟩;rw[HZ.out];exact pQ _ _
 | true=>
  have HZ:Hid (fM j=ord j):=by show _=_;unfold fM;rw[hg];rfl
  have X3:Hid (goodJ 12 j=true):=hg;have HJ:Hid (isJ O wB j [.int .i64 k,.int .i64 i,.string t,.slice pk nk ck,.slice pl nl cl]):=JZ;rw[hg]at hG;rw[nA]at hG;clear hj JZ hg c0;go_enter Tryz.func32,Tryz.ntmps32;go_wp2_with(first
   | (go_at_call 64;refine hG.mono ?_;rintro x w2 ⟨rfl,bM⟩
      rw[<-nA]at bM;have hA2:=(bM.block _ Oa).trans hA;obtain⟨c0,c1,c2,c3,c4⟩:=ai hA2;have zaa:=V3 12 w2 O j k i t pk pl nk ck nl cl (fun x hx=>Nat.lt_of_lt_of_le (L6 x hx) bM.size) X3.out fI (HJ.out.carry fun x hx=>⟨hx,bM.block x (L6 x hx)⟩))
   | (go_at_call 65;refine zaa.mono ?_;rintro x w4 ⟨kr,ir,tr,pr,nr,cr,qr,mr,dr,rfl,JY,dN⟩
      have hB4:=ae bM dN;have bn:=(hB4.block _ Z5).trans hR;obtain⟨i0,i1,i2,i3,i4⟩:=ai bn;obtain⟨z0,z1,z2,z3,z4⟩:=aF bn))
  have h5:=aK bn (.int .i64 kr) (.int .i64 ir) (.string tr) (.slice pr nr cr) (.slice qr mr dr);have aX:aj (One (w.heap.size+1)) w4 _:=aJ w4 (w.heap.size+1) (.int .i64 kr) (.int .i64 ir) (.string tr) (.slice pr nr cr) (.slice qr mr dr);unfold bF at h5 aX;obtain⟨k0,k1,k2,k3,k4⟩:=ai h5;refine bodyPost_ret (v:=.agg #[.int .i64 kr,.int .i64 ir,.string tr,.slice pr nr cr,.slice qr mr dr]) (by simp[results,Tryz.results32,go_sem,k0,k1,k2,k3,k4]) rfl ?_;refine⟨⟨_,_,_,_,_,_,_,_,_,rfl, ?_⟩,yH (ae r_ hB4) aX⟩;rw[HZ.out];refine JY.carry fun x hx=> ?_;have bJ:x<w4.heap.size/\x≠w.heap.size+1:=by
   have s2:=bM.size;have s4:=dN.size
   rcases hx with hx| hx
   ·have:=hO x hx;exact⟨by have:=r_.size;omega,by omega⟩
   ·have:=hx.1;exact⟨hx.2,by omega⟩
  have Q4:O x\/ w.heap.size<=x:=by
   rcases hx with hx| hx
   ·exact .inl hx
   ·have:=hx.1;have:=bM.size;have:=r_.size;exact .inr (by omega)
  exact⟨Q4.elim .inl fun h=>.inr ⟨h,Nat.lt_of_lt_of_le bJ.1 aX.size⟩,aX.block x bJ.1 (by unfold One;exact bJ.2)⟩
structure CG(e:Ev):Prop where
 room:e.room.size<=1000000000
 aQ:e.aQ.size<=1000000000
 ah:e.ah.size<=1000000000
 key:e.key.size<=1000000000
 hash:e.hash.size<=1000000000
 cont:szJ 12 e.content=true
 prev:e.prev.length<=100000
 DX:∀x∈e.prev,x.size<=1000000000
 aC:e.aC.length<=100000
 DY:∀x∈e.aC,x.size<=1000000000
 sigs:e.sigs.length<=100000
 A9:∀x∈e.sigs,x.1.size<=1000000000/\x.2.size<=1000000000
end Go.Proofs.YtegcgbjjpgjnmaaGreatDoor

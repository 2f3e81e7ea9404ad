/- A part. -/
import Derived.Test.YtegcgbjjpgjnmaaGreatDoorE25
set_option maxRecDepth 100000
set_option maxHeartbeats 16000000
namespace Go.Proofs.YtegcgbjjpgjnmaaGreatDoor
open Go.RowKit Go.Maps
theorem Jy{O:Nat->Prop}(room aQ ah key:ByteArray)(k i:Int)(t:ByteArray)(nk nl np na:Nat)(depth ts:Int)(hash:ByteArray)(ns:Nat)(pk:Option Addr)(ck:Nat)(pl:Option Addr)(cl:Nat)(pp:Option Addr)(cp:Nat)(pa:Option Addr)(ca:Nat)(ps:Option Addr)(cs:Nat)(w:World)(oc jp ja:J)(sigs:List (ByteArray×ByteArray))(HRS:Hid (Aa O w ps cs sigs))(Vm:Hid (sigs.length=ns))(hns:ns<=90000)(Gr:ns<=cs)
    (HO:Hid (∀k,O k->k<w.heap.size))
    (HA:Hid (∀W,Below w.heap.size w W->Calls Tryz.prog 54 #[.slice pa na ca] W fun x w'=>(∃pl nl cl,x=.returned (.agg #[.int .i64 4,.int .i64 0,.string aH,.slice none 0 0,.slice pl nl cl])/\isJ (fB W w') w' ja [.int .i64 4,.int .i64 0,.string aH,.slice none 0 0,.slice pl nl cl])/\Below W.heap.size W w'))
    (HF2:Hid (∀W,Below w.heap.size w W->Calls Tryz.prog 36 #[.agg #[.int .i64 k,.int .i64 i,.string t,.slice pk nk ck,.slice pl nl cl]] W fun x w'=>(∃kr ir tr pr nr cr qr mr dr,x=.returned (.agg #[.int .i64 kr,.int .i64 ir,.string tr,.slice pr nr cr,.slice qr mr dr])/\isJ (fun b=>O b\/ fB W w' b) w' oc [.int .i64 kr,.int .i64 ir,.string tr,.slice pr nr cr,.slice qr mr dr])/\Below W.heap.size W w'))
    (HF7:Hid (∀W,Below w.heap.size w W->Calls Tryz.prog 54 #[.slice pp np cp] W fun x w'=>(∃pl nl cl,x=.returned (.agg #[.int .i64 4,.int .i64 0,.string aH,.slice none 0 0,.slice pl nl cl])/\isJ (fB W w') w' jp [.int .i64 4,.int .i64 0,.string aH,.slice none 0 0,.slice pl nl cl])/\Below W.heap.size W w')):
    Calls Tryz.prog 30 #[.agg #[.string room,.string aQ,.string ah,.bool false,.string key,.int .i64 k,.int .i64 i,.string t,.slice pk nk ck,.slice pl nl cl,.slice pp np cp,.slice pa na ca,.int .i64 depth,.int .i64 ts,.string hash,.slice ps ns cs]] w fun x w'=>(∃kr ir tr pr nr cr qr mr dr,x=.returned (.agg #[.int .i64 kr,.int .i64 ir,.string tr,.slice pr nr cr,.slice qr mr dr])/\isJ (fun b=>O b\/ fB w w' b) w' (.mk 5 0 aH [dA,aS,cu,dO,eu,eX,bZ,fP,uL,gH] [ja,oc,gz depth,aL hash,jp,aL room,aL ah,dF sigs,gz ts,aL aQ]) [.int .i64 kr,.int .i64 ir,.string tr,.slice pr nr cr,.slice qr mr dr])/\Below w.heap.size w w':=by
 have zau:Hid (∀W,Below w.heap.size w W->Calls Tryz.prog 55 #[.int .i64 ts] W fun x w'=>x=.returned (.agg #[.int .i64 2,.int .i64 ts,.string ⟨#[]⟩,.slice none 0 0,.slice none 0 0])/\Below W.heap.size W w'):=fun W _=>wZ ts W;have zav:Hid (∀W,Below w.heap.size w W->Calls Tryz.prog 56 #[.string aQ] W fun x w'=>x=.returned (.agg #[.int .i64 3,.int .i64 0,.string aQ,.slice none 0 0,.slice none 0 0])/\Below W.heap.size W w'):=fun W _=>iR aQ W;have HF3:Hid (∀W,Below w.heap.size w W->Calls Tryz.prog 55 #[.int .i64 depth] W fun x w'=>x=.returned (.agg #[.int .i64 2,.int .i64 depth,.string ⟨#[]⟩,.slice none 0 0,.slice none 0 0])/\Below W.heap.size W w'):=fun W _=>wZ depth W;have HF4:Hid (∀W,Below w.heap.size w W->Calls Tryz.prog 56 #[.string hash] W fun x w'=>x=.returned (.agg #[.int .i64 3,.int .i64 0,.string hash,.slice none 0 0,.slice none 0 0])/\Below W.heap.size W w'):=fun W _=>iR hash W;have HF6:Hid (∀W,Below w.heap.size w W->Calls Tryz.prog 56 #[.string key] W fun x w'=>x=.returned (.agg #[.int .i64 3,.int .i64 0,.string key,.slice none 0 0,.slice none 0 0])/\Below W.heap.size W w'):=fun W _=>iR key W;have HF8:Hid (∀W,Below w.heap.size w W->Calls Tryz.prog 56 #[.string room] W fun x w'=>x=.returned (.agg #[.int .i64 3,.int .i64 0,.string room,.slice none 0 0,.slice none 0 0])/\Below W.heap.size W w'):=fun W _=>iR room W;have HF9:Hid (∀W,Below w.heap.size w W->Calls Tryz.prog 56 #[.string ah] W fun x w'=>x=.returned (.agg #[.int .i64 3,.int .i64 0,.string ah,.slice none 0 0,.slice none 0 0])/\Below W.heap.size W w'):=fun W _=>iR ah W;obtain⟨WB,dw⟩:∃WB,WB=(w.alloc (.cells #[.string room,.string aQ,.string ah,.bool false,.string key,.int .i64 k,.int .i64 i,.string t,.slice pk nk ck,.slice pl nl cl,.slice pp np cp,.slice pa na ca,.int .i64 depth,.int .i64 ts,.string hash,.slice ps ns cs] 28)).alloc (.cells #[.int .i64 0,.int .i64 0,.string ⟨#[]⟩,.slice none 0 0,.slice none 0 0] 25):=⟨_,rfl⟩;have cK:Below w.heap.size w WB:=by rw[dw];exact((Below.refl _ _).alloc (Nat.le_refl _) _).alloc (by simp) _
 have lX:WB.heap[w.heap.size]?=some (.cells #[.string room,.string aQ,.string ah,.bool false,.string key,.int .i64 k,.int .i64 i,.string t,.slice pk nk ck,.slice pl nl cl,.slice pp np cp,.slice pa na ca,.int .i64 depth,.int .i64 ts,.string hash,.slice ps ns cs] 28 (0,0)):=by rw[dw];exact jL _ _
 have rP:WB.heap[w.heap.size+1]?=some (.cells #[.int .i64 0,.int .i64 0,.string ⟨#[]⟩,.slice none 0 0,.slice none 0 0] 25 (0,0)):=by rw[dw];exact iq _ _
 have wU:WB.heap.size=w.heap.size+2:=by rw[dw];simp
 have uQ:=az lX 11 _ rfl;have hA:=HA.out WB cK;go_enter Tryz.func30,Tryz.ntmps30
 go_upto_region 1 with fail
 rw[<-dw];clear dw
 go_upto_region 2 with(first
  | (go_at_call 54;refine hA.mono ?_;rintro x w1 ⟨⟨pl1,nl1,cl1,rfl,Jd⟩,bI⟩
     have hP:=tL (w:=w1) (O:=fun b=>O b\/ fB WB w1 b) (j:=.mk 5 0 aH [] []) (v:=ja) dA (fun b hb=>hb.elim (fun h=>by have:=HO.out b h;have:=bI.size;omega) fun h=>h.2) (k:=5) (i:=0) (t:=⟨#[]⟩) (pk:=none) (pl:=none) (nk:=0) (ck:=0) (nl:=0) (cl:=0) (by unfold isJ;exact⟨none,0,none,0,rfl,jT.nil _ _,Nat.le_refl _,by unfold isJs;trivial⟩) (ni Jd) (fun _=>rfl) (fun _=>rfl) (by omega) (by omega))
  | (go_at_call 25;refine hP.mono ?_;rintro x w2 ⟨⟨b1,c1,b2,c2,rfl,yZ⟩,bM⟩))
 have hJ:∃y1 y2 y3 y4,JI O w (.cells #[.string room,.string aQ,.string ah,.bool false,.string key,.int .i64 k,.int .i64 i,.string t,.slice pk nk ck,.slice pl nl cl,.slice pp np cp,.slice pa na ca,.int .i64 depth,.int .i64 ts,.string hash,.slice ps ns cs] 28 (0,0)) w2.heap.size [dA] [ja] 1 y1 y2 y3 y4 (w2.alloc (.cells #[.int .i64 5,.int .i64 0,.string ⟨#[]⟩,.slice (some ⟨b1,0,none⟩) 1 c1,.slice (some ⟨b2,0,none⟩) 1 c2] 25)):=⟨b1,c1,b2,c2,JI.start HO.out cK wU lX rP (ae bI bM) (yZ.carry fun q hq=>⟨hq.elim (fun h=>h.elim .inl fun h=>.inr ⟨h.1,by have:=h.2;have:=bM.size;omega⟩) fun h=>.inr ⟨by have:=h.1;have:=bI.size;omega,h.2⟩,rfl⟩)⟩;generalize w2.alloc (.cells #[.int .i64 5,.int .i64 0,.string ⟨#[]⟩,.slice (some ⟨b1,0,none⟩) 1 c1,.slice (some ⟨b2,0,none⟩) 1 c2] 25)=W at hJ ⊢;generalize w2.heap.size=b3 at hJ ⊢;clear yZ bM hP Jd bI hA uQ lX rP wU cK w2 w1 WB
 go_cut [] (fun wx=>∃q1 c1 q2 c2,JI O w (.cells #[.string room,.string aQ,.string ah,.bool false,.string key,.int .i64 k,.int .i64 i,.string t,.slice pk nk ck,.slice pl nl cl,.slice pp np cp,.slice pa na ca,.int .i64 depth,.int .i64 ts,.string hash,.slice ps ns cs] 28 (0,0)) b3 [dA,aS] [ja,oc] 2 q1 c1 q2 c2 wx)
 case first=>
  obtain⟨q1,c1,q2,c2,hJ⟩:=hJ;have aV:=hJ.more HO.out (Below.refl _ _).drew;have hF:=HF2.out _ aV.below;clear hJ;refine aD (by kernel_rfl) (fun X=>X.heap[w.heap.size]?=some (.cells #[.string room,.string aQ,.string ah,.bool false,.string key,.int .i64 k,.int .i64 i,.string t,.slice pk nk ck,.slice pl nl cl,.slice pp np cp,.slice pa na ca,.int .i64 depth,.int .i64 ts,.string hash,.slice ps ns cs] 28 (0,0))) ?_;change wpIn _ _ _ _ _ _ _ _ (World.drew _);refine aa (i:=1) (d:=some 12) rfl ?_;refine aB (i:=2) (d:=some 13) rfl (by(intro wq hq;have q5:=az hq 5 _ rfl;have q6:=az hq 6 _ rfl;have q7:=az hq 7 _ rfl;have q8:=az hq 8 _ rfl;have q9:=az hq 9 _ rfl;go_simp;first| done| with_reducible rfl)) ?_;refine aW (i:=0) (j:=3) aV.box (by kernel_rfl) rfl rfl (by rfl) (by rfl) ?_ ?_
  ·intro K hK;obtain⟨c0,lI,jU,c3,c4⟩:=ai aV.obj;go_simp;refine hK _ _ ?_;clear hK K;refine ak (i:=3) aV.box rfl ?_;intro K hK;go_simp;go_wp2_with(go_at_call 36;refine hF.mono ?_;rintro x w3 ⟨⟨kr,ir,tr,pr,nr,cr,qr,mr,dr,rfl,rM⟩,a_⟩);refine ak (i:=4) ((a_.block _ (by have:=aV.low;have:=aV.lt;omega)).trans aV.box) rfl ?_;intro K hK;go_simp;go_wp2_with(go_at_call 25;refine(aV.put HO.out a_ (by decide) rM _).mono ?_;rintro x w4 ⟨b1,d1,b2,d2,rfl,bQ,ji,eU⟩);obtain⟨i0,i1,i2,i3,i4⟩:=ai bQ;obtain⟨z0,z1,z2,z3,z4⟩:=aF bQ;unfold bF at eU;refine ak (i:=5) ji rfl ?_;intro K hK;go_simp;refine hK _ _ ?_;clear hK K i0 i1 i2 i3 i4 z0 z1 z2 z3 z4;refine aA eU.box (by kernel_rfl) ?_ _;go_wp2
   go_meet
   case rel=>exact⟨_,_,_,_,eU⟩
  ·intro K hK;go_simp;go_wp2_with(go_at_call 36;refine hF.mono ?_;rintro x w3 ⟨⟨kr,ir,tr,pr,nr,cr,qr,mr,dr,rfl,rM⟩,a_⟩);have h3:=(aV.more HO.out a_).obj;obtain⟨c0,lI,jU,c3,c4⟩:=ai h3;refine ak (i:=0) ((a_.block _ (by have:=aV.low;have:=aV.lt;omega)).trans aV.box) rfl ?_;intro K hK;go_simp;refine hK _ _ ?_;clear hK K c0 lI jU c3 c4 h3;refine ak (i:=4) ((a_.block _ (by have:=aV.low;have:=aV.lt;omega)).trans aV.box) rfl ?_;intro K hK;go_simp;go_wp2_with(go_at_call 25;refine(aV.put HO.out a_ (by decide) rM _).mono ?_;rintro x w4 ⟨b1,d1,b2,d2,rfl,bQ,ji,eU⟩);obtain⟨i0,i1,i2,i3,i4⟩:=ai bQ;obtain⟨z0,z1,z2,z3,z4⟩:=aF bQ;unfold bF at eU;refine ak (i:=5) ji rfl ?_;intro K hK;go_simp;refine hK _ _ ?_;clear hK K i0 i1 i2 i3 i4 z0 z1 z2 z3 z4;refine aA eU.box (by kernel_rfl) ?_ _;go_wp2
   go_meet
   case rel=>exact⟨_,_,_,_,eU⟩
 case rest=>
 have hJ:=hcut;clear hcut
 go_upto_region 3 with fail
 go_cut [] (fun wx=>∃q1 c1 q2 c2,JI O w (.cells #[.string room,.string aQ,.string ah,.bool false,.string key,.int .i64 k,.int .i64 i,.string t,.slice pk nk ck,.slice pl nl cl,.slice pp np cp,.slice pa na ca,.int .i64 depth,.int .i64 ts,.string hash,.slice ps ns cs] 28 (0,0)) b3 [dA,aS,cu] [ja,oc,gz depth] 3 q1 c1 q2 c2 wx)
 case first=>
  obtain⟨q1,c1,q2,c2,hJ⟩:=hJ;have aV:=hJ.more HO.out (Below.refl _ _).drew;have hF:=HF3.out _ aV.below;clear hJ;refine aD (by kernel_rfl) (fun X=>X.heap[w.heap.size]?=some (.cells #[.string room,.string aQ,.string ah,.bool false,.string key,.int .i64 k,.int .i64 i,.string t,.slice pk nk ck,.slice pl nl cl,.slice pp np cp,.slice pa na ca,.int .i64 depth,.int .i64 ts,.string hash,.slice ps ns cs] 28 (0,0))) ?_;change wpIn _ _ _ _ _ _ _ _ (World.drew _);refine aa (i:=1) (d:=some 17) rfl ?_;refine aB (i:=2) (d:=some 18) rfl (by(intro wq hq;have q12:=az hq 12 _ rfl;go_simp;first| done| with_reducible rfl)) ?_;refine aW (i:=0) (j:=3) aV.box (by kernel_rfl) rfl rfl (by rfl) (by rfl) ?_ ?_
  ·intro K hK;obtain⟨c0,lI,jU,c3,c4⟩:=ai aV.obj;go_simp;refine hK _ _ ?_;clear hK K;refine ak (i:=3) aV.box rfl ?_;intro K hK;go_simp;go_wp2_with(go_at_call 55;refine hF.mono ?_;rintro x w3 ⟨rfl,a_⟩);refine ak (i:=4) ((a_.block _ (by have:=aV.low;have:=aV.lt;omega)).trans aV.box) rfl ?_;intro K hK;go_simp;go_wp2_with(go_at_call 25;refine(aV.put HO.out a_ (by decide) (kI _ _ depth) _).mono ?_;rintro x w4 ⟨b1,d1,b2,d2,rfl,bQ,ji,eU⟩);obtain⟨i0,i1,i2,i3,i4⟩:=ai bQ;obtain⟨z0,z1,z2,z3,z4⟩:=aF bQ;unfold bF at eU;refine ak (i:=5) ji rfl ?_;intro K hK;go_simp;refine hK _ _ ?_;clear hK K i0 i1 i2 i3 i4 z0 z1 z2 z3 z4;refine aA eU.box (by kernel_rfl) ?_ _;go_wp2
   go_meet
   case rel=>exact⟨_,_,_,_,eU⟩
  ·intro K hK;go_simp;go_wp2_with(go_at_call 55;refine hF.mono ?_;rintro x w3 ⟨rfl,a_⟩);have h3:=(aV.more HO.out a_).obj;obtain⟨c0,lI,jU,c3,c4⟩:=ai h3;refine ak (i:=0) ((a_.block _ (by have:=aV.low;have:=aV.lt;omega)).trans aV.box) rfl ?_;intro K hK;go_simp;refine hK _ _ ?_;clear hK K c0 lI jU c3 c4 h3;refine ak (i:=4) ((a_.block _ (by have:=aV.low;have:=aV.lt;omega)).trans aV.box) rfl ?_;intro K hK;go_simp;go_wp2_with(go_at_call 25;refine(aV.put HO.out a_ (by decide) (kI _ _ depth) _).mono ?_;rintro x w4 ⟨b1,d1,b2,d2,rfl,bQ,ji,eU⟩);obtain⟨i0,i1,i2,i3,i4⟩:=ai bQ;obtain⟨z0,z1,z2,z3,z4⟩:=aF bQ;unfold bF at eU;refine ak (i:=5) ji rfl ?_;intro K hK;go_simp;refine hK _ _ ?_;clear hK K i0 i1 i2 i3 i4 z0 z1 z2 z3 z4;refine aA eU.box (by kernel_rfl) ?_ _;go_wp2
   go_meet
   case rel=>exact⟨_,_,_,_,eU⟩
 case rest=>
 have hJ:=hcut;clear hcut
 go_upto_region 4 with fail
 go_cut [] (fun wx=>∃q1 c1 q2 c2,JI O w (.cells #[.string room,.string aQ,.string ah,.bool false,.string key,.int .i64 k,.int .i64 i,.string t,.slice pk nk ck,.slice pl nl cl,.slice pp np cp,.slice pa na ca,.int .i64 depth,.int .i64 ts,.string hash,.slice ps ns cs] 28 (0,0)) b3 [dA,aS,cu,dO] [ja,oc,gz depth,aL hash] 4 q1 c1 q2 c2 wx)
 case first=>
  obtain⟨q1,c1,q2,c2,hJ⟩:=hJ;have aV:=hJ.more HO.out (Below.refl _ _).drew;have hF:=HF4.out _ aV.below;clear hJ;refine aD (by kernel_rfl) (fun X=>X.heap[w.heap.size]?=some (.cells #[.string room,.string aQ,.string ah,.bool false,.string key,.int .i64 k,.int .i64 i,.string t,.slice pk nk ck,.slice pl nl cl,.slice pp np cp,.slice pa na ca,.int .i64 depth,.int .i64 ts,.string hash,.slice ps ns cs] 28 (0,0))) ?_;change wpIn _ _ _ _ _ _ _ _ (World.drew _);refine aa (i:=1) (d:=some 22) rfl ?_;refine aB (i:=2) (d:=some 23) rfl (by(intro wq hq;have q14:=az hq 14 _ rfl;go_simp;first| done| with_reducible rfl)) ?_;refine aW (i:=0) (j:=3) aV.box (by kernel_rfl) rfl rfl (by rfl) (by rfl) ?_ ?_
  ·intro K hK;obtain⟨c0,lI,jU,c3,c4⟩:=ai aV.obj;go_simp;refine hK _ _ ?_;clear hK K;refine ak (i:=3) aV.box rfl ?_;intro K hK;go_simp;go_wp2_with(go_at_call 56;refine hF.mono ?_;rintro x w3 ⟨rfl,a_⟩);refine ak (i:=4) ((a_.block _ (by have:=aV.low;have:=aV.lt;omega)).trans aV.box) rfl ?_;intro K hK;go_simp;go_wp2_with(go_at_call 25;refine(aV.put HO.out a_ (by decide) (bB _ _ hash) _).mono ?_;rintro x w4 ⟨b1,d1,b2,d2,rfl,bQ,ji,eU⟩);obtain⟨i0,i1,i2,i3,i4⟩:=ai bQ;obtain⟨z0,z1,z2,z3,z4⟩:=aF bQ;unfold bF at eU;refine ak (i:=5) ji rfl ?_;intro K hK;go_simp;refine hK _ _ ?_;clear hK K i0 i1 i2 i3 i4 z0 z1 z2 z3 z4;refine aA eU.box (by kernel_rfl) ?_ _;go_wp2
   go_meet
   case rel=>exact⟨_,_,_,_,eU⟩
  ·intro K hK;go_simp;go_wp2_with(go_at_call 56;refine hF.mono ?_;rintro x w3 ⟨rfl,a_⟩);have h3:=(aV.more HO.out a_).obj;obtain⟨c0,lI,jU,c3,c4⟩:=ai h3;refine ak (i:=0) ((a_.block _ (by have:=aV.low;have:=aV.lt;omega)).trans aV.box) rfl ?_;intro K hK;go_simp;refine hK _ _ ?_;clear hK K c0 lI jU c3 c4 h3;refine ak (i:=4) ((a_.block _ (by have:=aV.low;have:=aV.lt;omega)).trans aV.box) rfl ?_;intro K hK;go_simp;go_wp2_with(go_at_call 25;refine(aV.put HO.out a_ (by decide) (bB _ _ hash) _).mono ?_;rintro x w4 ⟨b1,d1,b2,d2,rfl,bQ,ji,eU⟩);obtain⟨i0,i1,i2,i3,i4⟩:=ai bQ;obtain⟨z0,z1,z2,z3,z4⟩:=aF bQ;unfold bF at eU;refine ak (i:=5) ji rfl ?_;intro K hK;go_simp;refine hK _ _ ?_;clear hK K i0 i1 i2 i3 i4 z0 z1 z2 z3 z4;refine aA eU.box (by kernel_rfl) ?_ _;go_wp2
   go_meet
   case rel=>exact⟨_,_,_,_,eU⟩
 case rest=>
 have hJ:=hcut;clear hcut;have s3:wc.cell? ⟨w.heap.size,3,none⟩=some (.bool false):=by obtain⟨_,_,_,_,h⟩:=hJ;exact az h.box 3 _ rfl
 go_upto_region 7 with fail
 clear s3
 go_cut [] (fun wx=>∃q1 c1 q2 c2,JI O w (.cells #[.string room,.string aQ,.string ah,.bool false,.string key,.int .i64 k,.int .i64 i,.string t,.slice pk nk ck,.slice pl nl cl,.slice pp np cp,.slice pa na ca,.int .i64 depth,.int .i64 ts,.string hash,.slice ps ns cs] 28 (0,0)) b3 [dA,aS,cu,dO,eu] [ja,oc,gz depth,aL hash,jp] 5 q1 c1 q2 c2 wx)
 case first=>
  obtain⟨q1,c1,q2,c2,hJ⟩:=hJ;have aV:=hJ.more HO.out (Below.refl _ _).drew;have hF:=HF7.out _ aV.below;clear hJ;refine aD (by kernel_rfl) (fun X=>X.heap[w.heap.size]?=some (.cells #[.string room,.string aQ,.string ah,.bool false,.string key,.int .i64 k,.int .i64 i,.string t,.slice pk nk ck,.slice pl nl cl,.slice pp np cp,.slice pa na ca,.int .i64 depth,.int .i64 ts,.string hash,.slice ps ns cs] 28 (0,0))) ?_;change wpIn _ _ _ _ _ _ _ _ (World.drew _);refine aa (i:=1) (d:=some 34) rfl ?_;refine aB (i:=2) (d:=some 35) rfl (by(intro wq hq;have vT:=az hq 10 _ rfl;go_simp;first| done| with_reducible rfl)) ?_;refine aW (i:=0) (j:=3) aV.box (by kernel_rfl) rfl rfl (by rfl) (by rfl) ?_ ?_
  ·intro K hK;obtain⟨c0,lI,jU,c3,c4⟩:=ai aV.obj;go_simp;refine hK _ _ ?_;clear hK K;refine ak (i:=3) aV.box rfl ?_;intro K hK;go_simp;go_wp2_with(go_at_call 54;refine hF.mono ?_;rintro x w3 ⟨⟨pl3,nl3,cl3,rfl,rM⟩,a_⟩);refine ak (i:=4) ((a_.block _ (by have:=aV.low;have:=aV.lt;omega)).trans aV.box) rfl ?_;intro K hK;go_simp;go_wp2_with(go_at_call 25;refine(aV.put HO.out a_ (by decide) (ni rM) _).mono ?_;rintro x w4 ⟨b1,d1,b2,d2,rfl,bQ,ji,eU⟩);obtain⟨i0,i1,i2,i3,i4⟩:=ai bQ;obtain⟨z0,z1,z2,z3,z4⟩:=aF bQ;unfold bF at eU;refine ak (i:=5) ji rfl ?_;intro K hK;go_simp;refine hK _ _ ?_;clear hK K i0 i1 i2 i3 i4 z0 z1 z2 z3 z4;refine aA eU.box (by kernel_rfl) ?_ _;go_wp2
   go_meet
   case rel=>exact⟨_,_,_,_,eU⟩
  ·intro K hK;go_simp;go_wp2_with(go_at_call 54;refine hF.mono ?_;rintro x w3 ⟨⟨pl3,nl3,cl3,rfl,rM⟩,a_⟩);have h3:=(aV.more HO.out a_).obj;obtain⟨c0,lI,jU,c3,c4⟩:=ai h3;refine ak (i:=0) ((a_.block _ (by have:=aV.low;have:=aV.lt;omega)).trans aV.box) rfl ?_;intro K hK;go_simp;refine hK _ _ ?_;clear hK K c0 lI jU c3 c4 h3;refine ak (i:=4) ((a_.block _ (by have:=aV.low;have:=aV.lt;omega)).trans aV.box) rfl ?_;intro K hK;go_simp;go_wp2_with(go_at_call 25;refine(aV.put HO.out a_ (by decide) (ni rM) _).mono ?_;rintro x w4 ⟨b1,d1,b2,d2,rfl,bQ,ji,eU⟩);obtain⟨i0,i1,i2,i3,i4⟩:=ai bQ;obtain⟨z0,z1,z2,z3,z4⟩:=aF bQ;unfold bF at eU;refine ak (i:=5) ji rfl ?_;intro K hK;go_simp;refine hK _ _ ?_;clear hK K i0 i1 i2 i3 i4 z0 z1 z2 z3 z4;refine aA eU.box (by kernel_rfl) ?_ _;go_wp2
   go_meet
   case rel=>exact⟨_,_,_,_,eU⟩
 case rest=>
 have hJ:=hcut;clear hcut
 go_upto_region 8 with fail
 go_cut [] (fun wx=>∃q1 c1 q2 c2,JI O w (.cells #[.string room,.string aQ,.string ah,.bool false,.string key,.int .i64 k,.int .i64 i,.string t,.slice pk nk ck,.slice pl nl cl,.slice pp np cp,.slice pa na ca,.int .i64 depth,.int .i64 ts,.string hash,.slice ps ns cs] 28 (0,0)) b3 [dA,aS,cu,dO,eu,eX] [ja,oc,gz depth,aL hash,jp,aL room] 6 q1 c1 q2 c2 wx)
 case first=>
  obtain⟨q1,c1,q2,c2,hJ⟩:=hJ;have aV:=hJ.more HO.out (Below.refl _ _).drew;have hF:=HF8.out _ aV.below;clear hJ;refine aD (by kernel_rfl) (fun X=>X.heap[w.heap.size]?=some (.cells #[.string room,.string aQ,.string ah,.bool false,.string key,.int .i64 k,.int .i64 i,.string t,.slice pk nk ck,.slice pl nl cl,.slice pp np cp,.slice pa na ca,.int .i64 depth,.int .i64 ts,.string hash,.slice ps ns cs] 28 (0,0))) ?_;change wpIn _ _ _ _ _ _ _ _ (World.drew _);refine aa (i:=1) (d:=some 39) rfl ?_;refine aB (i:=2) (d:=some 40) rfl (by(intro wq hq;have q0:=az hq 0 _ rfl;go_simp;first| done| with_reducible rfl)) ?_;refine aW (i:=0) (j:=3) aV.box (by kernel_rfl) rfl rfl (by rfl) (by rfl) ?_ ?_
  ·intro K hK;obtain⟨c0,lI,jU,c3,c4⟩:=ai aV.obj;go_simp;refine hK _ _ ?_;clear hK K;refine ak (i:=3) aV.box rfl ?_;intro K hK;go_simp;go_wp2_with(go_at_call 56;refine hF.mono ?_;rintro x w3 ⟨rfl,a_⟩);refine ak (i:=4) ((a_.block _ (by have:=aV.low;have:=aV.lt;omega)).trans aV.box) rfl ?_;intro K hK;go_simp;go_wp2_with(go_at_call 25;refine(aV.put HO.out a_ (by decide) (bB _ _ room) _).mono ?_;rintro x w4 ⟨b1,d1,b2,d2,rfl,bQ,ji,eU⟩);obtain⟨i0,i1,i2,i3,i4⟩:=ai bQ;obtain⟨z0,z1,z2,z3,z4⟩:=aF bQ;unfold bF at eU;refine ak (i:=5) ji rfl ?_;intro K hK;go_simp;refine hK _ _ ?_;clear hK K i0 i1 i2 i3 i4 z0 z1 z2 z3 z4;refine aA eU.box (by kernel_rfl) ?_ _;go_wp2
   go_meet
   case rel=>exact⟨_,_,_,_,eU⟩
  ·intro K hK;go_simp;go_wp2_with(go_at_call 56;refine hF.mono ?_;rintro x w3 ⟨rfl,a_⟩);have h3:=(aV.more HO.out a_).obj;obtain⟨c0,lI,jU,c3,c4⟩:=ai h3;refine ak (i:=0) ((a_.block _ (by have:=aV.low;have:=aV.lt;omega)).trans aV.box) rfl ?_;intro K hK;go_simp;refine hK _ _ ?_;clear hK K c0 lI jU c3 c4 h3;refine ak (i:=4) ((a_.block _ (by have:=aV.low;have:=aV.lt;omega)).trans aV.box) rfl ?_;intro K hK;go_simp;go_wp2_with(go_at_call 25;refine(aV.put HO.out a_ (by decide) (bB _ _ room) _).mono ?_;rintro x w4 ⟨b1,d1,b2,d2,rfl,bQ,ji,eU⟩);obtain⟨i0,i1,i2,i3,i4⟩:=ai bQ;obtain⟨z0,z1,z2,z3,z4⟩:=aF bQ;unfold bF at eU;refine ak (i:=5) ji rfl ?_;intro K hK;go_simp;refine hK _ _ ?_;clear hK K i0 i1 i2 i3 i4 z0 z1 z2 z3 z4;refine aA eU.box (by kernel_rfl) ?_ _;go_wp2
   go_meet
   case rel=>exact⟨_,_,_,_,eU⟩
 case rest=>
 have hJ:=hcut;clear hcut
 go_upto_region 9 with fail
 go_cut [] (fun wx=>∃q1 c1 q2 c2,JI O w (.cells #[.string room,.string aQ,.string ah,.bool false,.string key,.int .i64 k,.int .i64 i,.string t,.slice pk nk ck,.slice pl nl cl,.slice pp np cp,.slice pa na ca,.int .i64 depth,.int .i64 ts,.string hash,.slice ps ns cs] 28 (0,0)) b3 [dA,aS,cu,dO,eu,eX,bZ] [ja,oc,gz depth,aL hash,jp,aL room,aL ah] 7 q1 c1 q2 c2 wx)
 case first=>
  obtain⟨q1,c1,q2,c2,hJ⟩:=hJ;have aV:=hJ.more HO.out (Below.refl _ _).drew;have hF:=HF9.out _ aV.below;clear hJ;refine aD (by kernel_rfl) (fun X=>X.heap[w.heap.size]?=some (.cells #[.string room,.string aQ,.string ah,.bool false,.string key,.int .i64 k,.int .i64 i,.string t,.slice pk nk ck,.slice pl nl cl,.slice pp np cp,.slice pa na ca,.int .i64 depth,.int .i64 ts,.string hash,.slice ps ns cs] 28 (0,0))) ?_;change wpIn _ _ _ _ _ _ _ _ (World.drew _);refine aa (i:=1) (d:=some 44) rfl ?_;refine aB (i:=2) (d:=some 45) rfl (by(intro wq hq;have q2:=az hq 2 _ rfl;go_simp;first| done| with_reducible rfl)) ?_;refine aW (i:=0) (j:=3) aV.box (by kernel_rfl) rfl rfl (by rfl) (by rfl) ?_ ?_
  ·intro K hK;obtain⟨c0,lI,jU,c3,c4⟩:=ai aV.obj;go_simp;refine hK _ _ ?_;clear hK K;refine ak (i:=3) aV.box rfl ?_;intro K hK;go_simp;go_wp2_with(go_at_call 56;refine hF.mono ?_;rintro x w3 ⟨rfl,a_⟩);refine ak (i:=4) ((a_.block _ (by have:=aV.low;have:=aV.lt;omega)).trans aV.box) rfl ?_;intro K hK;go_simp;go_wp2_with(go_at_call 25;refine(aV.put HO.out a_ (by decide) (bB _ _ ah) _).mono ?_;rintro x w4 ⟨b1,d1,b2,d2,rfl,bQ,ji,eU⟩);obtain⟨i0,i1,i2,i3,i4⟩:=ai bQ;obtain⟨z0,z1,z2,z3,z4⟩:=aF bQ;unfold bF at eU;refine ak (i:=5) ji rfl ?_;intro K hK;go_simp;refine hK _ _ ?_;clear hK K i0 i1 i2 i3 i4 z0 z1 z2 z3 z4;refine aA eU.box (by kernel_rfl) ?_ _;go_wp2
   go_meet
   case rel=>exact⟨_,_,_,_,eU⟩
  ·intro K hK;go_simp;go_wp2_with(go_at_call 56;refine hF.mono ?_;rintro x w3 ⟨rfl,a_⟩);have h3:=(aV.more HO.out a_).obj;obtain⟨c0,lI,jU,c3,c4⟩:=ai h3;refine ak (i:=0) ((a_.block _ (by have:=aV.low;have:=aV.lt;omega)).trans aV.box) rfl ?_;intro K hK;go_simp;refine hK _ _ ?_;clear hK K c0 lI jU c3 c4 h3;refine ak (i:=4) ((a_.block _ (by have:=aV.low;have:=aV.lt;omega)).trans aV.box) rfl ?_;intro K hK;go_simp;go_wp2_with(go_at_call 25;refine(aV.put HO.out a_ (by decide) (bB _ _ ah) _).mono ?_;rintro x w4 ⟨b1,d1,b2,d2,rfl,bQ,ji,eU⟩);obtain⟨i0,i1,i2,i3,i4⟩:=ai bQ;obtain⟨z0,z1,z2,z3,z4⟩:=aF bQ;unfold bF at eU;refine ak (i:=5) ji rfl ?_;intro K hK;go_simp;refine hK _ _ ?_;clear hK K i0 i1 i2 i3 i4 z0 z1 z2 z3 z4;refine aA eU.box (by kernel_rfl) ?_ _;go_wp2
   go_meet
   case rel=>exact⟨_,_,_,_,eU⟩
 case rest=>
 have hJ:=hcut;clear hcut;obtain⟨q1,c1,q2,c2,hJ⟩:=hJ;have HJ:Hid (JI O w (.cells #[.string room,.string aQ,.string ah,.bool false,.string key,.int .i64 k,.int .i64 i,.string t,.slice pk nk ck,.slice pl nl cl,.slice pp np cp,.slice pa na ca,.int .i64 depth,.int .i64 ts,.string hash,.slice ps ns cs] 28 (0,0)) b3 [dA,aS,cu,dO,eu,eX,bZ] [ja,oc,gz depth,aL hash,jp,aL room,aL ah] 7 q1 c1 q2 c2 wc):=hJ;have Cn:Hid (JT wc.heap.size [] [] 0 none 0 none 0 (wc.alloc (.cells #[.int .i64 5,.int .i64 0,.string ⟨#[]⟩,.slice none 0 0,.slice none 0 0] 25))):=JT.start wc;have HBS:Hid (Below wc.heap.size wc (wc.alloc (.cells #[.int .i64 5,.int .i64 0,.string ⟨#[]⟩,.slice none 0 0,.slice none 0 0] 25))):=(Below.refl _ _).alloc (Nat.le_refl _) _;clear hJ;go_wp2
 go_loopw [5] (fun i wr=>∃(kk:Nat) (p1:Option Addr) (e1:Nat) (p2:Option Addr) (e2:Nat),i=.int .i64 kk/\kk<=ns/\JT wc.heap.size ((sigs.take kk).map (·.1)) ((sigs.take kk).map fun s=>aL s.2) kk p1 e1 p2 e2 wr/\Below wc.heap.size wc wr) (fun i _=>ns - (intOf i).toNat)
 case atStart=>exact⟨0,none,0,none,0,rfl,Nat.zero_le _,Cn.out,HBS.out⟩
 case round=>
  clear Cn HBS;obtain⟨kk,p1,e1,p2,e2,rfl,hk,hT,hb⟩:=hrel;have s15:=az (HJ.out.more HO.out hb).box 15 _ rfl
  by_cases bJ:kk<ns
  ·have Vo:(kk:Int)<(ns:Int):=by omega
   have gM:kk<sigs.length:=by rw[Vm.out];exact bJ
   obtain⟨sb,so,hps,hOs,NG,Pf⟩:=HRS.out.2 kk gM;subst hps;have HT1:Hid ((sigs.take (kk+1)).map (·.1)=(sigs.take kk).map (·.1)++ [(sigs.getD kk (aH,aH)).1]):=by
    show _=_
    rw[nO sigs kk (aH,aH) gM,List.map_append];rfl
   have VH:Hid (((sigs.take (kk+1)).map fun s=>aL s.2)=((sigs.take kk).map fun s=>aL s.2)++ [aL (sigs.getD kk (aH,aH)).2]):=by
    show _=_
    rw[nO sigs kk (aH,aH) gM,List.map_append];rfl
   have rA:Hid (∀X,Below wc.heap.size wc X->X.heap[w.heap.size]?=some (.cells #[.string room,.string aQ,.string ah,.bool false,.string key,.int .i64 k,.int .i64 i,.string t,.slice pk nk ck,.slice pl nl cl,.slice pp np cp,.slice pa na ca,.int .i64 depth,.int .i64 ts,.string hash,.slice (some ⟨sb,so,none⟩) ns cs] 28 (0,0))/\X.cell? ⟨sb,so+kk*2,none⟩=some (.string (sigs.getD kk (aH,aH)).1)/\X.cell? ⟨sb,so+kk*2+1,none⟩=some (.string (sigs.getD kk (aH,aH)).2)):=fun X hX=>by
    have hq:=(ae HJ.out.below hX).block sb (HO.out _ hOs);exact⟨(HJ.out.more HO.out hX).box,(World.cell?_of_block (a:=⟨sb,so+kk*2,none⟩) hq).trans NG,(World.cell?_of_block (a:=⟨sb,so+kk*2+1,none⟩) hq).trans Pf⟩
   clear NG Pf gM;generalize (sigs.getD kk (aH,aH)).1=su at HT1 rA;generalize (sigs.getD kk (aH,aH)).2=sv at VH rA;have QS:=hT.more (Below.refl _ _).drew;have gd:Below wc.heap.size wc wr.drew:=hb.drew;have hF:=iR sv wr.drew;clear hT;go_wp2;refine aD (by kernel_rfl) (fun X=>X.heap[w.heap.size]?=some (.cells #[.string room,.string aQ,.string ah,.bool false,.string key,.int .i64 k,.int .i64 i,.string t,.slice pk nk ck,.slice pl nl cl,.slice pp np cp,.slice pa na ca,.int .i64 depth,.int .i64 ts,.string hash,.slice (some ⟨sb,so,none⟩) ns cs] 28 (0,0))/\X.cell? ⟨sb,so+kk*2,none⟩=some (.string su)/\X.cell? ⟨sb,so+kk*2+1,none⟩=some (.string sv)) ?_;change wpIn _ _ _ _ _ _ _ _ (World.drew _);refine aa (i:=1) (d:=some 57) rfl ?_;refine aB (i:=2) (d:=some 58) rfl (by(intro wq hq;obtain⟨Hd,hq1,PV⟩:=hq;have Yk:=az Hd 15 _ rfl;go_simp;first| done| with_reducible rfl)) ?_;refine aa (i:=3) (d:=some 59) rfl ?_;refine aa (i:=4) (d:=some 60) rfl ?_;refine aa (i:=5) (d:=some 61) rfl ?_;refine aB (i:=6) (d:=some 62) rfl (by(intro wq hq;obtain⟨Hd,hq1,PV⟩:=hq;have Yk:=az Hd 15 _ rfl;go_simp;first| done| with_reducible rfl)) ?_;refine aa (i:=7) (d:=some 63) rfl ?_;refine aB (i:=8) (d:=some 64) rfl (by(intro wq hq;obtain⟨Hd,hq1,PV⟩:=hq;have Yk:=az Hd 15 _ rfl;go_simp;first| done| with_reducible rfl)) ?_;refine aa (i:=9) (d:=some 65) rfl ?_;refine aa (i:=10) (d:=some 66) rfl ?_;refine aa (i:=11) (d:=some 67) rfl ?_;refine aB (i:=12) (d:=some 68) rfl (by(intro wq hq;obtain⟨Hd,hq1,PV⟩:=hq;have Yk:=az Hd 15 _ rfl;go_simp;first| done| with_reducible rfl)) ?_;refine aW (i:=0) (j:=13) (rA.out _ gd) (by kernel_rfl) rfl rfl (by rfl) (by rfl) ?_ ?_
   ·intro K hK;obtain⟨c0,lI,jU,c3,c4⟩:=ai QS.obj;go_simp;refine hK _ _ ?_;clear hK K;refine ak (i:=13) (rA.out _ gd) rfl ?_;intro K hK;go_simp;go_wp2_with(go_at_call 56;refine hF.mono ?_;rintro x w3 ⟨rfl,a_⟩);have g3:=ae gd a_;refine ak (i:=14) (rA.out w3 g3) rfl ?_;intro K hK;go_simp;go_wp2_with(go_at_call 25;refine((QS.more a_).put (by omega) su sv).mono ?_;rintro x w4 ⟨b1,d1,b2,d2,rfl,dN,Ux,hK5⟩);have bQ:=((QS.more a_).more dN).obj;obtain⟨i0,i1,i2,i3,i4⟩:=ai bQ;obtain⟨z0,z1,z2,z3,z4⟩:=aF bQ;have g4:=ae g3 dN;have g5:=g4.trans (hK5.below (by have:=g4.size;omega) fun q hq=>by unfold One;omega);unfold bF at Ux g5;refine ak (i:=15) (rA.out w4 g4) rfl ?_;intro K hK;go_simp;refine hK _ _ ?_;clear hK K i0 i1 i2 i3 i4 z0 z1 z2 z3 z4;refine aA (rA.out _ g5) (by kernel_rfl) ?_ _;go_wp2;go_roundw
    case rel=>exact⟨kk+1,_,_,_,_,by go_num,bJ,by rw[HT1.out,VH.out];exact Ux,g5⟩
    case measure=>simp[intOf];omega
   ·intro K hK;go_simp;go_wp2_with(go_at_call 56;refine hF.mono ?_;rintro x w3 ⟨rfl,a_⟩);have g3:=ae gd a_;have h3:=(QS.more a_).obj;obtain⟨c0,lI,jU,c3,c4⟩:=ai h3;refine ak (i:=0) (rA.out _ g3) rfl ?_;intro K hK;go_simp;refine hK _ _ ?_;clear hK K c0 lI jU c3 c4 h3;refine ak (i:=14) (rA.out w3 g3) rfl ?_;intro K hK;go_simp;go_wp2_with(go_at_call 25;refine((QS.more a_).put (by omega) su sv).mono ?_;rintro x w4 ⟨b1,d1,b2,d2,rfl,dN,Ux,hK5⟩);have bQ:=((QS.more a_).more dN).obj;obtain⟨i0,i1,i2,i3,i4⟩:=ai bQ;obtain⟨z0,z1,z2,z3,z4⟩:=aF bQ;have g4:=ae g3 dN;have g5:=g4.trans (hK5.below (by have:=g4.size;omega) fun q hq=>by unfold One;omega);unfold bF at Ux g5;refine ak (i:=15) (rA.out w4 g4) rfl ?_;intro K hK;go_simp;refine hK _ _ ?_;clear hK K i0 i1 i2 i3 i4 z0 z1 z2 z3 z4;refine aA (rA.out _ g5) (by kernel_rfl) ?_ _;go_wp2;go_roundw
    case rel=>exact⟨kk+1,_,_,_,_,by go_num,bJ,by rw[HT1.out,VH.out];exact Ux,g5⟩
    case measure=>simp[intOf];omega
  ·obtain rfl:kk=ns:=by omega
   rw[List.take_of_length_le (by rw[Vm.out];omega)]at hT;have HT:Hid (JT wc.heap.size (sigs.map (·.1)) (sigs.map fun s=>aL s.2) kk p1 e1 p2 e2 wr):=hT;have hJr:=HJ.out.more HO.out hb;obtain⟨j0,j1,j2,j3,j4⟩:=ai hJr.obj;obtain⟨l0,l1,l2,l3,l4⟩:=ai hT.obj;have hP:=HJ.out.put HO.out hb (by decide) (v:=dF sigs) (hT.Yj.carry fun q hq=>⟨.inr ⟨by have:=hq.1;omega,hq.2⟩,rfl⟩) fP;clear hT hJr
   go_upto_region 16 with(go_at_call 25;refine hP.mono ?_;rintro x w4 ⟨b1,d1,b2,d2,rfl,bQ,ji,eU⟩;obtain⟨i0,i1,i2,i3,i4⟩:=ai bQ;obtain⟨z0,z1,z2,z3,z4⟩:=aF bQ;unfold bF at eU;clear j0 j1 j2 j3 j4 l0 l1 l2 l3 l4)
   have hJ:∃q1 c1 q2 c2,JI O w (.cells #[.string room,.string aQ,.string ah,.bool false,.string key,.int .i64 k,.int .i64 i,.string t,.slice pk nk ck,.slice pl nl cl,.slice pp np cp,.slice pa na ca,.int .i64 depth,.int .i64 ts,.string hash,.slice ps kk cs] 28 (0,0)) b3 [dA,aS,cu,dO,eu,eX,bZ,fP] [ja,oc,gz depth,aL hash,jp,aL room,aL ah,dF sigs] 8 q1 c1 q2 c2 _:=⟨_,_,_,_,eU⟩;clear i0 i1 i2 i3 i4 z0 z1 z2 z3 z4 eU hP bQ ji s15
   go_cut [] (fun wx=>∃q1 c1 q2 c2,JI O w (.cells #[.string room,.string aQ,.string ah,.bool false,.string key,.int .i64 k,.int .i64 i,.string t,.slice pk nk ck,.slice pl nl cl,.slice pp np cp,.slice pa na ca,.int .i64 depth,.int .i64 ts,.string hash,.slice ps kk cs] 28 (0,0)) b3 [dA,aS,cu,dO,eu,eX,bZ,fP,uL] [ja,oc,gz depth,aL hash,jp,aL room,aL ah,dF sigs,gz ts] 9 q1 c1 q2 c2 wx)
   case first=>
    obtain⟨q1,c1,q2,c2,hJ⟩:=hJ;have aV:=hJ.more HO.out (Below.refl _ _).drew;have hF:=zau.out _ aV.below;clear hJ;refine aD (by kernel_rfl) (fun X=>X.heap[w.heap.size]?=some (.cells #[.string room,.string aQ,.string ah,.bool false,.string key,.int .i64 k,.int .i64 i,.string t,.slice pk nk ck,.slice pl nl cl,.slice pp np cp,.slice pa na ca,.int .i64 depth,.int .i64 ts,.string hash,.slice ps kk cs] 28 (0,0))) ?_;change wpIn _ _ _ _ _ _ _ _ (World.drew _);refine aa (i:=1) (d:=some 75) rfl ?_;refine aB (i:=2) (d:=some 76) rfl (by(intro wq hq;have vS:=az hq 13 _ rfl;go_simp;first| done| with_reducible rfl)) ?_;refine aW (i:=0) (j:=3) aV.box (by kernel_rfl) rfl rfl (by rfl) (by rfl) ?_ ?_
    ·intro K hK;obtain⟨c0,lI,jU,c3,c4⟩:=ai aV.obj;go_simp;refine hK _ _ ?_;clear hK K;refine ak (i:=3) aV.box rfl ?_;intro K hK;go_simp;go_wp2_with(go_at_call 55;refine hF.mono ?_;rintro x w3 ⟨rfl,a_⟩);refine ak (i:=4) ((a_.block _ (by have:=aV.low;have:=aV.lt;omega)).trans aV.box) rfl ?_;intro K hK;go_simp;go_wp2_with(go_at_call 25;refine(aV.put HO.out a_ (by decide) (kI _ _ ts) _).mono ?_;rintro x w4 ⟨b1,d1,b2,d2,rfl,bQ,ji,eU⟩);obtain⟨i0,i1,i2,i3,i4⟩:=ai bQ;obtain⟨z0,z1,z2,z3,z4⟩:=aF bQ;unfold bF at eU;refine ak (i:=5) ji rfl ?_;intro K hK;go_simp;refine hK _ _ ?_;clear hK K i0 i1 i2 i3 i4 z0 z1 z2 z3 z4;refine aA eU.box (by kernel_rfl) ?_ _;go_wp2
     go_meet
     case rel=>exact⟨_,_,_,_,eU⟩
    ·intro K hK;go_simp;go_wp2_with(go_at_call 55;refine hF.mono ?_;rintro x w3 ⟨rfl,a_⟩);have h3:=(aV.more HO.out a_).obj;obtain⟨c0,lI,jU,c3,c4⟩:=ai h3;refine ak (i:=0) ((a_.block _ (by have:=aV.low;have:=aV.lt;omega)).trans aV.box) rfl ?_;intro K hK;go_simp;refine hK _ _ ?_;clear hK K c0 lI jU c3 c4 h3;refine ak (i:=4) ((a_.block _ (by have:=aV.low;have:=aV.lt;omega)).trans aV.box) rfl ?_;intro K hK;go_simp;go_wp2_with(go_at_call 25;refine(aV.put HO.out a_ (by decide) (kI _ _ ts) _).mono ?_;rintro x w4 ⟨b1,d1,b2,d2,rfl,bQ,ji,eU⟩);obtain⟨i0,i1,i2,i3,i4⟩:=ai bQ;obtain⟨z0,z1,z2,z3,z4⟩:=aF bQ;unfold bF at eU;refine ak (i:=5) ji rfl ?_;intro K hK;go_simp;refine hK _ _ ?_;clear hK K i0 i1 i2 i3 i4 z0 z1 z2 z3 z4;refine aA eU.box (by kernel_rfl) ?_ _;go_wp2
     go_meet
     case rel=>exact⟨_,_,_,_,eU⟩
   case rest=>
   have hJ:=hcut;clear hcut
   go_upto_region 17 with fail
   obtain⟨q1,c1,q2,c2,hJ⟩:=hJ;have aV:=hJ.more HO.out (Below.refl _ _).drew;have hF:=zav.out _ aV.below;clear hJ;refine aD (by kernel_rfl) (fun X=>X.heap[w.heap.size]?=some (.cells #[.string room,.string aQ,.string ah,.bool false,.string key,.int .i64 k,.int .i64 i,.string t,.slice pk nk ck,.slice pl nl cl,.slice pp np cp,.slice pa na ca,.int .i64 depth,.int .i64 ts,.string hash,.slice ps kk cs] 28 (0,0))) ?_;change wpIn _ _ _ _ _ _ _ _ (World.drew _);refine aa (i:=1) (d:=some 80) rfl ?_;refine aB (i:=2) (d:=some 81) rfl (by(intro wq hq;have q1:=az hq 1 _ rfl;go_simp;first| done| with_reducible rfl)) ?_;refine aW (i:=0) (j:=3) aV.box (by kernel_rfl) rfl rfl (by rfl) (by rfl) ?_ ?_
   ·intro K hK;obtain⟨c0,lI,jU,c3,c4⟩:=ai aV.obj;go_simp;refine hK _ _ ?_;clear hK K;refine ak (i:=3) aV.box rfl ?_;intro K hK;go_simp;go_wp2_with(go_at_call 56;refine hF.mono ?_;rintro x w3 ⟨rfl,a_⟩);refine ak (i:=4) ((a_.block _ (by have:=aV.low;have:=aV.lt;omega)).trans aV.box) rfl ?_;intro K hK;go_simp;go_wp2_with(go_at_call 25;refine(aV.last HO.out a_ (by decide) (bB _ _ aQ) _).mono ?_;rintro x w4 ⟨b1,d1,b2,d2,rfl,bQ,ji,JS,h5,F_,nu⟩);obtain⟨i0,i1,i2,i3,i4⟩:=ai bQ;obtain⟨z0,z1,z2,z3,z4⟩:=aF bQ;unfold bF at JS h5 F_ nu;refine ak (i:=5) ji rfl ?_;intro K hK;go_simp;refine hK _ _ ?_;clear hK K i0 i1 i2 i3 i4 z0 z1 z2 z3 z4;refine aA JS (by kernel_rfl) ?_ _;go_wp2;refine bodyPost_ret (dV rfl _ _ _ rfl (nt h5)) rfl ?_;exact⟨⟨_,_,_,_,_,_,_,_,_,rfl,F_⟩,nu⟩
   ·intro K hK;go_simp;go_wp2_with(go_at_call 56;refine hF.mono ?_;rintro x w3 ⟨rfl,a_⟩);have h3:=(aV.more HO.out a_).obj;obtain⟨c0,lI,jU,c3,c4⟩:=ai h3;refine ak (i:=0) ((a_.block _ (by have:=aV.low;have:=aV.lt;omega)).trans aV.box) rfl ?_;intro K hK;go_simp;refine hK _ _ ?_;clear hK K c0 lI jU c3 c4 h3;refine ak (i:=4) ((a_.block _ (by have:=aV.low;have:=aV.lt;omega)).trans aV.box) rfl ?_;intro K hK;go_simp;go_wp2_with(go_at_call 25;refine(aV.last HO.out a_ (by decide) (bB _ _ aQ) _).mono ?_;rintro x w4 ⟨b1,d1,b2,d2,rfl,bQ,ji,JS,h5,F_,nu⟩);obtain⟨i0,i1,i2,i3,i4⟩:=ai bQ;obtain⟨z0,z1,z2,z3,z4⟩:=aF bQ;unfold bF at JS h5 F_ nu;refine ak (i:=5) ji rfl ?_;intro K hK;go_simp;refine hK _ _ ?_;clear hK K i0 i1 i2 i3 i4 z0 z1 z2 z3 z4;refine aA JS (by kernel_rfl) ?_ _;go_wp2;refine bodyPost_ret (dV rfl _ _ _ rfl (nt h5)) rfl ?_;exact⟨⟨_,_,_,_,_,_,_,_,_,rfl,F_⟩,nu⟩
open Go.RowKit
theorem M_{w:World}{O:Nat->Prop}{j:J}{k i:Int}{t:ByteArray}{pk pl:Option Addr}{nk ck nl cl:Nat}(hO:∀x,O x->x<w.heap.size)(fI:szJ 12 j=true)
    (hj:isJ O w j [.int .i64 k,.int .i64 i,.string t,.slice pk nk ck,.slice pl nl cl]):
    Calls Tryz.prog 36 #[.agg #[.int .i64 k,.int .i64 i,.string t,.slice pk nk ck,.slice pl nl cl]] w fun x w'=>(∃kr ir tr pr nr cr qr mr dr,x=.returned (.agg #[.int .i64 kr,.int .i64 ir,.string tr,.slice pr nr cr,.slice qr mr dr])/\isJ (fun b=>O b\/ fB w w' b) w' (M4 j) [.int .i64 kr,.int .i64 ir,.string tr,.slice pr nr cr,.slice qr mr dr])/\Below w.heap.size w w':=by
 have r_:Below w.heap.size w ((w.alloc (.cells #[.int .i64 k,.int .i64 i,.string t,.slice pk nk ck,.slice pl nl cl] 25)).alloc (.cells #[.int .i64 0,.int .i64 0,.string ⟨#[]⟩,.slice none 0 0,.slice none 0 0] 25)):=((Below.refl _ _).alloc (Nat.le_refl _) _).alloc (by simp) _;obtain⟨wB,nA⟩:∃wB,wB=((w.alloc (.cells #[.int .i64 k,.int .i64 i,.string t,.slice pk nk ck,.slice pl nl cl] 25)).alloc (.cells #[.int .i64 0,.int .i64 0,.string ⟨#[]⟩,.slice none 0 0,.slice none 0 0] 25)):=⟨_,rfl⟩;have hA:wB.heap[w.heap.size]?=some (.cells #[.int .i64 k,.int .i64 i,.string t,.slice pk nk ck,.slice pl nl cl] 25 (0,0)):=by
  rw[nA,Below.heap_alloc _ _ _ (by simp)];exact heap_alloc_new _ _
 have hR:wB.heap[w.heap.size+1]?=some (.cells #[.int .i64 0,.int .i64 0,.string ⟨#[]⟩,.slice none 0 0,.slice none 0 0] 25 (0,0)):=by rw[nA];exact Uu _ _
 rw[<-nA]at r_;have L6:∀x,O x->x<wB.heap.size:=fun x hx=>Nat.lt_of_lt_of_le (hO x hx) r_.size;have JZ:=hj.carry (O':=O) (w':=wB) fun x hx=>⟨hx,r_.block x (hO x hx)⟩;have hG:=uo L6 fI JZ;have Oa:w.heap.size<wB.heap.size:=(Array.getElem?_eq_some_iff.1 hA).1;have Z5:w.heap.size+1<wB.heap.size:=(Array.getElem?_eq_some_iff.1 hR).1;have c0:=zu hA
 cases hg:goodJ 12 j with
 | false=>
  have HZ:Hid (M4 j=J.zero):=by show _=_;unfold M4;rw[hg];rfl
  rw[hg]at hG;rw[nA]at hG;clear hj JZ c0;go_enter Tryz.func36,Tryz.ntmps36;go_wp2_with(go_at_call 35;refine hG.mono ?_;rintro x w2 ⟨rfl,bM⟩;rw[<-nA]at bM;have bn:=(bM.block _ Z5).trans hR;obtain⟨i0,i1,i2,i3,i4⟩:=ai bn;obtain⟨z0,z1,z2,z3,z4⟩:=aF bn);have h5:=aK bn (.int .i64 0) (.int .i64 0) (.string ⟨#[]⟩) (.slice none 0 0) (.slice none 0 0);have aX:aj (One (w.heap.size+1)) w2 _:=aJ w2 (w.heap.size+1) (.int .i64 0) (.int .i64 0) (.string ⟨#[]⟩) (.slice none 0 0) (.slice none 0 0);unfold bF at h5 aX;obtain⟨k0,k1,k2,k3,k4⟩:=ai h5;refine bodyPost_ret (v:=.agg #[.int .i64 0,.int .i64 0,.string ⟨#[]⟩,.slice none 0 0,.slice none 0 0]) (by simp[results,Tryz.results36,go_sem,k0,k1,k2,k3,k4]) rfl ?_;refine⟨⟨_,_,_,_,_,_,_,_,_,rfl, ?_⟩,yS (ae r_ bM) aX⟩;rw[HZ.out];exact pQ _ _
 | true=>
  have HZ:Hid (M4 j=ord j):=by show _=_;unfold M4;rw[hg];rfl
  have X3:Hid (goodJ 12 j=true):=hg;have HJ:Hid (isJ O wB j [.int .i64 k,.int .i64 i,.string t,.slice pk nk ck,.slice pl nl cl]):=JZ;rw[hg]at hG;rw[nA]at hG;clear hj JZ hg c0;go_enter Tryz.func36,Tryz.ntmps36;go_wp2_with(first
   | (go_at_call 35;refine hG.mono ?_;rintro x w2 ⟨rfl,bM⟩
      rw[<-nA]at bM;have hA2:=(bM.block _ Oa).trans hA;obtain⟨c0,c1,c2,c3,c4⟩:=ai hA2;have zaa:=Oy 12 w2 O j k i t pk pl nk ck nl cl (fun x hx=>Nat.lt_of_lt_of_le (L6 x hx) bM.size) X3.out fI (HJ.out.carry fun x hx=>⟨hx,bM.block x (L6 x hx)⟩))
   | (go_at_call 45;refine zaa.mono ?_;rintro x w4 ⟨⟨kr,ir,tr,pr,nr,cr,qr,mr,dr,rfl,JY⟩,dN⟩
      have hB4:=ae bM dN;have bn:=(hB4.block _ Z5).trans hR;obtain⟨i0,i1,i2,i3,i4⟩:=ai bn;obtain⟨z0,z1,z2,z3,z4⟩:=aF bn))
  have h5:=aK bn (.int .i64 kr) (.int .i64 ir) (.string tr) (.slice pr nr cr) (.slice qr mr dr);have aX:aj (One (w.heap.size+1)) w4 _:=aJ w4 (w.heap.size+1) (.int .i64 kr) (.int .i64 ir) (.string tr) (.slice pr nr cr) (.slice qr mr dr);unfold bF at h5 aX;obtain⟨k0,k1,k2,k3,k4⟩:=ai h5;refine bodyPost_ret (v:=.agg #[.int .i64 kr,.int .i64 ir,.string tr,.slice pr nr cr,.slice qr mr dr]) (by simp[results,Tryz.results36,go_sem,k0,k1,k2,k3,k4]) rfl ?_;refine⟨⟨_,_,_,_,_,_,_,_,_,rfl, ?_⟩,yS (ae r_ hB4) aX⟩;rw[HZ.out];refine JY.carry fun x hx=> ?_;have bJ:x<w4.heap.size/\x≠w.heap.size+1:=by
   have s2:=bM.size;have s4:=dN.size
   rcases hx with hx| hx
   ·have:=hO x hx;exact⟨by have:=r_.size;omega,by omega⟩
   ·have:=hx.1;exact⟨hx.2,by omega⟩
  refine⟨?_,aX.block x bJ.1 (by unfold One;exact bJ.2)⟩
  rcases hx with hx| hx
  ·exact .inl hx
  ·exact .inr ⟨by have:=hx.1;have:=bM.size;omega,Nat.lt_of_lt_of_le bJ.1 aX.size⟩
open Go.RowKit Go.Maps
theorem Ey{O:Nat->Prop}(e:Ev)(p:Pt)(w:World)(hE:mF O w e p)(hO:∀k,O k->k<w.heap.size)(hz:CG e)(hn:e.sigs.length<=90000)(hg:goodJ 12 e.content=true):
    Calls Tryz.prog 30 #[ed e p] w fun x w'=>(∃kr ir tr pr nr cr qr mr dr,x=.returned (.agg #[.int .i64 kr,.int .i64 ir,.string tr,.slice pr nr cr,.slice qr mr dr])/\isJ (fun b=>O b\/ fB w w' b) w' (dI (jw e)) [.int .i64 kr,.int .i64 ir,.string tr,.slice pr nr cr,.slice qr mr dr])/\Below w.heap.size w w':=by
 have Xa:M4 e.content=ord e.content:=by unfold M4;rw[if_pos hg]
 have Ea:∀W,Below w.heap.size w W->∀k,O k->k<W.heap.size:=fun W hW k hk=>Nat.lt_of_lt_of_le (hO k hk) hW.size;have HA:Hid (∀W,Below w.heap.size w W->Calls Tryz.prog 54 #[.slice p.pa e.aC.length p.ca] W fun x w'=>(∃pl nl cl,x=.returned (.agg #[.int .i64 4,.int .i64 0,.string aH,.slice none 0 0,.slice pl nl cl])/\isJ (fB W w') w' (dB e.aC) [.int .i64 4,.int .i64 0,.string aH,.slice none 0 0,.slice pl nl cl])/\Below W.heap.size W w'):=fun W hW=>Et (hE.below hO hW).aC (Ea W hW) hz.aC;have HP:Hid (∀W,Below w.heap.size w W->Calls Tryz.prog 54 #[.slice p.pp e.prev.length p.cp] W fun x w'=>(∃pl nl cl,x=.returned (.agg #[.int .i64 4,.int .i64 0,.string aH,.slice none 0 0,.slice pl nl cl])/\isJ (fB W w') w' (dB e.prev) [.int .i64 4,.int .i64 0,.string aH,.slice none 0 0,.slice pl nl cl])/\Below W.heap.size W w'):=fun W hW=>Et (hE.below hO hW).prev (Ea W hW) hz.prev;have HC:Hid (∀W,Below w.heap.size w W->Calls Tryz.prog 36 #[.agg #[.int .i64 e.content.kind,.int .i64 e.content.int,.string e.content.text,.slice p.pk e.content.keys.length p.ck,.slice p.pl e.content.list.length p.cl]] W fun x w'=>(∃kr ir tr pr nr cr qr mr dr,x=.returned (.agg #[.int .i64 kr,.int .i64 ir,.string tr,.slice pr nr cr,.slice qr mr dr])/\isJ (fun b=>O b\/ fB W w' b) w' (ord e.content) [.int .i64 kr,.int .i64 ir,.string tr,.slice pr nr cr,.slice qr mr dr])/\Below W.heap.size W w'):=fun W hW=>by
  have h:=M_ (w:=W) (fun x hx=>Ea W hW x hx) hz.cont (hE.below hO hW).cont;rw[Xa]at h;exact h
 cases hs:e.st with
 | true=>
  have h:=M9 e.room e.aQ e.ah e.key e.content.kind e.content.int e.content.text e.content.keys.length e.content.list.length e.prev.length e.aC.length e.depth e.ts e.hash e.sigs.length p.pk p.ck p.pl p.cl p.pp p.cp p.pa p.ca p.ps p.cs w (ord e.content) (dB e.prev) (dB e.aC) e.sigs hE.sigs rfl hn hE.sigs.1 hO HA HC HP;have ht:dI (jw e)=.mk 5 0 aH [dA,aS,cu,dO,lY,eu,eX,bZ,fP,uL,gH] [dB e.aC,ord e.content,gz e.depth,aL e.hash,aL e.key,dB e.prev,aL e.room,aL e.ah,dF e.sigs,gz e.ts,aL e.aQ]:=by
   unfold dI gp jw;simp only[hs]
   rfl
  rw[ht];unfold ed eP;rw[hs];exact h
 | false=>
  have h:=Jy e.room e.aQ e.ah e.key e.content.kind e.content.int e.content.text e.content.keys.length e.content.list.length e.prev.length e.aC.length e.depth e.ts e.hash e.sigs.length p.pk p.ck p.pl p.cl p.pp p.cp p.pa p.ca p.ps p.cs w (ord e.content) (dB e.prev) (dB e.aC) e.sigs hE.sigs rfl hn hE.sigs.1 hO HA HC HP;have ht:dI (jw e)=.mk 5 0 aH [dA,aS,cu,dO,eu,eX,bZ,fP,uL,gH] [dB e.aC,ord e.content,gz e.depth,aL e.hash,dB e.prev,aL e.room,aL e.ah,dF e.sigs,gz e.ts,aL e.aQ]:=by
   unfold dI gp jw;simp only[hs]
   rfl
  rw[ht];unfold ed eP;rw[hs];exact h
structure Uy(e:Ev):Prop where
 room:e.room.size<=140737488355328
 aQ:e.aQ.size<=140737488355328
 ah:e.ah.size<=140737488355328
 key:e.key.size<=140737488355328
 hash:e.hash.size<=140737488355328
 sigs:∀x∈e.sigs,x.1.size<=140737488355328/\x.2.size<=140737488355328
structure zaw(e:Ev):Prop where
 texts:e.room.size+e.aQ.size+e.ah.size+e.key.size+e.hash.size<=2000
 prev:e.prev.length<=30
 DX:∀x∈e.prev,x.size<=100
 aC:e.aC.length<=30
 DY:∀x∈e.aC,x.size<=100
 sigs:e.sigs.length<=30
 A9:∀x∈e.sigs,x.1.size+x.2.size<=200
 cont:szJ 20 e.content=true
theorem zaw.sz{e:Ev}(h:zaw e):CG e:=by
 have t:=h.texts;exact⟨by omega,by omega,by omega,by omega,by omega,wN 12 20 _ (by decide) h.cont,Nat.le_trans h.prev (by decide),fun x hx=>Nat.le_trans (h.DX x hx) (by decide),Nat.le_trans h.aC (by decide),fun x hx=>Nat.le_trans (h.DY x hx) (by decide),Nat.le_trans h.sigs (by decide),fun x hx=>by have:=h.A9 x hx;omega⟩
theorem Jz{l:List ByteArray}{B:Nat}(h:∀x,x<l.length->(l.getD x aH).size<=B):∀x∈l,x.size<=B:=fun x hx=>by
 obtain⟨y,hy,rfl⟩:=List.getElem_of_mem hx;have:=h y hy
 rwa [Ir hy]at this
open Go.RowKit
def smallJ:Nat->J->Bool
 | 0,_=>true
 | d+1,.mk _ _ t ks l=>decide (t.size<=2000)&&(decide (ks.length<=200)&&(ks.all (fun k=>decide (k.size<=2000))&&(decide (l.length<=2000)&&l.all (smallJ d))))
def jg:Nat->J->Nat
 | 0,_=>0
 | d+1,.mk _ _ _ _ l=>1+(l.map (jg d)).sum
def zH(d:Nat):Prop:=∀(w:World) (O:Nat->Prop) (j:J) (k i deep n:Int) (t:ByteArray) (pk pl:Option Addr) (nk ck nl cl:Nat),(∀x,O x->x<w.heap.size)->deep=(d:Int)->d<=100->0<=n->n<=100000→
 isJ O w j [.int .i64 k,.int .i64 i,.string t,.slice pk nk ck,.slice pl nl cl]→
 Calls Tryz.prog 16 #[.agg #[.int .i64 k,.int .i64 i,.string t,.slice pk nk ck,.slice pl nl cl],.int .i64 n,.int .i64 deep] w fun x w'=>(∃r:Int,x=.returned (.int .i64 r)/\r<=n/\-1<=r/\(0<=r->smallJ d j=true/\(jg d j:Int)+r<=n))/\Below w.heap.size w w'
theorem JA:zH 0:=by
 intro w O j k i deep n t pk pl nk ck nl cl hO kT _ h0 hn _;subst kT;have dP:Below w.heap.size w (w.alloc (.cells #[.int .i64 k,.int .i64 i,.string t,.slice pk nk ck,.slice pl nl cl] 25)):=(Below.refl _ _).alloc (Nat.le_refl _) _
 by_cases h1:n<1
 ·go_enter Tryz.func16,Tryz.ntmps16;go_wp2;go_ret;exact⟨⟨-1,rfl,by omega,by omega,fun h=>absurd h (by decide)⟩,dP⟩
 ·go_enter Tryz.func16,Tryz.ntmps16;go_wp2;go_ret;exact⟨⟨-1,rfl,by omega,by omega,fun h=>absurd h (by decide)⟩,dP⟩
theorem JB{d:Nat}(V:zH d):zH (d+1):=by
 intro w O j k i deep n t pk pl nk ck nl cl hO kT hd h0 hn hj;obtain⟨kx,ix,tx,ks,l⟩:=j;unfold isJ at hj;obtain⟨F7,DL,F8,uG,e,hk,hl,hs⟩:=hj;simp only[List.cons.injEq,Value.int.injEq,Value.string.injEq,Value.slice.injEq,true_and,and_true]at e;obtain⟨rfl,rfl,rfl,⟨rfl,rfl,rfl⟩,rfl,rfl,rfl⟩:=e;have qB:1<=deep:=by omega
 have sI:deep<=101:=by omega
 have HD:Hid (deep - 1=(d:Int)):=by show _=_;omega
 have HDL:Hid (d<=100):=by show _<=_;omega
 clear kT hd;obtain⟨nk,oq⟩:∃n,ks.length=n:=⟨_,rfl⟩;obtain⟨nl,mV⟩:∃n,l.length=n:=⟨_,rfl⟩;have jy:Hid (ks.length=nk):=oq;have qP:Hid (l.length=nl):=mV;have Ca:=hk.1;rw[oq]at Ca ⊢;rw[mV]at hl ⊢;clear oq mV;have dP:Below w.heap.size w (w.alloc (.cells #[.int .i64 k,.int .i64 i,.string t,.slice pk nk ck,.slice pl nl cl] 25)):=(Below.refl _ _).alloc (Nat.le_refl _) _;have neg:∀(w':World) (x:Ending),x=.returned (.int .i64 (-1))->Below w.heap.size w w'->(∃r:Int,x=.returned (.int .i64 r)/\r<=n/\-1<=r/\(0<=r->smallJ (d+1) (.mk k i t ks l)=true/\(jg (d+1) (.mk k i t ks l):Int)+r<=n))/\Below w.heap.size w w':=fun w' x hx hb=>⟨⟨-1,hx,by omega,by omega,fun h=>absurd h (by decide)⟩,hb⟩;have Uz:Hid (∀(w':World) (x:Ending),x=.returned (.int .i64 (-1))->Below w.heap.size w w'->(∃r:Int,x=.returned (.int .i64 r)/\r<=n/\-1<=r/\(0<=r->smallJ (d+1) (.mk k i t ks l)=true/\(jg (d+1) (.mk k i t ks l):Int)+r<=n))/\Below w.heap.size w w'):=neg;clear neg
 by_cases h1:n<1
 ·go_enter Tryz.func16,Tryz.ntmps16;go_wp2;go_ret;exact Uz.out _ _ rfl dP
 by_cases h2:(2000:Int)<t.size
 ·go_enter Tryz.func16,Tryz.ntmps16;go_wp2;go_ret;exact Uz.out _ _ rfl dP
 by_cases h3:(100:Int)<nk
 ·go_enter Tryz.func16,Tryz.ntmps16;go_wp2;go_ret;exact Uz.out _ _ rfl dP
 by_cases h4:(300:Int)<nl
 ·go_enter Tryz.func16,Tryz.ntmps16;go_wp2;go_ret;exact Uz.out _ _ rfl dP
 obtain⟨wB,nA⟩:∃wB,wB=w.alloc (.cells #[.int .i64 k,.int .i64 i,.string t,.slice pk nk ck,.slice pl nl cl] 25):=⟨_,rfl⟩;have hA:wB.heap[w.heap.size]?=some (.cells #[.int .i64 k,.int .i64 i,.string t,.slice pk nk ck,.slice pl nl cl] 25 (0,0)):=by rw[nA];exact heap_alloc_new _ _
 have wU:w.heap.size<wB.heap.size:=(Array.getElem?_eq_some_iff.1 hA).1;rw[<-nA]at dP;have Cr:Hid (∀W:World,Below wB.heap.size wB W->∀n v, [Value.int .i64 k,.int .i64 i,.string t,.slice pk nk ck,.slice pl nl cl][n]?=some v->W.cell? ⟨w.heap.size,n,none⟩=some v):=fun W hW n v hv=>
  (World.cell?_of_block (a:=⟨w.heap.size,n,none⟩) (hW.block w.heap.size wU)).trans (aR (cur:= [.int .i64 k,.int .i64 i,.string t,.slice pk nk ck,.slice pl nl cl]) hA n v hv)
 go_enter Tryz.func16,Tryz.ntmps16;go_wp2;rw[<-nA];clear nA hA
 go_loopw [7] (fun v wr=>∃m:Nat,v=.int .i64 m/\m<=nk/\Hid (∀x,x<m->(ks.getD x aH).size<=300)/\wr=wB) (fun v _=>nk - (intOf v).toNat)
 case atStart=>exact⟨0,rfl,Nat.zero_le _,fun m hm=>absurd hm (by omega),rfl⟩
 case round=>
  obtain⟨m,rfl,hm,HE,rfl⟩:=hrel;have a3:=Cr.out wr (Below.refl _ _) 3 _ rfl
  by_cases sD:m<nk
  ·have oL:(m:Int)<(nk:Int):=by omega
   obtain⟨ka,Cy,uC,Jb⟩:=hk.2 m (by rw[jy.out];exact sD);subst Cy;have Yc:wr.cell? (ka.add m)=some (.string (ks.getD m aH)):=(World.cell?_of_block (by rw[aY];exact dP.block _ (hO _ uC))).trans Jb;obtain⟨u,hu⟩:∃u,ks.getD m aH=u:=⟨_,rfl⟩;have HU:Hid (ks.getD m aH=u):=hu;rw[hu]at Yc;clear hu Jb
   by_cases Ta:(300:Int)<u.size
   ·go_wp2;go_ret;exact Uz.out _ _ rfl dP
   ·go_wp2;go_roundw
    case rel=>exact⟨m+1,by go_num,sD,fun x hx=>(Nat.lt_succ_iff_lt_or_eq.1 hx).elim (HE.out x) fun e=>by rw[e,HU.out];omega,trivial⟩
    case measure=>simp[intOf];omega
  ·obtain rfl:m=nk:=by omega
   have TQ:Hid (ks.all (fun k=>decide (k.size<=2000))=true):=by
    show _=_
    rw[List.all_eq_true];intro x hx;obtain⟨y,hy,rfl⟩:=List.getElem_of_mem hx;have:=HE.out y (by rw[<-jy.out];exact hy);rw[Ir hy]at this;exact decide_eq_true (by omega)
   go_wp2
   go_loopw [1,8] (fun u v w2=>∃(m:Nat) (r:Int),v=.int .i64 m/\u=.int .i64 r/\m<=nl/\r<=n - 1/\-1<=r/\Hid (0<=r->(l.take m).all (smallJ d)=true/\(((l.take m).map (jg d)).sum:Int)+r<=n - 1)/\Below wr.heap.size wr w2) (fun _ v _=>nl - (intOf v).toNat)
   case atStart=>exact⟨0,n - 1,rfl,rfl,Nat.zero_le _,by omega,by omega,fun _=>⟨rfl,by simp⟩,Below.refl _ _⟩
   case round=>
    obtain⟨m',r,rfl,rfl,hm',hrn,rP,HT,bM⟩:=hrel;have a4:=Cr.out wr bM 4 _ rfl
    by_cases mW:m'<nl
    ·have oL:(m':Int)<(nl:Int):=by omega
     by_cases hr:0<=r
     ·have iP:m'<l.length:=by rw[qP.out];exact mW
      have GZ:Hid (m'<l.length):=iP;obtain⟨lb,lo,cs,tY,uY,bY,jF⟩:=isJs.at l 0 m' hs iP;subst tY;obtain⟨x0,x1,x2,p3,n3,c3,p4,n4,c4,rfl⟩:=dD jF;have jA:=(bM.block lb (by have:=hO _ uY;omega)).trans (dP.block lb (hO _ uY));have cc:∀m v, [Value.int .i64 x0,.int .i64 x1,.string x2,.slice p3 n3 c3,.slice p4 n4 c4][m]?=some v->wr.cell? ⟨lb,lo+m'*5+m,none⟩=some v:=fun m v h=>by
       have:=bY m v h;rw[Nat.zero_add]at this;exact(World.cell?_of_block (a:=⟨lb,lo+m'*5+m,none⟩) jA).trans this
      have y0:wr.cell? ⟨lb,lo+m'*5,none⟩=some (.int .i64 x0):=cc 0 _ rfl;have y1:=cc 1 _ rfl;have y2:=cc 2 _ rfl;have y3:=cc 3 _ rfl;have y4:=cc 4 _ rfl;have XC:=dU dP (by omega) bM;have hV:=V wr O (l.getD m' J.zero) x0 x1 (deep - 1) r x2 p3 p4 n3 c3 n4 c4 (fun b hb=>Nat.lt_of_lt_of_le (hO b hb) XC.size) HD.out HDL.out hr (by omega) (jF.carry fun b hb=>⟨hb,XC.block b (hO b hb)⟩);clear cc bY iP jF jA;go_wp2_with(go_at_call 16;refine hV.mono ?_;rintro x w4 ⟨⟨r4,rfl,F4,Dy,rR⟩,dN⟩);go_roundw
      case rel=>exact⟨m'+1,r4,by go_num,rfl,mW,by omega,Dy,fun h=>⟨by rw[AU GZ.out,(HT.out hr).1,(rR h).1];rfl,by
       have h1:=(HT.out hr).2;have h2:=(rR h).2;rw[gQ GZ.out,List.map_append,List.sum_append,List.map_singleton,List.sum_singleton];omega⟩,dU bM bM.size dN⟩
      case measure=>simp[intOf];omega
     ·go_wp2;go_ret;refine⟨⟨r,rfl,by omega,rP,fun h=>absurd h (by omega)⟩,dU dP (by omega) bM⟩
    ·obtain rfl:m'=nl:=by omega
     go_wp2;go_ret;refine⟨⟨r,rfl,by omega,rP,fun h=> ?_⟩,dU dP (by omega) bM⟩;obtain⟨ht,hc⟩:=HT.out h;rw[List.take_of_length_le (by rw[qP.out];omega)]at ht hc;refine⟨?_, ?_⟩
     ·unfold smallJ;rw[TQ.out,ht,jy.out,qP.out,decide_eq_true (show t.size<=2000 by omega),decide_eq_true (show m<=200 by omega),decide_eq_true (show m'<=2000 by omega)]
      rfl
     ·unfold jg;omega
theorem Oz:∀d,zH d
 | 0=>JA
 | d+1=>JB (Oz d)
end Go.Proofs.YtegcgbjjpgjnmaaGreatDoor

/- A part. -/
import Derived.Test.YtegcgbjjpgjnmaaGreatDoorE22
set_option maxRecDepth 100000
set_option maxHeartbeats 16000000
namespace Go.Proofs.YtegcgbjjpgjnmaaGreatDoor
open Go.RowKit
theorem QN:Ov 0:=fun _ _ j _ _ _ _ _ _ _ _ _ _ hg=>by unfold goodJ at hg;cases hg
theorem Oy:∀d,Ov d
 | 0=>QN
 | d+1=>QM (Oy d)
def M4(j:J):J:=if goodJ 12 j=true then ord j else J.zero
theorem Uu{w:World}(o1 o2:Obj):((w.alloc o1).alloc o2).heap[w.heap.size+1]?=some o2:=by
 have:=heap_alloc_new (w.alloc o1) o2;simpa using this
theorem yS{w w2 w3:World}(h:Below w.heap.size w w2)(hk:aj (One (w.heap.size+1)) w2 w3):Below w.heap.size w w3:=
 h.trans (hk.below h.size fun k iK e=>by unfold One at e;omega)
open Go.RowKit Go.Maps
theorem nt{w:World}{b:Nat}{t:TypeId}{a0 a1 a2 a3 a4:Value}(h:w.heap[b]?=some (.cells #[a0,a1,a2,a3,a4] t (0,0))):(loadVar 25 ⟨b,0,none⟩).run Tryz.prog w=.ok (.agg #[a0,a1,a2,a3,a4]) w:=by
 obtain⟨k0,k1,k2,k3,k4⟩:=ai h;simp[loadVar,go_sem,k0,k1,k2,k3,k4]
theorem M5{O:Nat->Prop}(e:Ev)(p:Pt)(w:World)(hE:mF O w e p)(hO:∀k,O k->k<w.heap.size)(hz:CG e)(hT:kM w)(hs:aO e=true):
    Calls Tryz.prog 13 #[ed e p] w fun x w'=>(∃kr ir tr pr nr cr qr mr dr,x=.returned (.agg #[.int .i64 kr,.int .i64 ir,.string tr,.slice pr nr cr,.slice qr mr dr])/\isJ (fun b=>O b\/ fB w w' b) w' (ord (dI e)) [.int .i64 kr,.int .i64 ir,.string tr,.slice pr nr cr,.slice qr mr dr])/\Below w.heap.size w w':=by
 have EK:=wR hz;have Xa:fM (dI e)=ord (dI e):=by unfold fM;rw[if_pos (fC hs)]
 obtain⟨WB,dw⟩:∃WB,WB=(w.alloc (.cells (eP e p).toArray 28)).alloc (.cells #[.int .i64 0,.int .i64 0,.string ⟨#[]⟩,.slice none 0 0,.slice none 0 0] 25):=⟨_,rfl⟩;have cK:Below w.heap.size w WB:=by rw[dw];exact((Below.refl _ _).alloc (Nat.le_refl _) _).alloc (by simp) _
 have lX:WB.heap[w.heap.size]?=some (.cells (eP e p).toArray 28 (0,0)):=by rw[dw];exact jL _ _
 have rP:WB.heap[w.heap.size+1]?=some (.cells #[.int .i64 0,.int .i64 0,.string ⟨#[]⟩,.slice none 0 0,.slice none 0 0] 25 (0,0)):=by rw[dw];exact iq _ _
 have wU:w.heap.size+2<=WB.heap.size:=by rw[dw];simp
 have vR:=vF e p WB (hE.below hO cK) (fun k hk=>Nat.lt_of_lt_of_le (hO k hk) cK.size) hz (hT.below cK);rw[hs]at vR;have HTo:Hid (∀W,Below WB.heap.size WB W->Calls Tryz.prog 33 #[ed e p] W fun x w'=>(∃pk nk ck pl nl cl,x=.returned (.agg #[.int .i64 5,.int .i64 0,.string aH,.slice pk nk ck,.slice pl nl cl])/\isJ (fun k=>O k\/ fB W w' k) w' (dI e) [.int .i64 5,.int .i64 0,.string aH,.slice pk nk ck,.slice pl nl cl])/\Below W.heap.size W w'):=fun W hW=>
  IC e p W (hE.below hO (ae cK hW)) (fun k hk=>Nat.lt_of_lt_of_le (hO k hk) (ae cK hW).size) hz
 have HOr:Hid (∀W W2 pk nk ck pl nl cl,Below w.heap.size w W->Below W.heap.size W W2->isJ (fun k=>O k\/ fB W W2 k) W2 (dI e) [.int .i64 5,.int .i64 0,.string aH,.slice pk nk ck,.slice pl nl cl]->Calls Tryz.prog 32 #[.agg #[.int .i64 5,.int .i64 0,.string aH,.slice pk nk ck,.slice pl nl cl]] W2 fun x w'=>(∃kr ir tr pr nr cr qr mr dr,x=.returned (.agg #[.int .i64 kr,.int .i64 ir,.string tr,.slice pr nr cr,.slice qr mr dr])/\isJ (fun b=>(O b\/ fB W W2 b)\/ fB W2 w' b) w' (ord (dI e)) [.int .i64 kr,.int .i64 ir,.string tr,.slice pr nr cr,.slice qr mr dr])/\Below W2.heap.size W2 w'):=fun W W2 pk nk ck pl nl cl h1 h2 hj=>by
  have h:=ui (O:=fun k=>O k\/ fB W W2 k) (fun x hx=>hx.elim (fun h=>Nat.lt_of_lt_of_le (hO x h) (ae h1 h2).size) fun h=>h.2) EK hj;rw[Xa]at h;exact h
 have ll:Hid (Below w.heap.size w WB):=cK;have HO:Hid (∀k,O k->k<w.heap.size):=hO;generalize hTJ:ord (dI e)=TJ at HOr ⊢;generalize dI e=TE at HTo HOr;obtain⟨room,aQ,ah,st,key,⟨k,i,t,ks,l⟩,prev,aC,depth,ts,hash,sigs⟩:=e;obtain⟨pk,ck,pl,cl,pp,cp,pa,ca,ps,cs⟩:=p;simp only[ed,eP,J.kind,J.int,J.text,J.keys,J.list]at dw lX vR HTo ⊢;have F6:Hid (WB.heap[w.heap.size]?=some (.cells #[.string room,.string aQ,.string ah,.bool st,.string key,.int .i64 k,.int .i64 i,.string t,.slice pk ks.length ck,.slice pl l.length cl,.slice pp prev.length cp,.slice pa aC.length ca,.int .i64 depth,.int .i64 ts,.string hash,.slice ps sigs.length cs] 28 (0,0))):=lX;have VN:Hid (WB.heap[w.heap.size+1]?=some (.cells #[.int .i64 0,.int .i64 0,.string ⟨#[]⟩,.slice none 0 0,.slice none 0 0] 25 (0,0))):=rP;clear hE hO hz hT hs EK Xa hTJ rP cK;go_enter Tryz.func13,Tryz.ntmps13
 go_upto_region 1 with fail
 rw[<-dw];clear dw;go_wp2_with(first
  | (refine df rfl _ rfl rfl lX ?_)
  | (go_at_call 31;refine vR.mono ?_;rintro x w1 ⟨rfl,bI⟩
     have xg:=(bI.block w.heap.size (by omega)).trans lX;have hTo:=HTo.out w1 bI;clear lX vR)
  | (refine df rfl _ rfl rfl xg ?_)
  | (go_at_call 33;refine hTo.mono ?_;rintro x w2 ⟨⟨qk,nk,dk,ql,nl,dl,rfl,yZ⟩,bM⟩
     have Ka:=HOr.out w1 w2 qk nk dk ql nl dl (ae ll.out bI) bM yZ;clear hTo xg)
  | (go_at_call 32;refine Ka.mono ?_;rintro x w3 ⟨⟨kr,ir,tr,pr,nr,cr,qr,mr,dr,rfl,rM⟩,a_⟩
     have s1:=bI.size;have s2:=bM.size;have s3:=a_.size;have gJ:=(a_.block (w.heap.size+1) (by omega)).trans ((bM.block (w.heap.size+1) (by omega)).trans ((bI.block (w.heap.size+1) (by omega)).trans VN.out));obtain⟨i0,i1,i2,i3,i4⟩:=ai gJ;obtain⟨z0,z1,z2,z3,z4⟩:=aF gJ))
 have h5:=aK gJ (.int .i64 kr) (.int .i64 ir) (.string tr) (.slice pr nr cr) (.slice qr mr dr);have aX:aj (One (w.heap.size+1)) w3 _:=aJ w3 (w.heap.size+1) (.int .i64 kr) (.int .i64 ir) (.string tr) (.slice pr nr cr) (.slice qr mr dr);obtain⟨WE,jr⟩:∃WE,WE=bF w3 (w.heap.size+1) (.int .i64 kr) (.int .i64 ir) (.string tr) (.slice pr nr cr) (.slice qr mr dr):=⟨_,rfl⟩;rw[<-jr]at h5 aX;unfold bF at jr;rw[<-jr];refine bodyPost_ret (dV rfl _ _ _ rfl (nt h5)) rfl ?_;have s5:=aX.size;have b3:Below w.heap.size w w3:=ae ll.out (ae bI (ae bM a_));refine⟨⟨_,_,_,_,_,_,_,_,_,rfl,rM.carry fun q hq=> ?_⟩,b3.trans (aX.below (by omega) fun q hq=>by unfold One;omega)⟩
 rcases hq with(hq| hq)| hq
 ·exact⟨.inl hq,aX.block q (by have:=HO.out q hq;omega) (by have:=HO.out q hq;unfold One;omega)⟩
 ·exact⟨.inr ⟨by have:=hq.1;omega,by have:=hq.2;omega⟩,aX.block q (by have:=hq.2;omega) (by have:=hq.1;unfold One;omega)⟩
 ·exact⟨.inr ⟨by have:=hq.1;omega,by have:=hq.2;omega⟩,aX.block q hq.2 (by have:=hq.1;unfold One;omega)⟩
theorem Jl(s:ByteArray)(w:World)(hs:s.size<=1000000):
    Calls Tryz.prog 48 #[.string s] w fun x w'=>x=.returned (.bool (Id.parts 64 s).2.2)/\Below w.heap.size w w':=by
 go_enter Tryz.func48,Tryz.ntmps48;go_wp2_with(go_at_call 91;refine(Id.Gl s _ hs).mono ?_;rintro e w1 ⟨rfl,bI⟩;unfold Id.told);go_ret;exact⟨rfl,bI⟩
theorem iR(s:ByteArray)(w:World):
    Calls Tryz.prog 56 #[.string s] w fun x w'=>x=.returned (.agg #[.int .i64 3,.int .i64 0,.string s,.slice none 0 0,.slice none 0 0])/\Below w.heap.size w w':=by
 have hr:(w.alloc (.cells #[.int .i64 0,.int .i64 0,.string ⟨#[]⟩,.slice none 0 0,.slice none 0 0] 25)).heap[w.heap.size]?=some (.cells #[.int .i64 0,.int .i64 0,.string ⟨#[]⟩,.slice none 0 0,.slice none 0 0] 25 (0,0)):=heap_alloc_new _ _;have hb:Below w.heap.size w (w.alloc (.cells #[.int .i64 0,.int .i64 0,.string ⟨#[]⟩,.slice none 0 0,.slice none 0 0] 25)):=(Below.refl _ _).alloc (Nat.le_refl _) _;go_enter Tryz.func56,Tryz.ntmps56
 go_upto_region 1 with fail
 generalize w.alloc (.cells #[.int .i64 0,.int .i64 0,.string ⟨#[]⟩,.slice none 0 0,.slice none 0 0] 25)=WB at*;obtain⟨i0,i1,i2,i3,i4⟩:=ai hr;obtain⟨z0,z1,z2,z3,z4⟩:=aF hr;go_wp2;have h5:=aK hr (.int .i64 3) (.int .i64 0) (.string s) (.slice none 0 0) (.slice none 0 0);have aX:aj (One w.heap.size) WB _:=aJ WB w.heap.size (.int .i64 3) (.int .i64 0) (.string s) (.slice none 0 0) (.slice none 0 0);obtain⟨WE,jr⟩:∃WE,WE=bF WB w.heap.size (.int .i64 3) (.int .i64 0) (.string s) (.slice none 0 0) (.slice none 0 0):=⟨_,rfl⟩;rw[<-jr]at h5 aX;unfold bF at jr;rw[<-jr];refine bodyPost_ret (dV rfl _ _ _ rfl (nt h5)) rfl ?_;exact⟨rfl,hb.trans (aX.below hb.size fun q hq=>by unfold One;omega)⟩
theorem wZ(n:Int)(w:World):
    Calls Tryz.prog 55 #[.int .i64 n] w fun x w'=>x=.returned (.agg #[.int .i64 2,.int .i64 n,.string ⟨#[]⟩,.slice none 0 0,.slice none 0 0])/\Below w.heap.size w w':=by
 have hr:(w.alloc (.cells #[.int .i64 0,.int .i64 0,.string ⟨#[]⟩,.slice none 0 0,.slice none 0 0] 25)).heap[w.heap.size]?=some (.cells #[.int .i64 0,.int .i64 0,.string ⟨#[]⟩,.slice none 0 0,.slice none 0 0] 25 (0,0)):=heap_alloc_new _ _;have hb:Below w.heap.size w (w.alloc (.cells #[.int .i64 0,.int .i64 0,.string ⟨#[]⟩,.slice none 0 0,.slice none 0 0] 25)):=(Below.refl _ _).alloc (Nat.le_refl _) _;go_enter Tryz.func55,Tryz.ntmps55
 go_upto_region 1 with fail
 generalize w.alloc (.cells #[.int .i64 0,.int .i64 0,.string ⟨#[]⟩,.slice none 0 0,.slice none 0 0] 25)=WB at*;obtain⟨i0,i1,i2,i3,i4⟩:=ai hr;obtain⟨z0,z1,z2,z3,z4⟩:=aF hr;go_wp2;have h5:=aK hr (.int .i64 2) (.int .i64 n) (.string ⟨#[]⟩) (.slice none 0 0) (.slice none 0 0);have aX:aj (One w.heap.size) WB _:=aJ WB w.heap.size (.int .i64 2) (.int .i64 n) (.string ⟨#[]⟩) (.slice none 0 0) (.slice none 0 0);obtain⟨WE,jr⟩:∃WE,WE=bF WB w.heap.size (.int .i64 2) (.int .i64 n) (.string ⟨#[]⟩) (.slice none 0 0) (.slice none 0 0):=⟨_,rfl⟩;rw[<-jr]at h5 aX;unfold bF at jr;rw[<-jr];refine bodyPost_ret (dV rfl _ _ _ rfl (nt h5)) rfl ?_;exact⟨rfl,hb.trans (aX.below hb.size fun q hq=>by unfold One;omega)⟩
open Go.RowKit
set_option linter.unusedSimpArgs false in
theorem M6(room aQ ah:ByteArray)(st:Bool)(key:ByteArray)(k i:Int)(t:ByteArray)(nk nl np na:Nat)(depth ts:Int)(hash:ByteArray)(ns:Nat)(pk:Option Addr)(ck:Nat)(pl:Option Addr)(cl:Nat)(pp:Option Addr)(cp:Nat)(pa:Option Addr)(ca:Nat)(ps:Option Addr)(cs:Nat)(w B:World)
    (ra rb:ByteArray) (r ty us:Bool) (b:Int) (gd gdd pv au sg ev:Bool) (HHZ:Hid (hash.size<=1000000000))
    (hB:B=w.alloc (.cells #[.string room,.string aQ,.string ah,.bool st,.string key,.int .i64 k,.int .i64 i,.string t,.slice pk nk ck,.slice pl nl cl,.slice pp np cp,.slice pa na ca,.int .i64 depth,.int .i64 ts,.string hash,.slice ps ns cs] 28))
    (HC:Hid (∀W,Below B.heap.size B W->∀j v, [.string room,.string aQ,.string ah,.bool st,.string key,.int .i64 k,.int .i64 i,.string t,.slice pk nk ck,.slice pl nl cl,.slice pp np cp,.slice pa na ca,.int .i64 depth,.int .i64 ts,.string hash,.slice ps ns cs][j]?=some v->W.cell? ⟨w.heap.size,j,none⟩=some v))
    (ll:Hid (Below w.heap.size w B))
    (H0:Hid (∀W,Below B.heap.size B W->Calls Tryz.prog 46 #[.string room] W fun x w'=>x=.returned (.tuple #[.string ra,.string rb,.bool r])/\Below W.heap.size W w'))
    (H1:Hid (∀W,Below B.heap.size B W->Calls Tryz.prog 47 #[.string aQ] W fun x w'=>x=.returned (.bool ty)/\Below W.heap.size W w'))
    (H2:Hid (∀W,Below B.heap.size B W->Calls Tryz.prog 48 #[.string ah] W fun x w'=>x=.returned (.bool us)/\Below W.heap.size W w'))
    (H3:Hid (∀W,Below B.heap.size B W->Calls Tryz.prog 41 #[.string key] W fun x w'=>x=.returned (.int .i64 b)/\Below W.heap.size W w'))
    (H4:Hid (∀W,Below B.heap.size B W->Calls Tryz.prog 35 #[.agg #[.int .i64 k,.int .i64 i,.string t,.slice pk nk ck,.slice pl nl cl]] W fun x w'=>x=.returned (.bool gd)/\Below W.heap.size W w'))
    (H5:Hid (∀W,Below B.heap.size B W->Calls Tryz.prog 49 #[.agg #[.int .i64 k,.int .i64 i,.string t,.slice pk nk ck,.slice pl nl cl]] W fun x w'=>(∃p1 p2,x=.returned (.agg #[.int .i64 5,.int .i64 0,.string ⟨#[]⟩,.slice p1 1 1,.slice p2 1 1])/\Calls Tryz.prog 35 #[.agg #[.int .i64 5,.int .i64 0,.string ⟨#[]⟩,.slice p1 1 1,.slice p2 1 1]] w' fun y w2=>y=.returned (.bool gdd)/\Below w'.heap.size w' w2)/\Below W.heap.size W w'))
    (H6:Hid (∀W,Below B.heap.size B W->Calls Tryz.prog 50 #[.slice pp np cp,.int .i64 20] W fun x w'=>x=.returned (.bool pv)/\Below W.heap.size W w'))
    (H7:Hid (∀W,Below B.heap.size B W->Calls Tryz.prog 50 #[.slice pa na ca,.int .i64 10] W fun x w'=>x=.returned (.bool au)/\Below W.heap.size W w'))
    (H8:Hid (∀W,Below B.heap.size B W->Calls Tryz.prog 51 #[.slice ps ns cs] W fun x w'=>x=.returned (.bool sg)/\Below W.heap.size W w'))
    (H9:Hid (∀W,Below B.heap.size B W->Calls Tryz.prog 52 #[.string (⟨#[36]⟩++hash)] W fun x w'=>x=.returned (.bool ev)/\Below W.heap.size W w')):
    Calls Tryz.prog 28 #[.agg #[.string room,.string aQ,.string ah,.bool st,.string key,.int .i64 k,.int .i64 i,.string t,.slice pk nk ck,.slice pl nl cl,.slice pp np cp,.slice pa na ca,.int .i64 depth,.int .i64 ts,.string hash,.slice ps ns cs]] w fun x w'=>x=.returned (.bool ((r&&ty&&us)&&(decide (key.size<=128)&&decide (b<0)&&(st || decide (key.size=0)))&&(decide (k=5)&&gd&&gdd)&&(pv&&au&&sg)&&(decide (0<=depth)&&decide (depth<=1099511627776)&&decide (0<=ts)&&decide (ts<=9007199254740991)&&(decide (hash.size=0) || ev))))/\Below w.heap.size w w':=by
 obtain⟨S,hS⟩:∃S:Bool,((r&&ty&&us)&&(decide (key.size<=128)&&decide (b<0)&&(st || decide (key.size=0)))&&(decide (k=5)&&gd&&gdd)&&(pv&&au&&sg)&&(decide (0<=depth)&&decide (depth<=1099511627776)&&decide (0<=ts)&&decide (ts<=9007199254740991)&&(decide (hash.size=0) || ev)))=S:=⟨_,rfl⟩;rw[hS];have HS:Hid (((r&&ty&&us)&&(decide (key.size<=128)&&decide (b<0)&&(st || decide (key.size=0)))&&(decide (k=5)&&gd&&gdd)&&(pv&&au&&sg)&&(decide (0<=depth)&&decide (depth<=1099511627776)&&decide (0<=ts)&&decide (ts<=9007199254740991)&&(decide (hash.size=0) || ev)))=S):=hS;clear hS;go_enter Tryz.func28,Tryz.ntmps28
 go_upto_region 1 with fail
 rw[<-hB];clear hB;have c0:=HC.out B (Below.refl _ _) 0 _ rfl;have h0:=H0.out B (Below.refl _ _)
 go_upto_region 2 with(go_at_call 46;refine h0.mono ?_;rintro x w1 ⟨rfl,b1⟩)
 clear c0 h0;have c1:=HC.out w1 b1 1 _ rfl;have h1:=H1.out w1 b1
 cases r with
 | false=>
  go_wp2;go_ret;exact⟨av (by rw[<-HS.out];rfl),ae ll.out b1⟩
 | true=>
 cases ty with
 | false=>
  go_wp2_with(go_at_call 47;refine h1.mono ?_;rintro x w2 ⟨rfl,b2⟩);go_ret;exact⟨av (by rw[<-HS.out];rfl),ae ll.out (ae b1 b2)⟩
 | true=>
 cases us with
 | false=>
  go_wp2_with(first
   | (go_at_call 47;refine h1.mono ?_;rintro x w2 ⟨rfl,b2⟩;have c2:=HC.out w2 (ae b1 b2) 2 _ rfl;have h2:=H2.out w2 (ae b1 b2))
   | (go_at_call 48;refine h2.mono ?_;rintro x w3 ⟨rfl,b3⟩))
  go_ret;exact⟨av (by rw[<-HS.out];rfl),ae ll.out (ae b1 (ae b2 b3))⟩
 | true=>
 go_upto_region 4 with(first
     | (go_at_call 47;refine h1.mono ?_;rintro x w2 ⟨rfl,b2⟩;have c2:=HC.out w2 (ae b1 b2) 2 _ rfl;have h2:=H2.out w2 (ae b1 b2))
     | (go_at_call 48;refine h2.mono ?_;rintro x w3 ⟨rfl,b3⟩))
 have g3:=ae b1 (ae b2 b3);clear c1 h1 c2 h2 b1 b2 b3 w1 w2;have c3:=HC.out w3 g3 3 _ rfl;have c4:=HC.out w3 g3 4 _ rfl;have h3:=H3.out w3 g3
 by_cases d1:key.size<=128
 case neg=>
  have d1i:(128:Int)<key.size:=by omega
  have HD1:Hid (decide (key.size<=128)=false):=decide_eq_false d1;go_wp2;go_ret;exact⟨av (by rw[<-HS.out];simp only[HD1.out,Bool.and_true,Bool.true_and,Bool.and_false,Bool.false_and,Bool.or_true,Bool.true_or]),ae ll.out g3⟩
 have d1i:¬(128:Int)<key.size:=by omega
 have HD1:Hid (decide (key.size<=128)=true):=decide_eq_true d1;clear d1
 by_cases d2:b<0
 case neg=>
  have d2i:0<=b:=by omega
  have Sw:Hid (decide (b<0)=false):=decide_eq_false d2;clear d2;go_wp2_with(go_at_call 41;refine h3.mono ?_;rintro x w4 ⟨rfl,b4⟩;have Nn:=HC.out w4 (ae g3 b4) 4 _ rfl;have c3':=HC.out w4 (ae g3 b4) 3 _ rfl);go_ret;exact⟨av (by rw[<-HS.out];simp only[Sw.out,Bool.and_true,Bool.true_and,Bool.and_false,Bool.false_and,Bool.or_true,Bool.true_or]),ae ll.out (ae g3 b4)⟩
 have d2i:¬0<=b:=by omega
 have Sw:Hid (decide (b<0)=true):=decide_eq_true d2;clear d2
 by_cases d3:st=false/\key.size≠0
 ·have d3k:key.toList.isEmpty=false:=by rw[Pd];exact decide_eq_false d3.2
  have HD3:Hid (decide (key.size=0)=false):=decide_eq_false d3.2;obtain⟨rfl, -⟩:=d3;go_wp2_with(go_at_call 41;refine h3.mono ?_;rintro x w4 ⟨rfl,b4⟩;have Nn:=HC.out w4 (ae g3 b4) 4 _ rfl;have c3':=HC.out w4 (ae g3 b4) 3 _ rfl);go_ret;exact⟨av (by rw[<-HS.out];simp only[HD3.out,Bool.or_false,Bool.and_true,Bool.true_and,Bool.and_false,Bool.false_and,Bool.or_true,Bool.true_or]),ae ll.out (ae g3 b4)⟩
 have HD3:Hid ((st || decide (key.size=0))=true):=by
  show _=_
  cases st with
  | true=>rfl
  | false=>simpa using d3
 have lV:st=true\/ (st=false/\key.toList.isEmpty=true):=by
  cases st with
  | true=>exact .inl rfl
  | false=>exact .inr ⟨rfl,by rw[Pd];simpa using d3⟩
 clear d3
 rcases lV with rfl| ⟨rfl,hke⟩
 all_goals
  go_upto_region 6 with(go_at_call 41;refine h3.mono ?_;rintro x w4 ⟨rfl,b4⟩;have Nn:=HC.out w4 (ae g3 b4) 4 _ rfl;have c3':=HC.out w4 (ae g3 b4) 3 _ rfl)
  have g4:=ae g3 b4;clear c3 c4 c3' Nn h3 b4 g3 w3 d1i d2i;have c5:=HC.out w4 g4 5 _ rfl;have c6:=HC.out w4 g4 6 _ rfl;have c7:=HC.out w4 g4 7 _ rfl;have c8:=HC.out w4 g4 8 _ rfl;have c9:=HC.out w4 g4 9 _ rfl;have h4:=H4.out w4 g4
  by_cases d4:k=5
  case neg=>
   have HD4:Hid (decide (k=5)=false):=decide_eq_false d4;go_wp2;go_ret;exact⟨av (by rw[<-HS.out];simp only[HD4.out,Bool.and_true,Bool.true_and,Bool.and_false,Bool.false_and,Bool.or_true,Bool.true_or]),ae ll.out g4⟩
  subst d4
  cases gd with
  | false=>
   go_wp2_with(go_at_call 35;refine h4.mono ?_;rintro x w5 ⟨rfl,b5⟩);go_ret;exact⟨av (by rw[<-HS.out];simp only[Bool.and_true,Bool.true_and,Bool.and_false,Bool.false_and,Bool.or_true,Bool.true_or]),ae ll.out (ae g4 b5)⟩
  | true=>
  cases gdd with
  | false=>
   go_wp2_with(first
    | (go_at_call 35;refine h4.mono ?_;rintro x w5 ⟨rfl,b5⟩;have g5:=ae g4 b5;have e5:=HC.out w5 g5 5 _ rfl;have e6:=HC.out w5 g5 6 _ rfl;have e7:=HC.out w5 g5 7 _ rfl;have e8:=HC.out w5 g5 8 _ rfl;have e9:=HC.out w5 g5 9 _ rfl;have h5:=H5.out w5 g5;clear h4 c5 c6 c7 c8 c9)
    | (go_at_call 49;refine h5.mono ?_;rintro x w6 ⟨⟨p1,p2,rfl,h6⟩,b6⟩;clear e5 e6 e7 e8 e9)
    | (go_at_call 35;refine h6.mono ?_;rintro x w7 ⟨rfl,b7⟩))
   go_ret;exact⟨av (by rw[<-HS.out];simp only[Bool.and_true,Bool.true_and,Bool.and_false,Bool.false_and,Bool.or_true,Bool.true_or]),ae ll.out (ae g5 (ae b6 b7))⟩
  | true=>
  go_upto_region 8 with(first
      | (go_at_call 35;refine h4.mono ?_;rintro x w5 ⟨rfl,b5⟩;have g5:=ae g4 b5;have e5:=HC.out w5 g5 5 _ rfl;have e6:=HC.out w5 g5 6 _ rfl;have e7:=HC.out w5 g5 7 _ rfl;have e8:=HC.out w5 g5 8 _ rfl;have e9:=HC.out w5 g5 9 _ rfl;have h5:=H5.out w5 g5;clear h4 c5 c6 c7 c8 c9)
      | (go_at_call 49;refine h5.mono ?_;rintro x w6 ⟨⟨p1,p2,rfl,h6⟩,b6⟩;clear e5 e6 e7 e8 e9)
      | (go_at_call 35;refine h6.mono ?_;rintro x w7 ⟨rfl,b7⟩))
  have g7:=ae g5 (ae b6 b7);clear h5 h6 b5 b6 b7 g5 g4;have gI:=HC.out w7 g7 10 _ rfl;have h7:=H6.out w7 g7
  cases pv with
  | false=>
   go_wp2_with(go_at_call 50;refine h7.mono ?_;rintro x w8 ⟨rfl,b8⟩);go_ret;exact⟨av (by rw[<-HS.out];simp only[Bool.and_true,Bool.true_and,Bool.and_false,Bool.false_and,Bool.or_true,Bool.true_or]),ae ll.out (ae g7 b8)⟩
  | true=>
  cases au with
  | false=>
   go_wp2_with(first
    | (go_at_call 50;refine h7.mono ?_;rintro x w8 ⟨rfl,b8⟩;have g8:=ae g7 b8;have P_:=HC.out w8 g8 11 _ rfl;have h8:=H7.out w8 g8;clear h7)
    | (go_at_call 50;refine h8.mono ?_;rintro x w9 ⟨rfl,b9⟩))
   go_ret;exact⟨av (by rw[<-HS.out];simp only[Bool.and_true,Bool.true_and,Bool.and_false,Bool.false_and,Bool.or_true,Bool.true_or]),ae ll.out (ae g8 b9)⟩
  | true=>
  cases sg with
  | false=>
   go_wp2_with(first
    | (go_at_call 50;refine h7.mono ?_;rintro x w8 ⟨rfl,b8⟩;have g8:=ae g7 b8;have P_:=HC.out w8 g8 11 _ rfl;have h8:=H7.out w8 g8;clear h7)
    | (go_at_call 50;refine h8.mono ?_;rintro x w9 ⟨rfl,b9⟩;have g9:=ae g8 b9;have e15:=HC.out w9 g9 15 _ rfl;have h9:=H8.out w9 g9;clear h8)
    | (go_at_call 51;refine h9.mono ?_;rintro x kD ⟨rfl,Yi⟩))
   go_ret;exact⟨av (by rw[<-HS.out];simp only[Bool.and_true,Bool.true_and,Bool.and_false,Bool.false_and,Bool.or_true,Bool.true_or]),ae ll.out (ae g9 Yi)⟩
  | true=>
  go_upto_region 10 with(first
      | (go_at_call 50;refine h7.mono ?_;rintro x w8 ⟨rfl,b8⟩;have g8:=ae g7 b8;have P_:=HC.out w8 g8 11 _ rfl;have h8:=H7.out w8 g8;clear h7)
      | (go_at_call 50;refine h8.mono ?_;rintro x w9 ⟨rfl,b9⟩;have g9:=ae g8 b9;have e15:=HC.out w9 g9 15 _ rfl;have h9:=H8.out w9 g9;clear h8)
      | (go_at_call 51;refine h9.mono ?_;rintro x kD ⟨rfl,Yi⟩))
  have Q0:=ae g9 Yi;clear h9 b8 b9 Yi g7 g8 g9 P_ e15 gI;have EM:=HC.out kD Q0 12 _ rfl;have mO:=HC.out kD Q0 13 _ rfl;have J2:=HC.out kD Q0 14 _ rfl;have h10:=H9.out kD Q0
  by_cases d5:0<=depth
  case neg=>
   have HD5:Hid (decide (0<=depth)=false):=decide_eq_false d5;go_wp2;go_ret;exact⟨av (by rw[<-HS.out];simp only[HD5.out,Bool.and_true,Bool.true_and,Bool.and_false,Bool.false_and,Bool.or_true,Bool.true_or]),ae ll.out Q0⟩
  have HD5:Hid (decide (0<=depth)=true):=decide_eq_true d5
  by_cases d6:depth<=1099511627776
  case neg=>
   have HD6:Hid (decide (depth<=1099511627776)=false):=decide_eq_false d6;go_wp2;go_ret;exact⟨av (by rw[<-HS.out];simp only[HD6.out,Bool.and_true,Bool.true_and,Bool.and_false,Bool.false_and,Bool.or_true,Bool.true_or]),ae ll.out Q0⟩
  have HD6:Hid (decide (depth<=1099511627776)=true):=decide_eq_true d6
  by_cases d7:0<=ts
  case neg=>
   have HD7:Hid (decide (0<=ts)=false):=decide_eq_false d7;go_wp2;go_ret;exact⟨av (by rw[<-HS.out];simp only[HD7.out,Bool.and_true,Bool.true_and,Bool.and_false,Bool.false_and,Bool.or_true,Bool.true_or]),ae ll.out Q0⟩
  have HD7:Hid (decide (0<=ts)=true):=decide_eq_true d7
  by_cases d8:ts<=9007199254740991
  case neg=>
   have YA:Hid (decide (ts<=9007199254740991)=false):=decide_eq_false d8;go_wp2;go_ret;exact⟨av (by rw[<-HS.out];simp only[YA.out,Bool.and_true,Bool.true_and,Bool.and_false,Bool.false_and,Bool.or_true,Bool.true_or]),ae ll.out Q0⟩
  have YA:Hid (decide (ts<=9007199254740991)=true):=decide_eq_true d8
  by_cases d9:hash.size=0
  ·have d9k:hash.toList.isEmpty=true:=by rw[Pd];exact decide_eq_true d9
   have HD9:Hid (decide (hash.size=0)=true):=decide_eq_true d9;clear d9;go_wp2;go_ret;exact⟨av (by rw[<-HS.out];simp only[HD1.out,Sw.out,HD3.out,HD5.out,HD6.out,HD7.out,YA.out,HD9.out,decide_true,Bool.and_true,Bool.true_and,Bool.and_false,Bool.false_and,Bool.or_true,Bool.true_or]),ae ll.out Q0⟩
  ·have d9k:hash.toList.isEmpty=false:=by rw[Pd];exact decide_eq_false d9
   have HD9:Hid (decide (hash.size=0)=false):=decide_eq_false d9;have hhz:=HHZ.out;clear d9;go_wp2_with(go_at_call 52;refine h10.mono ?_;rintro x I7 ⟨rfl,b11⟩);go_ret;exact⟨av (by rw[<-HS.out];simp only[HD1.out,Sw.out,HD3.out,HD5.out,HD6.out,HD7.out,YA.out,HD9.out,decide_true,Bool.false_or,Bool.and_true,Bool.true_and,Bool.and_false,Bool.false_and,Bool.or_true,Bool.true_or]),ae ll.out (ae Q0 b11)⟩
open Go.RowKit Go.Maps
theorem QO{w:World}{O:Nat->Prop}{j:J}{k i:Int}{t:ByteArray}{pk pl:Option Addr}{nk ck nl cl:Nat}(hO:∀x,O x->x<w.heap.size)
    (hj:isJ O w j [.int .i64 k,.int .i64 i,.string t,.slice pk nk ck,.slice pl nl cl]):
    Calls Tryz.prog 49 #[.agg #[.int .i64 k,.int .i64 i,.string t,.slice pk nk ck,.slice pl nl cl]] w fun x w'=>(∃p1 p2,x=.returned (.agg #[.int .i64 5,.int .i64 0,.string ⟨#[]⟩,.slice p1 1 1,.slice p2 1 1])/\isJ (fun b=>O b\/ fB w w' b) w' (.mk 5 0 aH [aS] [j]) [.int .i64 5,.int .i64 0,.string ⟨#[]⟩,.slice p1 1 1,.slice p2 1 1])/\Below w.heap.size w w':=by
 obtain⟨WB,dw⟩:∃WB,WB=(w.alloc (.cells #[.int .i64 k,.int .i64 i,.string t,.slice pk nk ck,.slice pl nl cl] 25)).alloc (.cells #[.int .i64 0,.int .i64 0,.string ⟨#[]⟩,.slice none 0 0,.slice none 0 0] 25):=⟨_,rfl⟩;have cK:Below w.heap.size w WB:=by rw[dw];exact((Below.refl _ _).alloc (Nat.le_refl _) _).alloc (by simp) _
 have lX:WB.heap[w.heap.size]?=some (.cells #[.int .i64 k,.int .i64 i,.string t,.slice pk nk ck,.slice pl nl cl] 25 (0,0)):=by rw[dw];exact jL _ _
 have rP:WB.heap[w.heap.size+1]?=some (.cells #[.int .i64 0,.int .i64 0,.string ⟨#[]⟩,.slice none 0 0,.slice none 0 0] 25 (0,0)):=by rw[dw];exact iq _ _
 have wU:WB.heap.size=w.heap.size+2:=by rw[dw];simp
 go_enter Tryz.func49,Tryz.ntmps49
 go_upto_region 1 with fail
 rw[<-dw];clear dw;obtain⟨q0,q1,q2,q3,q4⟩:=ai lX;obtain⟨i0,i1,i2,i3,i4⟩:=ai rP;obtain⟨z0,z1,z2,z3,z4⟩:=aF rP;go_wp2;have h5:=aK rP (.int .i64 5) (.int .i64 0) (.string ⟨#[]⟩) (.slice (some ⟨w.heap.size+2,0,none⟩) 1 1) (.slice (some ⟨w.heap.size+2+1,0,none⟩) 1 1);have aX:aj (One (w.heap.size+1)) WB _:=aJ WB (w.heap.size+1) (.int .i64 5) (.int .i64 0) (.string ⟨#[]⟩) (.slice (some ⟨w.heap.size+2,0,none⟩) 1 1) (.slice (some ⟨w.heap.size+2+1,0,none⟩) 1 1);obtain⟨W5,xi⟩:∃W5,W5=bF WB (w.heap.size+1) (.int .i64 5) (.int .i64 0) (.string ⟨#[]⟩) (.slice (some ⟨w.heap.size+2,0,none⟩) 1 1) (.slice (some ⟨w.heap.size+2+1,0,none⟩) 1 1):=⟨_,rfl⟩;have s5:W5.heap.size=w.heap.size+2:=by rw[xi];unfold bF;simp[wU]
 rw[<-xi]at h5 aX;unfold bF at xi;rw[<-xi];obtain⟨WE,jr⟩:∃WE,WE=(W5.alloc (.cells #[.string ⟨#[99,111,110,116,101,110,116]⟩] 9)).alloc (.cells #[.int .i64 k,.int .i64 i,.string t,.slice pk nk ck,.slice pl nl cl] 25):=⟨_,rfl⟩;have Cf:Below W5.heap.size W5 WE:=by rw[jr];exact((Below.refl _ _).alloc (Nat.le_refl _) _).alloc (by simp) _
 have Q5:WE.heap[w.heap.size+2]?=some (.cells #[.string aS] 9 (0,0)):=by rw[jr,<-s5];exact jL _ _
 have GI:WE.heap[w.heap.size+2+1]?=some (.cells #[.int .i64 k,.int .i64 i,.string t,.slice pk nk ck,.slice pl nl cl] 25 (0,0)):=by rw[jr,<-s5];exact iq _ _
 have sE:WE.heap.size=w.heap.size+4:=by rw[jr];simp;omega
 rw[<-jr];have hrE:=(Cf.block (w.heap.size+1) (by omega)).trans h5;refine bodyPost_ret (dV rfl _ _ _ rfl (nt hrE)) rfl ?_;have bE:Below w.heap.size w WE:=(cK.trans (aX.below (by omega) fun q hq=>by unfold One;omega)).trans (Cf.mono (by omega));refine⟨⟨_,_,rfl, ?_⟩,bE⟩;unfold isJ;refine⟨some ⟨w.heap.size+2,0,none⟩,1,some ⟨w.heap.size+2+1,0,none⟩,1,rfl,⟨Nat.le_refl _,fun m hm=> ?_⟩,Nat.le_refl _, ?_⟩
 ·obtain rfl:m=0:=by simpa using hm
  exact⟨_,rfl,.inr ⟨by simp,by simp;omega⟩,aR (cur:= [_]) Q5 0 _ rfl⟩
 ·unfold isJs;refine⟨⟨_,0,_,rfl,.inr ⟨by show _<=w.heap.size+2+1;omega,by rw[sE];exact Nat.lt_succ_self _⟩,fun m v hm=> ?_,hj.carry fun x hx=>⟨.inl hx,bE.block x (hO x hx)⟩⟩,by unfold isJs;trivial⟩;rw[Nat.zero_mul,Nat.add_zero,Nat.zero_add];exact aR (cur:= [_,_,_,_,_]) GI m v hm
open Go.RowKit
theorem Xb{d:Nat}{c:J}(h:szJ (d+1) c=true):szJ (d+1) (.mk 5 0 aH [aS] [c])=true:=by
 have:=wN d (d+1) c (by omega) h;unfold szJ;rw[show List.all [c] (szJ d)=true by rw[List.all_cons,this];rfl]
 rfl
theorem QP(c:J):(decide (c.kind=5)&&goodJ 12 c&&goodJ 12 (.mk 5 0 aH [aS] [c]))=fq c:=by
 have h1:goodJ 12 (.mk 4 0 aH [] [c])=goodJ 11 c:=by
  rw[vI,show bD 4 0 aH [] [c].length=true from by rw[show [c].length=1 from rfl];decide+kernel];simp
 have h2:goodJ 12 (.mk 5 0 aH [aS] [c])=goodJ 11 c:=by
  rw[vI,show bD 5 0 aH [aS] [c].length=true from by rw[show [c].length=1 from rfl];decide+kernel];simp
 unfold fq;rw[h1,h2]
 cases h:goodJ 11 c with
 | false=>simp
 | true=>rw[qw h];simp
theorem Uv(e:Ev):(decide (e.key.size<=128)&&decide (DW (gU (ints e.key))<0)&&(e.st || decide (e.key.size=0)))=ig e:=by
 have hb:decide (DW (gU (ints e.key))<0)=letters e.key:=by
  cases h:letters e.key with
  | true=>rw[jl.1 h];rfl
  | false=>
   obtain⟨p,hp⟩:=jl.2 h;rw[hp];simp
 unfold ig;rw[hb,uX]
 cases e.st with
 | true=>simp
 | false=>
  by_cases h0:e.key.size=0
  ·have hn:e.key=⟨#[]⟩:=by
     revert h0
     generalize e.key=y;intro h0;obtain⟨d⟩:=y;exact congrArg ByteArray.mk (Array.eq_empty_of_size_eq_zero h0)
   rw[hn]
   decide+kernel
  ·rw[decide_eq_false h0];simp
theorem Es{O:Nat->Prop}(e:Ev)(p:Pt)(w:World)(hE:mF O w e p)(hO:∀k,O k->k<w.heap.size)(hz:CG e)(hr:e.room.size<=1000000)(hu:e.ah.size<=1000000):
    Calls Tryz.prog 28 #[ed e p] w fun x w'=>x=.returned (.bool (aO e))/\Below w.heap.size w w':=by
 have hS:aO e=(((Id.parts 33 e.room).2.2&&Id.aQ e.aQ&&(Id.parts 64 e.ah).2.2)&&(decide (e.key.size<=128)&&decide (DW (gU (ints e.key))<0)&&(e.st || decide (e.key.size=0)))&&(decide (e.content.kind=5)&&goodJ 12 e.content&&goodJ 12 (.mk 5 0 aH [aS] [e.content]))&&(bU 20 e.prev&&bU 10 e.aC&&di e.sigs)&&(decide (0<=e.depth)&&decide (e.depth<=1099511627776)&&decide (0<=e.ts)&&decide (e.ts<=9007199254740991)&&(decide (e.hash.size=0) || iH e.hash))):=by
  rw[QP,Uv];unfold aO fJ dQ bK
  ac_rfl
 rw[hS];have dP:Below w.heap.size w (w.alloc (.cells (eP e p).toArray 28)):=(Below.refl _ _).alloc (Nat.le_refl _) _;obtain⟨B,hB⟩:∃B,B=w.alloc (.cells (eP e p).toArray 28):=⟨_,rfl⟩;rw[<-hB]at dP;have yJ:∀W,Below B.heap.size B W->mF O W e p:=fun W hW=>hE.below hO (ae dP hW);have Ea:∀W,Below B.heap.size B W->∀k,O k->k<W.heap.size:=fun W hW k hk=>Nat.lt_of_lt_of_le (hO k hk) (ae dP hW).size;refine M6 e.room e.aQ e.ah e.st e.key e.content.kind e.content.int e.content.text e.content.keys.length e.content.list.length e.prev.length e.aC.length e.depth e.ts e.hash e.sigs.length p.pk p.ck p.pl p.cl p.pp p.cp p.pa p.ca p.ps p.cs w B
  (Id.parts 33 e.room).1 (Id.parts 33 e.room).2.1 _ _ _ _ _ _ _ _ _ _ hz.hash hB
  (fun W hW j v hj=>aR ((hW.block _ (by rw[hB];simp)).trans (by rw[hB];exact heap_alloc_new _ _)) j v hj) dP (fun W _=>Id.Gm e.room W hr)
  (fun W _=>(Id.Gj e.aQ W (by have:=hz.aQ;omega)).mono fun x w2 h=>⟨h.1,h.2 ▸ Below.refl _ _⟩) (fun W _=>Jl e.ah W hu)
  (fun W _=>(Fa Un e.key W hz.key).mono fun x w2 h=>⟨h.1,h.2 ▸ Below.refl _ _⟩)
  (fun W hW=>uo (Ea W hW) hz.cont (yJ W hW).cont) (fun W hW=>(QO (Ea W hW) (yJ W hW).cont).mono fun x w2 h=> ?_)
  (fun W hW=>yz 20 (yJ W hW).prev (Ea W hW) hz.prev (by decide)) (fun W hW=>yz 10 (yJ W hW).aC (Ea W hW) hz.aC (by decide))
  (fun W hW=>ES (yJ W hW).sigs (Ea W hW) hz.sigs hz.A9) (fun W _=>Id.qQ _ W)
 obtain⟨⟨p1,p2,rfl,hj⟩,hb⟩:=h;exact⟨⟨p1,p2,rfl,uo (fun b zk=>zk.elim (fun h=>Nat.lt_of_lt_of_le (Ea W hW b h) hb.size) fun h=>h.2) (Xb hz.cont) hj⟩,hb⟩
theorem Et{O:Nat->Prop}{row:List ByteArray}{p:Option Addr}{c:Nat}{w:World}(l_:jT O w p c row)(hO:∀k,O k->k<w.heap.size)(hl:row.length<=100000):
    Calls Tryz.prog 54 #[.slice p row.length c] w fun x w'=>(∃pl nl cl,x=.returned (.agg #[.int .i64 4,.int .i64 0,.string aH,.slice none 0 0,.slice pl nl cl])/\isJ (fB w w') w' (dB row) [.int .i64 4,.int .i64 0,.string aH,.slice none 0 0,.slice pl nl cl])/\Below w.heap.size w w':=by
 obtain⟨n,hn⟩:∃n,row.length=n:=⟨_,rfl⟩;have HN:Hid (row.length=n):=hn;have Q7:=l_.1;rw[hn]at hl Q7 ⊢;clear hn;obtain⟨WB,dw⟩:∃WB,WB=(w.alloc (.cells #[.int .i64 0,.int .i64 0,.string ⟨#[]⟩,.slice none 0 0,.slice none 0 0] 25)).alloc (.cells #[.int .i64 4,.int .i64 0,.string ⟨#[]⟩,.slice none 0 0,.slice none 0 0] 25):=⟨_,rfl⟩;have cK:Below w.heap.size w WB:=by rw[dw];exact((Below.refl _ _).alloc (Nat.le_refl _) _).alloc (by simp) _
 have bn:WB.heap[w.heap.size]?=some (.cells #[.int .i64 0,.int .i64 0,.string ⟨#[]⟩,.slice none 0 0,.slice none 0 0] 25 (0,0)):=by rw[dw];exact jL _ _
 have r9:TI (fun _=>False) (w.heap.size+2) (w.heap.size+1) 4 WB [] [] (.slice none 0 0) (.slice none 0 0) WB:=TI.start (by rw[dw];simp) (by omega) (fun k h=>h.elim) (by rw[dw];exact iq _ _);go_enter Tryz.func54,Tryz.ntmps54;go_wp2;rw[<-dw];clear dw
 go_loopw [4] (fun i wr=>∃(k:Nat) (vl:Value),i=.int .i64 k/\k<=n/\TI (fun _=>False) (w.heap.size+2) (w.heap.size+1) 4 WB [] ((row.take k).map aL) (.slice none 0 0) vl wr) (fun i _=>n - (intOf i).toNat)
 case atStart=>exact⟨0,_,rfl,Nat.zero_le _,r9⟩
 case round=>
  clear r9;obtain⟨k,vl,rfl,hk,mH⟩:=hrel;obtain⟨js,ny⟩:∃js,(row.take k).map aL=js:=⟨_,rfl⟩;have U3:js.length=k:=by rw[<-ny,List.length_map,List.length_take,HN.out];omega
  by_cases bJ:k<n
  ·have Vo:(k:Int)<(n:Int):=by omega
   have gM:k<row.length:=by rw[HN.out];exact bJ
   obtain⟨a,V6,uC,yw⟩:=l_.2 k gM;subst V6;have gV:wr.cell? (a.add k)=some (.string (row.getD k aH)):=by
    have h1:=hO _ uC;have h2:=mH.F9;exact(World.cell?_of_block (by rw[aY];exact(mH.bf.block _ (by omega) (by unfold One;omega)).trans (cK.block _ h1))).trans yw
   obtain⟨u,hu⟩:∃u,row.getD k aH=u:=⟨_,rfl⟩;have Cn:Hid ((row.take (k+1)).map aL=js++ [aL u]):=by
    show _=_
    rw[List.take_add_one,List.getElem?_eq_getElem gM,List.map_append,ny,<-hu,List.getD_eq_getElem?_getD,List.getElem?_eq_getElem gM];rfl
   rw[hu]at gV;have rA:Hid (∀ks js vk vl W,TI (fun _=>False) (w.heap.size+2) (w.heap.size+1) 4 WB ks js vk vl W->W.cell? (a.add k)=some (.string u)):=fun ks js vk vl W h=>by
    have h1:=hO _ uC;have h2:=h.F9;rw[<-hu];exact(World.cell?_of_block (by rw[aY];exact(h.bf.block _ (by omega) (by unfold One;omega)).trans (cK.block _ h1))).trans yw
   have HAB:Hid (a.block<w.heap.size):=hO _ (by simpa using uC);rw[ny]at mH;clear hu yw gM ny;have hd:=mH.drew;have hT:=iR u wr.drew;obtain⟨ql,uG,vP⟩:∃q c,vl=.slice q js.length c:=by
    obtain⟨ZM,za,_⟩:=mH.dS;exact eT za
   subst vP;have HJL:Hid (js.length=k):=U3;have hjb:js.length<=100000:=by omega
   clear U3;go_wp2;have c0:=bA hd.obj;refine aD (by kernel_rfl) (fun W=>W.cell? (a.add k)=some (.string u)) ?_;change wpIn _ _ _ _ _ _ _ _ (World.drew _);refine aa (i:=0) (d:=some 12) rfl ?_;refine aa (i:=2) (d:=some 14) rfl ?_;refine aa (i:=3) (d:=some 15) rfl ?_;refine aa (i:=4) (d:=some 16) rfl ?_;refine aa (i:=5) (d:=some 17) rfl ?_;refine aW (i:=1) (j:=6) (rA.out _ _ _ _ _ hd) (by kernel_rfl) rfl rfl (by rfl) (by rfl) ?_ ?_
   ·intro K hK;go_simp;refine hK _ _ ?_;clear hK K;refine ak (i:=6) (rA.out _ _ _ _ _ hd) rfl ?_;intro K hK;go_simp;go_wp2_with(go_at_call 56;refine hT.mono ?_;rintro x w3 ⟨rfl,a_⟩);have h3:=hd.more a_;have hA:=h3.alloc (.cells #[.int .i64 3,.int .i64 0,.string u,.slice none 0 0,.slice none 0 0] 25);obtain⟨xs,bW,eZ⟩:=hA.dS;have c1:=bA h3.obj;have c2:=bA hA.obj;refine ak (i:=7) (rA.out _ _ _ _ _ h3) rfl ?_;intro K hK;go_simp;refine hK _ _ ?_;clear hK K;refine ak (i:=8) (rA.out _ _ _ _ _ hA) rfl ?_;intro K hK;refine aP (.tmp 13) (.tmp 19) 23 rfl (w.heap.size+2) 25 (.agg #[.int .i64 0,.int .i64 0,.string ⟨#[]⟩,.slice none 0 0,.slice none 0 0]) 5 80 Tryz.underlying23 Tryz.dR rfl (by decide) (by decide) _ js.length xs rfl bW _ [.int .i64 3,.int .i64 0,.string u,.slice none 0 0,.slice none 0 0] rfl rfl (jK rfl) (lH u) (by omega) hA.size ?_;intro nP W4 bT lN gN;refine hK _ _ ?_;clear hK K;obtain⟨b4,c4,wz⟩:=gK bT;subst wz;obtain⟨g0,g1,kZ⟩:=hA.push bW eZ (bB _ _ u) bT lN gN;have XK:W4.cell? (a.add k)=some (.string u):=(World.cell?_of_block (by rw[aY];exact lN.block _ (by have:=HAB.out;have:=hA.size;omega) fun e=>by have:=(aM bW _ e.symm).1;have:=HAB.out;omega)).trans (rA.out _ _ _ _ _ hA);clear bT lN gN;refine aa (i:=9) (d:=some 21) rfl ?_;refine ak (i:=10) XK rfl ?_;intro K hK;go_simp;refine hK _ _ ?_;clear hK K;refine aA (rA.out _ _ _ _ _ kZ) (by kernel_rfl) ?_ _;clear g0 g1 c0 c1 c2;go_wp2;go_roundw
    case rel=>exact⟨k+1,_,by go_num,bJ,by rw[Cn.out];exact kZ⟩
    case measure=>simp[intOf];omega
   ·intro K hK;go_simp;go_wp2_with(go_at_call 56;refine hT.mono ?_;rintro x w3 ⟨rfl,a_⟩);have h3:=hd.more a_;have hA:=h3.alloc (.cells #[.int .i64 3,.int .i64 0,.string u,.slice none 0 0,.slice none 0 0] 25);obtain⟨xs,bW,eZ⟩:=hA.dS;have c1:=bA h3.obj;have c2:=bA hA.obj;refine aW (i:=1) (j:=7) (rA.out _ _ _ _ _ h3) (by kernel_rfl) rfl rfl (by rfl) (by rfl) ?_ ?_
    ·intro K hK;go_simp;refine hK _ _ ?_;clear hK K;refine ak (i:=7) (rA.out _ _ _ _ _ h3) rfl ?_;intro K hK;go_simp;refine hK _ _ ?_;clear hK K;refine ak (i:=8) (rA.out _ _ _ _ _ hA) rfl ?_;intro K hK;refine aP (.tmp 13) (.tmp 19) 23 rfl (w.heap.size+2) 25 (.agg #[.int .i64 0,.int .i64 0,.string ⟨#[]⟩,.slice none 0 0,.slice none 0 0]) 5 80 Tryz.underlying23 Tryz.dR rfl (by decide) (by decide) _ js.length xs rfl bW _ [.int .i64 3,.int .i64 0,.string u,.slice none 0 0,.slice none 0 0] rfl rfl (jK rfl) (lH u) (by omega) hA.size ?_;intro nP W4 bT lN gN;refine hK _ _ ?_;clear hK K;obtain⟨b4,c4,wz⟩:=gK bT;subst wz;obtain⟨g0,g1,kZ⟩:=hA.push bW eZ (bB _ _ u) bT lN gN;have XK:W4.cell? (a.add k)=some (.string u):=(World.cell?_of_block (by rw[aY];exact lN.block _ (by have:=HAB.out;have:=hA.size;omega) fun e=>by have:=(aM bW _ e.symm).1;have:=HAB.out;omega)).trans (rA.out _ _ _ _ _ hA);clear bT lN gN;refine aa (i:=9) (d:=some 21) rfl ?_;refine ak (i:=10) XK rfl ?_;intro K hK;go_simp;refine hK _ _ ?_;clear hK K;refine aA (rA.out _ _ _ _ _ kZ) (by kernel_rfl) ?_ _;clear g0 g1 c0 c1 c2;go_wp2;go_roundw
     case rel=>exact⟨k+1,_,by go_num,bJ,by rw[Cn.out];exact kZ⟩
     case measure=>simp[intOf];omega
    ·intro K hK;go_simp;refine hK _ _ ?_;clear hK K;refine ak (i:=1) (rA.out _ _ _ _ _ hA) rfl ?_;intro K hK;go_simp;refine hK _ _ ?_;clear hK K;refine ak (i:=8) (rA.out _ _ _ _ _ hA) rfl ?_;intro K hK;refine aP (.tmp 13) (.tmp 19) 23 rfl (w.heap.size+2) 25 (.agg #[.int .i64 0,.int .i64 0,.string ⟨#[]⟩,.slice none 0 0,.slice none 0 0]) 5 80 Tryz.underlying23 Tryz.dR rfl (by decide) (by decide) _ js.length xs rfl bW _ [.int .i64 3,.int .i64 0,.string u,.slice none 0 0,.slice none 0 0] rfl rfl (jK rfl) (lH u) (by omega) hA.size ?_;intro nP W4 bT lN gN;refine hK _ _ ?_;clear hK K;obtain⟨b4,c4,wz⟩:=gK bT;subst wz;obtain⟨g0,g1,kZ⟩:=hA.push bW eZ (bB _ _ u) bT lN gN;have XK:W4.cell? (a.add k)=some (.string u):=(World.cell?_of_block (by rw[aY];exact lN.block _ (by have:=HAB.out;have:=hA.size;omega) fun e=>by have:=(aM bW _ e.symm).1;have:=HAB.out;omega)).trans (rA.out _ _ _ _ _ hA);clear bT lN gN;refine aa (i:=9) (d:=some 21) rfl ?_;refine ak (i:=10) XK rfl ?_;intro K hK;go_simp;refine hK _ _ ?_;clear hK K;refine aA (rA.out _ _ _ _ _ kZ) (by kernel_rfl) ?_ _;clear g0 g1 c0 c1 c2;go_wp2;go_roundw
     case rel=>exact⟨k+1,_,by go_num,bJ,by rw[Cn.out];exact kZ⟩
     case measure=>simp[intOf];omega
  ·obtain rfl:k=n:=by omega
   rw[List.take_of_length_le (by rw[HN.out];omega)]at mH;obtain⟨q2,c2,vP⟩:∃q c,vl=.slice q (row.map aL).length c:=by
    obtain⟨xs,bW,_⟩:=mH.dS;exact eT bW
   subst vP;have xA:=mH.obj;have mo:wr.heap[w.heap.size]?=some (.cells #[.int .i64 0,.int .i64 0,.string ⟨#[]⟩,.slice none 0 0,.slice none 0 0] 25 (0,0)):=(mH.bf.block _ (by have:=mH.F9;omega) (by unfold One;omega)).trans bn;obtain⟨j0,j1,j2,j3,j4⟩:=ai xA;obtain⟨i0,i1,i2,i3,i4⟩:=ai mo;obtain⟨z0,z1,z2,z3,z4⟩:=aF mo;obtain⟨m,hm⟩:∃m,(row.map aL).length=m:=⟨_,rfl⟩;have HTI:Hid (TI (fun _=>False) (w.heap.size+2) (w.heap.size+1) 4 WB [] (row.map aL) (.slice none 0 0) (.slice q2 m c2) wr):=hm ▸ mH;rw[hm]at j4;have h5:=aK mo (.int .i64 4) (.int .i64 0) (.string ⟨#[]⟩) (.slice none 0 0) (.slice q2 m c2);have aX:aj (One w.heap.size) wr _:=aJ wr w.heap.size (.int .i64 4) (.int .i64 0) (.string ⟨#[]⟩) (.slice none 0 0) (.slice q2 m c2);unfold bF at h5 aX;obtain⟨k0,k1,k2,k3,k4⟩:=ai h5;clear mH xA mo hm U3 ny;go_wp2;refine bodyPost_ret (v:=.agg #[.int .i64 4,.int .i64 0,.string ⟨#[]⟩,.slice none 0 0,.slice q2 m c2]) (by simp[results,Tryz.results54,go_sem,k0,k1,k2,k3,k4]) rfl ?_;obtain⟨r1,r2⟩:=HTI.out.done cK aX;exact⟨⟨_,_,_,rfl,r1⟩,r2⟩
end Go.Proofs.YtegcgbjjpgjnmaaGreatDoor

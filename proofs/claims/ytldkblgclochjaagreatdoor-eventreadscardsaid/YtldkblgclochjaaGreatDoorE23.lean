/- A part. -/
import Derived.Test.YtldkblgclochjaaGreatDoorE22
set_option maxRecDepth 100000
set_option maxHeartbeats 16000000
namespace Go.Proofs.YtldkblgclochjaaGreatDoor
open Go.RowKit
theorem Ub:QV 0:=fun _ _ j _ _ _ _ _ _ _ _ _ _ c=>by unfold goodJ at c;cases c
theorem QX:∀d,QV d
 | 0=>Ub
 | d+1=>Ua (QX d)
def KW(j:J):J:=if goodJ 12 j=true then ord j else J.zero
theorem XG{w:World}(o1 o2:Obj):((w.alloc o1).alloc o2).heap[w.heap.size+1]?=some o2:=by
 have:=heap_alloc_new (w.alloc o1) o2;simpa using this
theorem AB{w c w3:World}(h:Below w.heap.size w c)(d:ag (One (w.heap.size+1)) c w3):Below w.heap.size w w3:=
 h.trans (d.below h.size fun k f e=>by unfold One at e;omega)
theorem DD{w:World}{O:Nat->Prop}{j:J}{k i:Int}{t:ByteArray}{pk pl:Option Addr}{nk ck nl cl:Nat}(hO:∀x,O x->x<w.heap.size)(fI:szJ 12 j=true)
    (hj:isJ O w j [.int .i64 k,.int .i64 i,.string t,.slice pk nk ck,.slice pl nl cl]):
    Calls Tryz.prog 18 #[.agg #[.int .i64 k,.int .i64 i,.string t,.slice pk nk ck,.slice pl nl cl]] w fun x w'=>(∃A G N I S z K E u,x=.returned (.agg #[.int .i64 A,.int .i64 G,.string N,.slice I S z,.slice K E u])/\isJ (fun b=>O b\/ (w.heap.size<=b/\b<w'.heap.size)) w' (KW j) [.int .i64 A,.int .i64 G,.string N,.slice I S z,.slice K E u])/\Below w.heap.size w w':=by
 have H:Below w.heap.size w ((w.alloc (.cells #[.int .i64 k,.int .i64 i,.string t,.slice pk nk ck,.slice pl nl cl] 25)).alloc (.cells #[.int .i64 0,.int .i64 0,.string ⟨#[]⟩,.slice none 0 0,.slice none 0 0] 25)):=((Below.refl _ _).alloc (Nat.le_refl _) _).alloc (by simp) _;obtain⟨wB,m⟩:∃wB,wB=((w.alloc (.cells #[.int .i64 k,.int .i64 i,.string t,.slice pk nk ck,.slice pl nl cl] 25)).alloc (.cells #[.int .i64 0,.int .i64 0,.string ⟨#[]⟩,.slice none 0 0,.slice none 0 0] 25)):=⟨_,rfl⟩;have hA:wB.heap[w.heap.size]?=some (.cells #[.int .i64 k,.int .i64 i,.string t,.slice pk nk ck,.slice pl nl cl] 25 (0,0)):=by
  rw[m,Below.heap_alloc _ _ _ (by simp)];exact heap_alloc_new _ _
 have Z:wB.heap[w.heap.size+1]?=some (.cells #[.int .i64 0,.int .i64 0,.string ⟨#[]⟩,.slice none 0 0,.slice none 0 0] 25 (0,0)):=by rw[m];exact XG _ _
 rw[<-m]at H;have OW:∀x,O x->x<wB.heap.size:=fun x c=>Nat.lt_of_lt_of_le (hO x c) H.size;have X:=hj.carry (O':=O) (w':=wB) fun x c=>⟨c,H.block x (hO x c)⟩;have F:=rz OW fI X;have FM:w.heap.size<wB.heap.size:=(Array.getElem?_eq_some_iff.1 hA).1;have T:w.heap.size+1<wB.heap.size:=(Array.getElem?_eq_some_iff.1 Z).1;have c0:=rX hA
 cases hg:goodJ 12 j with
 | false=>
  have HZ:Hid (KW j=J.zero):=by show _=_;unfold KW;rw[hg];rfl
  rw[hg]at F;rw[m]at F;clear hj X c0;go_enter Tryz.func18,Tryz.ntmps18;go_wp2_with(go_at_call 17;refine F.mono ?_;rintro x V ⟨rfl,d⟩;rw[<-m]at d;have h:=(d.block _ T).trans Z;obtain⟨i0,i1,i2,i3,i4⟩:=aj h;obtain⟨z0,z1,z2,z3,z4⟩:=aN h);have h5:=aK h (.int .i64 0) (.int .i64 0) (.string ⟨#[]⟩) (.slice none 0 0) (.slice none 0 0);have f:ag (One (w.heap.size+1)) V _:=aI V (w.heap.size+1) (.int .i64 0) (.int .i64 0) (.string ⟨#[]⟩) (.slice none 0 0) (.slice none 0 0);unfold di at h5 f;obtain⟨k0,k1,k2,k3,k4⟩:=aj h5;refine bodyPost_ret (v:=.agg #[.int .i64 0,.int .i64 0,.string ⟨#[]⟩,.slice none 0 0,.slice none 0 0]) (by simp[results,Tryz.results18,go_sem,k0,k1,k2,k3,k4]) rfl ?_;refine⟨⟨_,_,_,_,_,_,_,_,_,rfl, ?_⟩,AB (ae H d) f⟩;rw[HZ.out];exact uz _ _
 | true=>
  have HZ:Hid (KW j=ord j):=by show _=_;unfold KW;rw[hg];rfl
  have Y:Hid (goodJ 12 j=true):=hg;have HJ:Hid (isJ O wB j [.int .i64 k,.int .i64 i,.string t,.slice pk nk ck,.slice pl nl cl]):=X;rw[hg]at F;rw[m]at F;clear hj X hg c0;go_enter Tryz.func18,Tryz.ntmps18;go_wp2_with(first
   | (go_at_call 17;refine F.mono ?_;rintro x V ⟨rfl,d⟩
      rw[<-m]at d;have hA2:=(d.block _ FM).trans hA;obtain⟨c0,c1,c2,c3,c4⟩:=aj hA2;have zb1:=QX 12 V O j k i t pk pl nk ck nl cl (fun x c=>Nat.lt_of_lt_of_le (OW x c) d.size) Y.out fI (HJ.out.carry fun x c=>⟨c,d.block x (OW x c)⟩))
   | (go_at_call 34;refine zb1.mono ?_;rintro x w4 ⟨⟨A,G,N,I,S,z,K,E,u,rfl,Mf⟩,eQ⟩
      have U:=ae d eQ;have h:=(U.block _ T).trans Z;obtain⟨i0,i1,i2,i3,i4⟩:=aj h;obtain⟨z0,z1,z2,z3,z4⟩:=aN h))
  have h5:=aK h (.int .i64 A) (.int .i64 G) (.string N) (.slice I S z) (.slice K E u);have f:ag (One (w.heap.size+1)) w4 _:=aI w4 (w.heap.size+1) (.int .i64 A) (.int .i64 G) (.string N) (.slice I S z) (.slice K E u);unfold di at h5 f;obtain⟨k0,k1,k2,k3,k4⟩:=aj h5;refine bodyPost_ret (v:=.agg #[.int .i64 A,.int .i64 G,.string N,.slice I S z,.slice K E u]) (by simp[results,Tryz.results18,go_sem,k0,k1,k2,k3,k4]) rfl ?_;refine⟨⟨_,_,_,_,_,_,_,_,_,rfl, ?_⟩,AB (ae H U) f⟩;rw[HZ.out];refine Mf.carry fun x c=> ?_;have s2:=d.size;have s4:=eQ.size
  rcases c with c| c
  ·have:=hO x c;exact⟨.inl c,f.block x (by have:=H.size;omega) (by unfold One;omega)⟩
  ·have:=c.1;exact⟨.inr ⟨by omega,Nat.lt_of_lt_of_le c.2 f.size⟩,f.block x c.2 (by unfold One;omega)⟩
open Go.RowKit Go.Maps
theorem zC{w:World}{b:Nat}{t:TypeId}{a0 a1 a2 a3 a4:Value}(h:w.heap[b]?=some (.cells #[a0,a1,a2,a3,a4] t (0,0))):(loadVar 25 ⟨b,0,none⟩).run Tryz.prog w=.ok (.agg #[a0,a1,a2,a3,a4]) w:=by
 obtain⟨c,d,j,f,k⟩:=aj h;simp[loadVar,go_sem,c,d,j,f,k]
theorem KX(s:ByteArray)(w:World)(d:s.size<=1000000):
    Calls Tryz.prog 45 #[.string s] w fun x w'=>x=.returned (.bool (Id.parts 64 s).2.2)/\Below w.heap.size w w':=by
 go_enter Tryz.func45,Tryz.ntmps45;go_wp2_with(go_at_call 85;refine(Id.JX s _ (by omega)).mono ?_;rintro e f ⟨rfl,c⟩;unfold Id.told);go_ret;exact⟨rfl,c⟩
theorem oO(s:ByteArray)(w:World):
    Calls Tryz.prog 53 #[.string s] w fun x w'=>x=.returned (.agg #[.int .i64 3,.int .i64 0,.string s,.slice none 0 0,.slice none 0 0])/\Below w.heap.size w w':=by
 have c:(w.alloc (.cells #[.int .i64 0,.int .i64 0,.string ⟨#[]⟩,.slice none 0 0,.slice none 0 0] 25)).heap[w.heap.size]?=some (.cells #[.int .i64 0,.int .i64 0,.string ⟨#[]⟩,.slice none 0 0,.slice none 0 0] 25 (0,0)):=heap_alloc_new _ _;have h:Below w.heap.size w (w.alloc (.cells #[.int .i64 0,.int .i64 0,.string ⟨#[]⟩,.slice none 0 0,.slice none 0 0] 25)):=(Below.refl _ _).alloc (Nat.le_refl _) _;go_enter Tryz.func53,Tryz.ntmps53
 go_upto_region 1 with fail
 generalize w.alloc (.cells #[.int .i64 0,.int .i64 0,.string ⟨#[]⟩,.slice none 0 0,.slice none 0 0] 25)=WB at*;obtain⟨i0,k,i2,i3,i4⟩:=aj c;obtain⟨z0,m,z2,z3,z4⟩:=aN c;go_wp2;have h5:=aK c (.int .i64 3) (.int .i64 0) (.string s) (.slice none 0 0) (.slice none 0 0);have j:ag (One w.heap.size) WB _:=aI WB w.heap.size (.int .i64 3) (.int .i64 0) (.string s) (.slice none 0 0) (.slice none 0 0);obtain⟨f,d⟩:∃f,f=di WB w.heap.size (.int .i64 3) (.int .i64 0) (.string s) (.slice none 0 0) (.slice none 0 0):=⟨_,rfl⟩;rw[<-d]at h5 j;unfold di at d;rw[<-d];refine bodyPost_ret (jo rfl _ _ _ rfl (zC h5)) rfl ?_;exact⟨rfl,h.trans (j.below h.size fun q u=>by unfold One;omega)⟩
theorem KY(n:Int)(w:World):
    Calls Tryz.prog 52 #[.int .i64 n] w fun x w'=>x=.returned (.agg #[.int .i64 2,.int .i64 n,.string ⟨#[]⟩,.slice none 0 0,.slice none 0 0])/\Below w.heap.size w w':=by
 have c:(w.alloc (.cells #[.int .i64 0,.int .i64 0,.string ⟨#[]⟩,.slice none 0 0,.slice none 0 0] 25)).heap[w.heap.size]?=some (.cells #[.int .i64 0,.int .i64 0,.string ⟨#[]⟩,.slice none 0 0,.slice none 0 0] 25 (0,0)):=heap_alloc_new _ _;have h:Below w.heap.size w (w.alloc (.cells #[.int .i64 0,.int .i64 0,.string ⟨#[]⟩,.slice none 0 0,.slice none 0 0] 25)):=(Below.refl _ _).alloc (Nat.le_refl _) _;go_enter Tryz.func52,Tryz.ntmps52
 go_upto_region 1 with fail
 generalize w.alloc (.cells #[.int .i64 0,.int .i64 0,.string ⟨#[]⟩,.slice none 0 0,.slice none 0 0] 25)=WB at*;obtain⟨i0,k,i2,i3,i4⟩:=aj c;obtain⟨z0,m,z2,z3,z4⟩:=aN c;go_wp2;have h5:=aK c (.int .i64 2) (.int .i64 n) (.string ⟨#[]⟩) (.slice none 0 0) (.slice none 0 0);have j:ag (One w.heap.size) WB _:=aI WB w.heap.size (.int .i64 2) (.int .i64 n) (.string ⟨#[]⟩) (.slice none 0 0) (.slice none 0 0);obtain⟨f,d⟩:∃f,f=di WB w.heap.size (.int .i64 2) (.int .i64 n) (.string ⟨#[]⟩) (.slice none 0 0) (.slice none 0 0):=⟨_,rfl⟩;rw[<-d]at h5 j;unfold di at d;rw[<-d];refine bodyPost_ret (jo rfl _ _ _ rfl (zC h5)) rfl ?_;exact⟨rfl,h.trans (j.below h.size fun q u=>by unfold One;omega)⟩
open Go.RowKit
set_option linter.unusedSimpArgs false in
theorem Pm(room aU ai:ByteArray)(st:Bool)(key:ByteArray)(k i:Int)(t:ByteArray)(nk nl np na:Nat)(depth ts:Int)(hash:ByteArray)(ns:Nat)(pk:Option Addr)(ck:Nat)(pl:Option Addr)(cl:Nat)(pp:Option Addr)(cp:Nat)(pa:Option Addr)(ca:Nat)(ps:Option Addr)(cs:Nat)(w B:World)
    (ra rb:ByteArray) (r ty us:Bool) (b:Int) (gd A pv au sg ev:Bool) (HHZ:Hid (hash.size<=1000000000))
    (hB:B=w.alloc (.cells #[.string room,.string aU,.string ai,.bool st,.string key,.int .i64 k,.int .i64 i,.string t,.slice pk nk ck,.slice pl nl cl,.slice pp np cp,.slice pa na ca,.int .i64 depth,.int .i64 ts,.string hash,.slice ps ns cs] 29))
    (c:Hid (∀W,Below B.heap.size B W->∀j v, [.string room,.string aU,.string ai,.bool st,.string key,.int .i64 k,.int .i64 i,.string t,.slice pk nk ck,.slice pl nl cl,.slice pp np cp,.slice pa na ca,.int .i64 depth,.int .i64 ts,.string hash,.slice ps ns cs][j]?=some v->W.cell? ⟨w.heap.size,j,none⟩=some v))
    (f:Hid (Below w.heap.size w B))
    (H0:Hid (∀W,Below B.heap.size B W->Calls Tryz.prog 43 #[.string room] W fun x w'=>x=.returned (.tuple #[.string ra,.string rb,.bool r])/\Below W.heap.size W w'))
    (H1:Hid (∀W,Below B.heap.size B W->Calls Tryz.prog 44 #[.string aU] W fun x w'=>x=.returned (.bool ty)/\Below W.heap.size W w'))
    (H2:Hid (∀W,Below B.heap.size B W->Calls Tryz.prog 45 #[.string ai] W fun x w'=>x=.returned (.bool us)/\Below W.heap.size W w'))
    (H3:Hid (∀W,Below B.heap.size B W->Calls Tryz.prog 30 #[.string key] W fun x w'=>x=.returned (.int .i64 b)/\Below W.heap.size W w'))
    (H4:Hid (∀W,Below B.heap.size B W->Calls Tryz.prog 17 #[.agg #[.int .i64 k,.int .i64 i,.string t,.slice pk nk ck,.slice pl nl cl]] W fun x w'=>x=.returned (.bool gd)/\Below W.heap.size W w'))
    (H5:Hid (∀W,Below B.heap.size B W->Calls Tryz.prog 46 #[.agg #[.int .i64 k,.int .i64 i,.string t,.slice pk nk ck,.slice pl nl cl]] W fun x w'=>(∃p1 p2,x=.returned (.agg #[.int .i64 5,.int .i64 0,.string ⟨#[]⟩,.slice p1 1 1,.slice p2 1 1])/\Calls Tryz.prog 17 #[.agg #[.int .i64 5,.int .i64 0,.string ⟨#[]⟩,.slice p1 1 1,.slice p2 1 1]] w' fun y F=>y=.returned (.bool A)/\Below w'.heap.size w' F)/\Below W.heap.size W w'))
    (H6:Hid (∀W,Below B.heap.size B W->Calls Tryz.prog 47 #[.slice pp np cp,.int .i64 20] W fun x w'=>x=.returned (.bool pv)/\Below W.heap.size W w'))
    (H7:Hid (∀W,Below B.heap.size B W->Calls Tryz.prog 47 #[.slice pa na ca,.int .i64 10] W fun x w'=>x=.returned (.bool au)/\Below W.heap.size W w'))
    (H8:Hid (∀W,Below B.heap.size B W->Calls Tryz.prog 48 #[.slice ps ns cs] W fun x w'=>x=.returned (.bool sg)/\Below W.heap.size W w'))
    (H9:Hid (∀W,Below B.heap.size B W->Calls Tryz.prog 49 #[.string (⟨#[36]⟩++hash)] W fun x w'=>x=.returned (.bool ev)/\Below W.heap.size W w')):
    Calls Tryz.prog 21 #[.agg #[.string room,.string aU,.string ai,.bool st,.string key,.int .i64 k,.int .i64 i,.string t,.slice pk nk ck,.slice pl nl cl,.slice pp np cp,.slice pa na ca,.int .i64 depth,.int .i64 ts,.string hash,.slice ps ns cs]] w fun x w'=>x=.returned (.bool ((r&&ty&&us)&&(decide (key.size<=128)&&decide (b<0)&&(st || decide (key.size=0)))&&(decide (k=5)&&gd&&A)&&(pv&&au&&sg)&&(decide (0<=depth)&&decide (depth<=1099511627776)&&decide (0<=ts)&&decide (ts<=9007199254740991)&&(decide (hash.size=0) || ev))))/\Below w.heap.size w w':=by
 obtain⟨S,hS⟩:∃S:Bool,((r&&ty&&us)&&(decide (key.size<=128)&&decide (b<0)&&(st || decide (key.size=0)))&&(decide (k=5)&&gd&&A)&&(pv&&au&&sg)&&(decide (0<=depth)&&decide (depth<=1099511627776)&&decide (0<=ts)&&decide (ts<=9007199254740991)&&(decide (hash.size=0) || ev)))=S:=⟨_,rfl⟩;rw[hS];have d:Hid (((r&&ty&&us)&&(decide (key.size<=128)&&decide (b<0)&&(st || decide (key.size=0)))&&(decide (k=5)&&gd&&A)&&(pv&&au&&sg)&&(decide (0<=depth)&&decide (depth<=1099511627776)&&decide (0<=ts)&&decide (ts<=9007199254740991)&&(decide (hash.size=0) || ev)))=S):=hS;clear hS;go_enter Tryz.func21,Tryz.ntmps21
 go_upto_region 1 with fail
 rw[<-hB];clear hB;have c0:=c.out B (Below.refl _ _) 0 _ rfl;have h0:=H0.out B (Below.refl _ _)
 go_upto_region 2 with(go_at_call 43;refine h0.mono ?_;rintro x w1 ⟨rfl,b1⟩)
 clear c0 h0;have c1:=c.out w1 b1 1 _ rfl;have h1:=H1.out w1 b1
 cases r with
 | false=>
  go_wp2;go_ret;exact⟨ak (by rw[<-d.out];rfl),ae f.out b1⟩
 | true=>
 cases ty with
 | false=>
  go_wp2_with(go_at_call 44;refine h1.mono ?_;rintro x F ⟨rfl,b2⟩);go_ret;exact⟨ak (by rw[<-d.out];rfl),ae f.out (ae b1 b2)⟩
 | true=>
 cases us with
 | false=>
  go_wp2_with(first
   | (go_at_call 44;refine h1.mono ?_;rintro x F ⟨rfl,b2⟩;have c2:=c.out F (ae b1 b2) 2 _ rfl;have h2:=H2.out F (ae b1 b2))
   | (go_at_call 45;refine h2.mono ?_;rintro x w3 ⟨rfl,b3⟩))
  go_ret;exact⟨ak (by rw[<-d.out];rfl),ae f.out (ae b1 (ae b2 b3))⟩
 | true=>
 go_upto_region 4 with(first
     | (go_at_call 44;refine h1.mono ?_;rintro x F ⟨rfl,b2⟩;have c2:=c.out F (ae b1 b2) 2 _ rfl;have h2:=H2.out F (ae b1 b2))
     | (go_at_call 45;refine h2.mono ?_;rintro x w3 ⟨rfl,b3⟩))
 have g3:=ae b1 (ae b2 b3);clear c1 h1 c2 h2 b1 b2 b3 w1 F;have c3:=c.out w3 g3 3 _ rfl;have c4:=c.out w3 g3 4 _ rfl;have h3:=H3.out w3 g3
 by_cases d1:key.size<=128
 case neg=>
  have d1i:(128:Int)<key.size:=by omega
  have U:Hid (decide (key.size<=128)=false):=decide_eq_false d1;go_wp2;go_ret;exact⟨ak (by rw[<-d.out];simp only[U.out,Bool.and_true,Bool.true_and,Bool.and_false,Bool.false_and,Bool.or_true,Bool.true_or]),ae f.out g3⟩
 have d1i:¬(128:Int)<key.size:=by omega
 have U:Hid (decide (key.size<=128)=true):=decide_eq_true d1;clear d1
 by_cases d2:b<0
 case neg=>
  have d2i:0<=b:=by omega
  have Vq:Hid (decide (b<0)=false):=decide_eq_false d2;clear d2;go_wp2_with(go_at_call 30;refine h3.mono ?_;rintro x m ⟨rfl,b4⟩;have PV:=c.out m (ae g3 b4) 4 _ rfl;have Z:=c.out m (ae g3 b4) 3 _ rfl);go_ret;exact⟨ak (by rw[<-d.out];simp only[Vq.out,Bool.and_true,Bool.true_and,Bool.and_false,Bool.false_and,Bool.or_true,Bool.true_or]),ae f.out (ae g3 b4)⟩
 have d2i:¬0<=b:=by omega
 have Vq:Hid (decide (b<0)=true):=decide_eq_true d2;clear d2
 by_cases d3:st=false/\key.size≠0
 ·have d3k:key.toList.isEmpty=false:=by rw[SV];exact decide_eq_false d3.2
  have H:Hid (decide (key.size=0)=false):=decide_eq_false d3.2;obtain⟨rfl, -⟩:=d3;go_wp2_with(go_at_call 30;refine h3.mono ?_;rintro x m ⟨rfl,b4⟩;have PV:=c.out m (ae g3 b4) 4 _ rfl;have Z:=c.out m (ae g3 b4) 3 _ rfl);go_ret;exact⟨ak (by rw[<-d.out];simp only[H.out,Bool.or_false,Bool.and_true,Bool.true_and,Bool.and_false,Bool.false_and,Bool.or_true,Bool.true_or]),ae f.out (ae g3 b4)⟩
 have H:Hid ((st || decide (key.size=0))=true):=by
  show _=_
  cases st with
  | true=>rfl
  | false=>simpa using d3
 have lM:st=true\/ (st=false/\key.toList.isEmpty=true):=by
  cases st with
  | true=>exact .inl rfl
  | false=>exact .inr ⟨rfl,by rw[SV];simpa using d3⟩
 clear d3
 rcases lM with rfl| ⟨rfl,hke⟩
 all_goals
  go_upto_region 6 with(go_at_call 30;refine h3.mono ?_;rintro x m ⟨rfl,b4⟩;have PV:=c.out m (ae g3 b4) 4 _ rfl;have Z:=c.out m (ae g3 b4) 3 _ rfl)
  have g4:=ae g3 b4;clear c3 c4 Z PV h3 b4 g3 w3 d1i d2i;have c5:=c.out m g4 5 _ rfl;have c6:=c.out m g4 6 _ rfl;have c7:=c.out m g4 7 _ rfl;have c8:=c.out m g4 8 _ rfl;have c9:=c.out m g4 9 _ rfl;have h4:=H4.out m g4
  by_cases d4:k=5
  case neg=>
   have HD4:Hid (decide (k=5)=false):=decide_eq_false d4;go_wp2;go_ret;exact⟨ak (by rw[<-d.out];simp only[HD4.out,Bool.and_true,Bool.true_and,Bool.and_false,Bool.false_and,Bool.or_true,Bool.true_or]),ae f.out g4⟩
  subst d4
  cases gd with
  | false=>
   go_wp2_with(go_at_call 17;refine h4.mono ?_;rintro x u ⟨rfl,b5⟩);go_ret;exact⟨ak (by rw[<-d.out];simp only[Bool.and_true,Bool.true_and,Bool.and_false,Bool.false_and,Bool.or_true,Bool.true_or]),ae f.out (ae g4 b5)⟩
  | true=>
  cases A with
  | false=>
   go_wp2_with(first
    | (go_at_call 17;refine h4.mono ?_;rintro x u ⟨rfl,b5⟩;have h:=ae g4 b5;have e5:=c.out u h 5 _ rfl;have e6:=c.out u h 6 _ rfl;have e7:=c.out u h 7 _ rfl;have e8:=c.out u h 8 _ rfl;have e9:=c.out u h 9 _ rfl;have h5:=H5.out u h;clear h4 c5 c6 c7 c8 c9)
    | (go_at_call 46;refine h5.mono ?_;rintro x w6 ⟨⟨p1,p2,rfl,h6⟩,b6⟩;clear e5 e6 e7 e8 e9)
    | (go_at_call 17;refine h6.mono ?_;rintro x w7 ⟨rfl,b7⟩))
   go_ret;exact⟨ak (by rw[<-d.out];simp only[Bool.and_true,Bool.true_and,Bool.and_false,Bool.false_and,Bool.or_true,Bool.true_or]),ae f.out (ae h (ae b6 b7))⟩
  | true=>
  go_upto_region 8 with(first
      | (go_at_call 17;refine h4.mono ?_;rintro x u ⟨rfl,b5⟩;have h:=ae g4 b5;have e5:=c.out u h 5 _ rfl;have e6:=c.out u h 6 _ rfl;have e7:=c.out u h 7 _ rfl;have e8:=c.out u h 8 _ rfl;have e9:=c.out u h 9 _ rfl;have h5:=H5.out u h;clear h4 c5 c6 c7 c8 c9)
      | (go_at_call 46;refine h5.mono ?_;rintro x w6 ⟨⟨p1,p2,rfl,h6⟩,b6⟩;clear e5 e6 e7 e8 e9)
      | (go_at_call 17;refine h6.mono ?_;rintro x w7 ⟨rfl,b7⟩))
  have g7:=ae h (ae b6 b7);clear h5 h6 b5 b6 b7 h g4;have jB:=c.out w7 g7 10 _ rfl;have h7:=H6.out w7 g7
  cases pv with
  | false=>
   go_wp2_with(go_at_call 47;refine h7.mono ?_;rintro x T ⟨rfl,X⟩);go_ret;exact⟨ak (by rw[<-d.out];simp only[Bool.and_true,Bool.true_and,Bool.and_false,Bool.false_and,Bool.or_true,Bool.true_or]),ae f.out (ae g7 X)⟩
  | true=>
  cases au with
  | false=>
   go_wp2_with(first
    | (go_at_call 47;refine h7.mono ?_;rintro x T ⟨rfl,X⟩;have z:=ae g7 X;have Ob:=c.out T z 11 _ rfl;have h8:=H7.out T z;clear h7)
    | (go_at_call 47;refine h8.mono ?_;rintro x w9 ⟨rfl,b9⟩))
   go_ret;exact⟨ak (by rw[<-d.out];simp only[Bool.and_true,Bool.true_and,Bool.and_false,Bool.false_and,Bool.or_true,Bool.true_or]),ae f.out (ae z b9)⟩
  | true=>
  cases sg with
  | false=>
   go_wp2_with(first
    | (go_at_call 47;refine h7.mono ?_;rintro x T ⟨rfl,X⟩;have z:=ae g7 X;have Ob:=c.out T z 11 _ rfl;have h8:=H7.out T z;clear h7)
    | (go_at_call 47;refine h8.mono ?_;rintro x w9 ⟨rfl,b9⟩;have Y:=ae z b9;have e15:=c.out w9 Y 15 _ rfl;have h9:=H8.out w9 Y;clear h8)
    | (go_at_call 48;refine h9.mono ?_;rintro x kL ⟨rfl,G⟩))
   go_ret;exact⟨ak (by rw[<-d.out];simp only[Bool.and_true,Bool.true_and,Bool.and_false,Bool.false_and,Bool.or_true,Bool.true_or]),ae f.out (ae Y G)⟩
  | true=>
  go_upto_region 10 with(first
      | (go_at_call 47;refine h7.mono ?_;rintro x T ⟨rfl,X⟩;have z:=ae g7 X;have Ob:=c.out T z 11 _ rfl;have h8:=H7.out T z;clear h7)
      | (go_at_call 47;refine h8.mono ?_;rintro x w9 ⟨rfl,b9⟩;have Y:=ae z b9;have e15:=c.out w9 Y 15 _ rfl;have h9:=H8.out w9 Y;clear h8)
      | (go_at_call 48;refine h9.mono ?_;rintro x kL ⟨rfl,G⟩))
  have E:=ae Y G;clear h9 X b9 G g7 z Y Ob e15 jB;have c12:=c.out kL E 12 _ rfl;have rV:=c.out kL E 13 _ rfl;have c14:=c.out kL E 14 _ rfl;have h10:=H9.out kL E
  by_cases d5:0<=depth
  case neg=>
   have K:Hid (decide (0<=depth)=false):=decide_eq_false d5;go_wp2;go_ret;exact⟨ak (by rw[<-d.out];simp only[K.out,Bool.and_true,Bool.true_and,Bool.and_false,Bool.false_and,Bool.or_true,Bool.true_or]),ae f.out E⟩
  have K:Hid (decide (0<=depth)=true):=decide_eq_true d5
  by_cases d6:depth<=1099511627776
  case neg=>
   have V:Hid (decide (depth<=1099511627776)=false):=decide_eq_false d6;go_wp2;go_ret;exact⟨ak (by rw[<-d.out];simp only[V.out,Bool.and_true,Bool.true_and,Bool.and_false,Bool.false_and,Bool.or_true,Bool.true_or]),ae f.out E⟩
  have V:Hid (decide (depth<=1099511627776)=true):=decide_eq_true d6
  by_cases d7:0<=ts
  case neg=>
   have I:Hid (decide (0<=ts)=false):=decide_eq_false d7;go_wp2;go_ret;exact⟨ak (by rw[<-d.out];simp only[I.out,Bool.and_true,Bool.true_and,Bool.and_false,Bool.false_and,Bool.or_true,Bool.true_or]),ae f.out E⟩
  have I:Hid (decide (0<=ts)=true):=decide_eq_true d7
  by_cases d8:ts<=9007199254740991
  case neg=>
   have N:Hid (decide (ts<=9007199254740991)=false):=decide_eq_false d8;go_wp2;go_ret;exact⟨ak (by rw[<-d.out];simp only[N.out,Bool.and_true,Bool.true_and,Bool.and_false,Bool.false_and,Bool.or_true,Bool.true_or]),ae f.out E⟩
  have N:Hid (decide (ts<=9007199254740991)=true):=decide_eq_true d8
  by_cases d9:hash.size=0
  ·have d9k:hash.toList.isEmpty=true:=by rw[SV];exact decide_eq_true d9
   have HD9:Hid (decide (hash.size=0)=true):=decide_eq_true d9;clear d9;go_wp2;go_ret;exact⟨ak (by rw[<-d.out];simp only[U.out,Vq.out,H.out,K.out,V.out,I.out,N.out,HD9.out,decide_true,Bool.and_true,Bool.true_and,Bool.and_false,Bool.false_and,Bool.or_true,Bool.true_or]),ae f.out E⟩
  ·have d9k:hash.toList.isEmpty=false:=by rw[SV];exact decide_eq_false d9
   have HD9:Hid (decide (hash.size=0)=false):=decide_eq_false d9;have hhz:=HHZ.out;clear d9;go_wp2_with(go_at_call 49;refine h10.mono ?_;rintro x KE ⟨rfl,b11⟩);go_ret;exact⟨ak (by rw[<-d.out];simp only[U.out,Vq.out,H.out,K.out,V.out,I.out,N.out,HD9.out,decide_true,Bool.false_or,Bool.and_true,Bool.true_and,Bool.and_false,Bool.false_and,Bool.or_true,Bool.true_or]),ae f.out (ae E b11)⟩
open Go.RowKit Go.Maps
theorem Uc{w:World}{O:Nat->Prop}{j:J}{k i:Int}{t:ByteArray}{pk pl:Option Addr}{nk ck nl cl:Nat}(U:∀x,O x->x<w.heap.size)
    (X:isJ O w j [.int .i64 k,.int .i64 i,.string t,.slice pk nk ck,.slice pl nl cl]):
    Calls Tryz.prog 46 #[.agg #[.int .i64 k,.int .i64 i,.string t,.slice pk nk ck,.slice pl nl cl]] w fun x w'=>(∃E G,x=.returned (.agg #[.int .i64 5,.int .i64 0,.string ⟨#[]⟩,.slice E 1 1,.slice G 1 1])/\isJ (fun b=>O b\/ gH w w' b) w' (.mk 5 0 aH [aS] [j]) [.int .i64 5,.int .i64 0,.string ⟨#[]⟩,.slice E 1 1,.slice G 1 1])/\Below w.heap.size w w':=by
 obtain⟨WB,d⟩:∃WB,WB=(w.alloc (.cells #[.int .i64 k,.int .i64 i,.string t,.slice pk nk ck,.slice pl nl cl] 25)).alloc (.cells #[.int .i64 0,.int .i64 0,.string ⟨#[]⟩,.slice none 0 0,.slice none 0 0] 25):=⟨_,rfl⟩;have S:Below w.heap.size w WB:=by rw[d];exact((Below.refl _ _).alloc (Nat.le_refl _) _).alloc (by simp) _
 have V:WB.heap[w.heap.size]?=some (.cells #[.int .i64 k,.int .i64 i,.string t,.slice pk nk ck,.slice pl nl cl] 25 (0,0)):=by rw[d];exact kV _ _
 have z:WB.heap[w.heap.size+1]?=some (.cells #[.int .i64 0,.int .i64 0,.string ⟨#[]⟩,.slice none 0 0,.slice none 0 0] 25 (0,0)):=by rw[d];exact jm _ _
 have EP:WB.heap.size=w.heap.size+2:=by rw[d];simp
 go_enter Tryz.func46,Tryz.ntmps46
 go_upto_region 1 with fail
 rw[<-d];clear d;obtain⟨q0,q1,q2,q3,q4⟩:=aj V;obtain⟨i0,i1,i2,i3,i4⟩:=aj z;obtain⟨z0,z1,z2,z3,z4⟩:=aN z;go_wp2;have h5:=aK z (.int .i64 5) (.int .i64 0) (.string ⟨#[]⟩) (.slice (some ⟨w.heap.size+2,0,none⟩) 1 1) (.slice (some ⟨w.heap.size+2+1,0,none⟩) 1 1);have I:ag (One (w.heap.size+1)) WB _:=aI WB (w.heap.size+1) (.int .i64 5) (.int .i64 0) (.string ⟨#[]⟩) (.slice (some ⟨w.heap.size+2,0,none⟩) 1 1) (.slice (some ⟨w.heap.size+2+1,0,none⟩) 1 1);obtain⟨W5,h⟩:∃W5,W5=di WB (w.heap.size+1) (.int .i64 5) (.int .i64 0) (.string ⟨#[]⟩) (.slice (some ⟨w.heap.size+2,0,none⟩) 1 1) (.slice (some ⟨w.heap.size+2+1,0,none⟩) 1 1):=⟨_,rfl⟩;have N:W5.heap.size=w.heap.size+2:=by rw[h];unfold di;simp[EP]
 rw[<-h]at h5 I;unfold di at h;rw[<-h];obtain⟨c,f⟩:∃c,c=(W5.alloc (.cells #[.string ⟨#[99,111,110,116,101,110,116]⟩] 9)).alloc (.cells #[.int .i64 k,.int .i64 i,.string t,.slice pk nk ck,.slice pl nl cl] 25):=⟨_,rfl⟩;have F:Below W5.heap.size W5 c:=by rw[f];exact((Below.refl _ _).alloc (Nat.le_refl _) _).alloc (by simp) _
 have Z:c.heap[w.heap.size+2]?=some (.cells #[.string aS] 9 (0,0)):=by rw[f,<-N];exact kV _ _
 have T:c.heap[w.heap.size+2+1]?=some (.cells #[.int .i64 k,.int .i64 i,.string t,.slice pk nk ck,.slice pl nl cl] 25 (0,0)):=by rw[f,<-N];exact jm _ _
 have Y:c.heap.size=w.heap.size+4:=by rw[f];simp;omega
 rw[<-f];have u:=(F.block (w.heap.size+1) (by omega)).trans h5;refine bodyPost_ret (jo rfl _ _ _ rfl (zC u)) rfl ?_;have H:Below w.heap.size w c:=(S.trans (I.below (by omega) fun q hq=>by unfold One;omega)).trans (F.mono (by omega));refine⟨⟨_,_,rfl, ?_⟩,H⟩;unfold isJ;refine⟨some ⟨w.heap.size+2,0,none⟩,1,some ⟨w.heap.size+2+1,0,none⟩,1,rfl,⟨Nat.le_refl _,fun m A=> ?_⟩,Nat.le_refl _, ?_⟩
 ·obtain rfl:m=0:=by simpa using A
  exact⟨_,rfl,.inr ⟨by simp,by simp;omega⟩,aQ (cur:= [_]) Z 0 _ rfl⟩
 ·unfold isJs;refine⟨⟨_,0,_,rfl,.inr ⟨by show _<=w.heap.size+2+1;omega,by rw[Y];exact Nat.lt_succ_self _⟩,fun m v A=> ?_,X.carry fun x K=>⟨.inl K,H.block x (U x K)⟩⟩,by unfold isJs;trivial⟩;rw[Nat.zero_mul,Nat.add_zero,Nat.zero_add];exact aQ (cur:= [_,_,_,_,_]) T m v A
open Go.RowKit
theorem zas{d:Nat}{c:J}(h:szJ (d+1) c=true):szJ (d+1) (.mk 5 0 aH [aS] [c])=true:=by
 have:=Bo d (d+1) c (by omega) h;unfold szJ;rw[show List.all [c] (szJ d)=true by rw[List.all_cons,this];rfl]
 rfl
theorem Ud(c:J):(decide (c.kind=5)&&goodJ 12 c&&goodJ 12 (.mk 5 0 aH [aS] [c]))=fG c:=by
 have h1:goodJ 12 (.mk 4 0 aH [] [c])=goodJ 11 c:=by
  rw[xt,show bF 4 0 aH [] [c].length=true from by rw[show [c].length=1 from rfl];decide+kernel];simp
 have h2:goodJ 12 (.mk 5 0 aH [aS] [c])=goodJ 11 c:=by
  rw[xt,show bF 5 0 aH [aS] [c].length=true from by rw[show [c].length=1 from rfl];decide+kernel];simp
 unfold fG;rw[h1,h2]
 cases h:goodJ 11 c with
 | false=>simp
 | true=>rw[oq h];simp
theorem XH(e:Ev):(decide (e.key.size<=128)&&decide (FB (iB (ints e.key))<0)&&(e.st || decide (e.key.size=0)))=iO e:=by
 have c:decide (FB (iB (ints e.key))<0)=letters e.key:=by
  cases h:letters e.key with
  | true=>rw[jE.1 h];rfl
  | false=>
   obtain⟨p,j⟩:=jE.2 h;rw[j];simp
 unfold iO;rw[c,wO]
 cases e.st with
 | true=>simp
 | false=>
  by_cases h0:e.key.size=0
  ·have f:e.key=⟨#[]⟩:=by
     revert h0
     generalize e.key=y;intro h0;obtain⟨d⟩:=y;exact congrArg ByteArray.mk (Array.eq_empty_of_size_eq_zero h0)
   rw[f]
   decide+kernel
  ·rw[decide_eq_false h0];simp
theorem Gc{O:Nat->Prop}(e:Ev)(p:Pt)(w:World)(T:mY O w e p)(F:∀k,O k->k<w.heap.size)(d:Ee e)(V:e.room.size<=1000000)(N:e.ai.size<=1000000):
    Calls Tryz.prog 21 #[fA e p] w fun x w'=>x=.returned (.bool (aO e))/\Below w.heap.size w w':=by
 have U:aO e=(((Id.parts 33 e.room).2.2&&Id.aU e.aU&&(Id.parts 64 e.ai).2.2)&&(decide (e.key.size<=128)&&decide (FB (iB (ints e.key))<0)&&(e.st || decide (e.key.size=0)))&&(decide (e.content.kind=5)&&goodJ 12 e.content&&goodJ 12 (.mk 5 0 aH [aS] [e.content]))&&(bZ 20 e.prev&&bZ 10 e.aA&&dE e.sigs)&&(decide (0<=e.depth)&&decide (e.depth<=1099511627776)&&decide (0<=e.ts)&&decide (e.ts<=9007199254740991)&&(decide (e.hash.size=0) || iX e.hash))):=by
  rw[Ud,XH];unfold aO gu eG bI
  ac_rfl
 rw[U];have u:Below w.heap.size w (w.alloc (.cells (iN e p).toArray 29)):=(Below.refl _ _).alloc (Nat.le_refl _) _;obtain⟨B,z⟩:∃B,B=w.alloc (.cells (iN e p).toArray 29):=⟨_,rfl⟩;rw[<-z]at u;have m:∀W,Below B.heap.size B W->mY O W e p:=fun W c=>T.below F (ae u c);have f:∀W,Below B.heap.size B W->∀k,O k->k<W.heap.size:=fun W c k S=>Nat.lt_of_lt_of_le (F k S) (ae u c).size;refine Pm e.room e.aU e.ai e.st e.key e.content.kind e.content.int e.content.text e.content.keys.length e.content.list.length e.prev.length e.aA.length e.depth e.ts e.hash e.sigs.length p.pk p.ck p.pl p.cl p.pp p.cp p.pa p.ca p.ps p.cs w B
  (Id.parts 33 e.room).1 (Id.parts 33 e.room).2.1 _ _ _ _ _ _ _ _ _ _ d.hash z
  (fun W c j v A=>aQ ((c.block _ (by rw[z];simp)).trans (by rw[z];exact heap_alloc_new _ _)) j v A) u (fun W _=>Id.JY e.room W (by omega))
  (fun W _=>(Id.JW e.aU W (by have:=d.aU;omega)).mono fun x E h=>⟨h.1,h.2 ▸ Below.refl _ _⟩) (fun W _=>KX e.ai W N)
  (fun W _=>(G_ XA e.key W d.key).mono fun x E h=>⟨h.1,h.2 ▸ Below.refl _ _⟩)
  (fun W c=>rz (f W c) d.cont (m W c).cont) (fun W c=>(Uc (f W c) (m W c).cont).mono fun x E h=> ?_)
  (fun W c=>Aw 20 (m W c).prev (f W c) d.prev (by decide)) (fun W c=>Aw 10 (m W c).aA (f W c) d.aA (by decide))
  (fun W c=>Ig (m W c).sigs (f W c) d.sigs d.Qw) (fun W _=>Id.sH _ W)
 obtain⟨⟨H,I,rfl,A⟩,G⟩:=h;exact⟨⟨H,I,rfl,rz (fun b K=>K.elim (fun h=>Nat.lt_of_lt_of_le (f W c b h) G.size) fun h=>h.2) (zas d.cont) A⟩,G⟩
theorem Gd{O:Nat->Prop}{row:List ByteArray}{p:Option Addr}{c:Nat}{w:World}(mF:j5 O w p c row)(hO:∀k,O k->k<w.heap.size)(hl:row.length<=100000):
    Calls Tryz.prog 51 #[.slice p row.length c] w fun x w'=>(∃pl nl cl,x=.returned (.agg #[.int .i64 4,.int .i64 0,.string aH,.slice none 0 0,.slice pl nl cl])/\isJ (gH w w') w' (dH row) [.int .i64 4,.int .i64 0,.string aH,.slice none 0 0,.slice pl nl cl])/\Below w.heap.size w w':=by
 obtain⟨n,hn⟩:∃n,row.length=n:=⟨_,rfl⟩;have HN:Hid (row.length=n):=hn;have UC:=mF.1;rw[hn]at hl UC ⊢;clear hn;obtain⟨WB,U⟩:∃WB,WB=(w.alloc (.cells #[.int .i64 0,.int .i64 0,.string ⟨#[]⟩,.slice none 0 0,.slice none 0 0] 25)).alloc (.cells #[.int .i64 4,.int .i64 0,.string ⟨#[]⟩,.slice none 0 0,.slice none 0 0] 25):=⟨_,rfl⟩;have dK:Below w.heap.size w WB:=by rw[U];exact((Below.refl _ _).alloc (Nat.le_refl _) _).alloc (by simp) _
 have bq:WB.heap[w.heap.size]?=some (.cells #[.int .i64 0,.int .i64 0,.string ⟨#[]⟩,.slice none 0 0,.slice none 0 0] 25 (0,0)):=by rw[U];exact kV _ _
 have tY:TI (fun _=>False) (w.heap.size+2) (w.heap.size+1) 4 WB [] [] (.slice none 0 0) (.slice none 0 0) WB:=TI.start (by rw[U];simp) (by omega) (fun k h=>h.elim) (by rw[U];exact jm _ _);go_enter Tryz.func51,Tryz.ntmps51;go_wp2;rw[<-U];clear U
 go_loopw [4] (fun i wr=>∃(k:Nat) (vl:Value),i=.int .i64 k/\k<=n/\TI (fun _=>False) (w.heap.size+2) (w.heap.size+1) 4 WB [] ((row.take k).map aR) (.slice none 0 0) vl wr) (fun i _=>n - (intOf i).toNat)
 case atStart=>exact⟨0,_,rfl,Nat.zero_le _,tY⟩
 case round=>
  clear tY;obtain⟨k,vl,rfl,hk,G⟩:=hrel;obtain⟨js,mf⟩:∃js,(row.take k).map aR=js:=⟨_,rfl⟩;have YR:js.length=k:=by rw[<-mf,List.length_map,List.length_take,HN.out];omega
  by_cases bQ:k<n
  ·have hki:(k:Int)<(n:Int):=by omega
   have gZ:k<row.length:=by rw[HN.out];exact bQ
   obtain⟨a,ZY,xf,DW⟩:=mF.2 k gZ;subst ZY;have je:wr.cell? (a.add k)=some (.string (row.getD k aH)):=by
    have h1:=hO _ xf;have h2:=G.IQ;exact(World.cell?_of_block (by rw[bu];exact(G.bf.block _ (by omega) (by unfold One;omega)).trans (dK.block _ h1))).trans DW
   obtain⟨u,hu⟩:∃u,row.getD k aH=u:=⟨_,rfl⟩;have IP:Hid ((row.take (k+1)).map aR=js++ [aR u]):=by
    show _=_
    rw[List.take_add_one,List.getElem?_eq_getElem gZ,List.map_append,mf,<-hu,List.getD_eq_getElem?_getD,List.getElem?_eq_getElem gZ];rfl
   rw[hu]at je;have A:Hid (∀ks js vk vl W,TI (fun _=>False) (w.heap.size+2) (w.heap.size+1) 4 WB ks js vk vl W->W.cell? (a.add k)=some (.string u)):=fun ks js vk vl W h=>by
    have h1:=hO _ xf;have h2:=h.IQ;rw[<-hu];exact(World.cell?_of_block (by rw[bu];exact(h.bf.block _ (by omega) (by unfold One;omega)).trans (dK.block _ h1))).trans DW
   have E:Hid (a.block<w.heap.size):=hO _ (by simpa using xf);rw[mf]at G;clear hu DW gZ mf;have V:=G.drew;have hT:=oO u wr.drew;obtain⟨ql,vD,xA⟩:∃q c,vl=.slice q js.length c:=by
    obtain⟨xs0,AQ,_⟩:=G.eD;exact fe AQ
   subst xA;have HJL:Hid (js.length=k):=YR;have hjb:js.length<=100000:=by omega
   clear YR;go_wp2;have c0:=aZ V.obj;refine aD (by kernel_rfl) (fun W=>W.cell? (a.add k)=some (.string u)) ?_;change wpIn _ _ _ _ _ _ _ _ (World.drew _);refine aa (i:=0) (d:=some 12) rfl ?_;refine aa (i:=2) (d:=some 14) rfl ?_;refine aa (i:=3) (d:=some 15) rfl ?_;refine aa (i:=4) (d:=some 16) rfl ?_;refine aa (i:=5) (d:=some 17) rfl ?_;refine bR (i:=1) (j:=6) (A.out _ _ _ _ _ V) (by kernel_rfl) rfl rfl (by rfl) (by rfl) ?_ ?_
   ·intro K f;go_simp;refine f _ _ ?_;clear f K;refine av (i:=6) (A.out _ _ _ _ _ V) rfl ?_;intro K f;go_simp;go_wp2_with(go_at_call 53;refine hT.mono ?_;rintro x w3 ⟨rfl,dh⟩);have h3:=V.more dh;have z:=h3.alloc (.cells #[.int .i64 3,.int .i64 0,.string u,.slice none 0 0,.slice none 0 0] 25);obtain⟨xs,F,fC⟩:=z.eD;have c1:=aZ h3.obj;have c2:=aZ z.obj;refine av (i:=7) (A.out _ _ _ _ _ h3) rfl ?_;intro K f;go_simp;refine f _ _ ?_;clear f K;refine av (i:=8) (A.out _ _ _ _ _ z) rfl ?_;intro K f;refine aP (.tmp 13) (.tmp 19) 23 rfl (w.heap.size+2) 25 (.agg #[.int .i64 0,.int .i64 0,.string ⟨#[]⟩,.slice none 0 0,.slice none 0 0]) 5 80 Tryz.underlying23 Tryz.eB rfl (by decide) (by decide) _ js.length xs rfl F _ [.int .i64 3,.int .i64 0,.string u,.slice none 0 0,.slice none 0 0] rfl rfl (jS rfl) (lV u) (by omega) z.size ?_;intro oh W4 N H S;refine f _ _ ?_;clear f K;obtain⟨b4,c4,Y⟩:=ik N;subst Y;obtain⟨Z,X,T⟩:=z.push F fC (cu _ _ u) N H S;have I:W4.cell? (a.add k)=some (.string u):=(World.cell?_of_block (by rw[bu];exact H.block _ (by have:=E.out;have:=z.size;omega) fun e=>by have:=(aJ F _ e.symm).1;have:=E.out;omega)).trans (A.out _ _ _ _ _ z);clear N H S;refine aa (i:=9) (d:=some 21) rfl ?_;refine av (i:=10) I rfl ?_;intro K f;go_simp;refine f _ _ ?_;clear f K;refine aB (A.out _ _ _ _ _ T) (by kernel_rfl) ?_ _;clear Z X c0 c1 c2;go_wp2;go_roundw
    case rel=>exact⟨k+1,_,by go_num,bQ,by rw[IP.out];exact T⟩
    case measure=>simp[intOf];omega
   ·intro K f;go_simp;go_wp2_with(go_at_call 53;refine hT.mono ?_;rintro x w3 ⟨rfl,dh⟩);have h3:=V.more dh;have z:=h3.alloc (.cells #[.int .i64 3,.int .i64 0,.string u,.slice none 0 0,.slice none 0 0] 25);obtain⟨xs,F,fC⟩:=z.eD;have c1:=aZ h3.obj;have c2:=aZ z.obj;refine bR (i:=1) (j:=7) (A.out _ _ _ _ _ h3) (by kernel_rfl) rfl rfl (by rfl) (by rfl) ?_ ?_
    ·intro K f;go_simp;refine f _ _ ?_;clear f K;refine av (i:=7) (A.out _ _ _ _ _ h3) rfl ?_;intro K f;go_simp;refine f _ _ ?_;clear f K;refine av (i:=8) (A.out _ _ _ _ _ z) rfl ?_;intro K f;refine aP (.tmp 13) (.tmp 19) 23 rfl (w.heap.size+2) 25 (.agg #[.int .i64 0,.int .i64 0,.string ⟨#[]⟩,.slice none 0 0,.slice none 0 0]) 5 80 Tryz.underlying23 Tryz.eB rfl (by decide) (by decide) _ js.length xs rfl F _ [.int .i64 3,.int .i64 0,.string u,.slice none 0 0,.slice none 0 0] rfl rfl (jS rfl) (lV u) (by omega) z.size ?_;intro oh W4 N H S;refine f _ _ ?_;clear f K;obtain⟨b4,c4,Y⟩:=ik N;subst Y;obtain⟨Z,X,T⟩:=z.push F fC (cu _ _ u) N H S;have I:W4.cell? (a.add k)=some (.string u):=(World.cell?_of_block (by rw[bu];exact H.block _ (by have:=E.out;have:=z.size;omega) fun e=>by have:=(aJ F _ e.symm).1;have:=E.out;omega)).trans (A.out _ _ _ _ _ z);clear N H S;refine aa (i:=9) (d:=some 21) rfl ?_;refine av (i:=10) I rfl ?_;intro K f;go_simp;refine f _ _ ?_;clear f K;refine aB (A.out _ _ _ _ _ T) (by kernel_rfl) ?_ _;clear Z X c0 c1 c2;go_wp2;go_roundw
     case rel=>exact⟨k+1,_,by go_num,bQ,by rw[IP.out];exact T⟩
     case measure=>simp[intOf];omega
    ·intro K f;go_simp;refine f _ _ ?_;clear f K;refine av (i:=1) (A.out _ _ _ _ _ z) rfl ?_;intro K f;go_simp;refine f _ _ ?_;clear f K;refine av (i:=8) (A.out _ _ _ _ _ z) rfl ?_;intro K f;refine aP (.tmp 13) (.tmp 19) 23 rfl (w.heap.size+2) 25 (.agg #[.int .i64 0,.int .i64 0,.string ⟨#[]⟩,.slice none 0 0,.slice none 0 0]) 5 80 Tryz.underlying23 Tryz.eB rfl (by decide) (by decide) _ js.length xs rfl F _ [.int .i64 3,.int .i64 0,.string u,.slice none 0 0,.slice none 0 0] rfl rfl (jS rfl) (lV u) (by omega) z.size ?_;intro oh W4 N H S;refine f _ _ ?_;clear f K;obtain⟨b4,c4,Y⟩:=ik N;subst Y;obtain⟨Z,X,T⟩:=z.push F fC (cu _ _ u) N H S;have I:W4.cell? (a.add k)=some (.string u):=(World.cell?_of_block (by rw[bu];exact H.block _ (by have:=E.out;have:=z.size;omega) fun e=>by have:=(aJ F _ e.symm).1;have:=E.out;omega)).trans (A.out _ _ _ _ _ z);clear N H S;refine aa (i:=9) (d:=some 21) rfl ?_;refine av (i:=10) I rfl ?_;intro K f;go_simp;refine f _ _ ?_;clear f K;refine aB (A.out _ _ _ _ _ T) (by kernel_rfl) ?_ _;clear Z X c0 c1 c2;go_wp2;go_roundw
     case rel=>exact⟨k+1,_,by go_num,bQ,by rw[IP.out];exact T⟩
     case measure=>simp[intOf];omega
  ·obtain rfl:k=n:=by omega
   rw[List.take_of_length_le (by rw[HN.out];omega)]at G;obtain⟨q2,c2,xA⟩:∃q c,vl=.slice q (row.map aR).length c:=by
    obtain⟨xs,F,_⟩:=G.eD;exact fe F
   subst xA;have yR:=G.obj;have pX:wr.heap[w.heap.size]?=some (.cells #[.int .i64 0,.int .i64 0,.string ⟨#[]⟩,.slice none 0 0,.slice none 0 0] 25 (0,0)):=(G.bf.block _ (by have:=G.IQ;omega) (by unfold One;omega)).trans bq;obtain⟨j0,j1,j2,j3,j4⟩:=aj yR;obtain⟨i0,i1,i2,i3,i4⟩:=aj pX;obtain⟨z0,z1,z2,z3,z4⟩:=aN pX;obtain⟨m,hm⟩:∃m,(row.map aR).length=m:=⟨_,rfl⟩;have HTI:Hid (TI (fun _=>False) (w.heap.size+2) (w.heap.size+1) 4 WB [] (row.map aR) (.slice none 0 0) (.slice q2 m c2) wr):=hm ▸ G;rw[hm]at j4;have h5:=aK pX (.int .i64 4) (.int .i64 0) (.string ⟨#[]⟩) (.slice none 0 0) (.slice q2 m c2);have bn:ag (One w.heap.size) wr _:=aI wr w.heap.size (.int .i64 4) (.int .i64 0) (.string ⟨#[]⟩) (.slice none 0 0) (.slice q2 m c2);unfold di at h5 bn;obtain⟨k0,k1,k2,k3,k4⟩:=aj h5;clear G yR pX hm YR mf;go_wp2;refine bodyPost_ret (v:=.agg #[.int .i64 4,.int .i64 0,.string ⟨#[]⟩,.slice none 0 0,.slice q2 m c2]) (by simp[results,Tryz.results51,go_sem,k0,k1,k2,k3,k4]) rfl ?_;obtain⟨r1,r2⟩:=HTI.out.done dK bn;exact⟨⟨_,_,_,rfl,r1⟩,r2⟩
end Go.Proofs.YtldkblgclochjaaGreatDoor

/- A part. -/
import Derived.Test.YtldegjjaknelgaaGreatDoorAJ26
set_option maxRecDepth 100000
set_option maxHeartbeats 64000000
namespace Go.Proofs.YtldegjjaknelgaaGreatDoor
open Go.RowKit
set_option linter.unusedSimpArgs false in
theorem Ma(room aR ah:ByteArray)(st:Bool)(key:ByteArray)(k i:Int)(t:ByteArray)(nk nl np na:Nat)(depth ts:Int)(hash:ByteArray)(ns:Nat)(pk:Option Addr)(ck:Nat)(pl:Option Addr)(cl:Nat)(pp:Option Addr)(cp:Nat)(pa:Option Addr)(ca:Nat)(ps:Option Addr)(cs:Nat)(w B:World)
    (ra rb:ByteArray) (r ty us:Bool) (b:Int) (gd gdd pv au sg ev:Bool) (HHZ:Hid (hash.size<=1000000000))
    (hB:B=w.alloc (.cells #[.string room,.string aR,.string ah,.bool st,.string key,.int .i64 k,.int .i64 i,.string t,.slice pk nk ck,.slice pl nl cl,.slice pp np cp,.slice pa na ca,.int .i64 depth,.int .i64 ts,.string hash,.slice ps ns cs] 28))
    (HC:Hid (∀W,Below B.heap.size B W->∀j v, [.string room,.string aR,.string ah,.bool st,.string key,.int .i64 k,.int .i64 i,.string t,.slice pk nk ck,.slice pl nl cl,.slice pp np cp,.slice pa na ca,.int .i64 depth,.int .i64 ts,.string hash,.slice ps ns cs][j]?=some v->W.cell? ⟨w.heap.size,j,none⟩=some v))
    (bX:Hid (Below w.heap.size w B))
    (H0:Hid (∀W,Below B.heap.size B W->Calls Tryz.prog 33 #[.string room] W fun x w'=>x=.returned (.tuple #[.string ra,.string rb,.bool r])/\Below W.heap.size W w'))
    (H1:Hid (∀W,Below B.heap.size B W->Calls Tryz.prog 34 #[.string aR] W fun x w'=>x=.returned (.bool ty)/\Below W.heap.size W w'))
    (H2:Hid (∀W,Below B.heap.size B W->Calls Tryz.prog 35 #[.string ah] W fun x w'=>x=.returned (.bool us)/\Below W.heap.size W w'))
    (H3:Hid (∀W,Below B.heap.size B W->Calls Tryz.prog 36 #[.string key] W fun x w'=>x=.returned (.int .i64 b)/\Below W.heap.size W w'))
    (H4:Hid (∀W,Below B.heap.size B W->Calls Tryz.prog 37 #[.agg #[.int .i64 k,.int .i64 i,.string t,.slice pk nk ck,.slice pl nl cl]] W fun x w'=>x=.returned (.bool gd)/\Below W.heap.size W w'))
    (H5:Hid (∀W,Below B.heap.size B W->Calls Tryz.prog 38 #[.agg #[.int .i64 k,.int .i64 i,.string t,.slice pk nk ck,.slice pl nl cl]] W fun x w'=>(∃p1 p2,x=.returned (.agg #[.int .i64 5,.int .i64 0,.string ⟨#[]⟩,.slice p1 1 1,.slice p2 1 1])/\Calls Tryz.prog 37 #[.agg #[.int .i64 5,.int .i64 0,.string ⟨#[]⟩,.slice p1 1 1,.slice p2 1 1]] w' fun y w2=>y=.returned (.bool gdd)/\Below w'.heap.size w' w2)/\Below W.heap.size W w'))
    (H6:Hid (∀W,Below B.heap.size B W->Calls Tryz.prog 39 #[.slice pp np cp,.int .i64 20] W fun x w'=>x=.returned (.bool pv)/\Below W.heap.size W w'))
    (H7:Hid (∀W,Below B.heap.size B W->Calls Tryz.prog 39 #[.slice pa na ca,.int .i64 10] W fun x w'=>x=.returned (.bool au)/\Below W.heap.size W w'))
    (H8:Hid (∀W,Below B.heap.size B W->Calls Tryz.prog 40 #[.slice ps ns cs] W fun x w'=>x=.returned (.bool sg)/\Below W.heap.size W w'))
    (H9:Hid (∀W,Below B.heap.size B W->Calls Tryz.prog 41 #[.string (⟨#[36]⟩++hash)] W fun x w'=>x=.returned (.bool ev)/\Below W.heap.size W w')):
    Calls Tryz.prog 16 #[.agg #[.string room,.string aR,.string ah,.bool st,.string key,.int .i64 k,.int .i64 i,.string t,.slice pk nk ck,.slice pl nl cl,.slice pp np cp,.slice pa na ca,.int .i64 depth,.int .i64 ts,.string hash,.slice ps ns cs]] w fun x w'=>x=.returned (.bool ((r&&ty&&us)&&(decide (key.size<=128)&&decide (b<0)&&(st || decide (key.size=0)))&&(decide (k=5)&&gd&&gdd)&&(pv&&au&&sg)&&(decide (0<=depth)&&decide (depth<=1099511627776)&&decide (0<=ts)&&decide (ts<=9007199254740991)&&(decide (hash.size=0) || ev))))/\Below w.heap.size w w':=by
 obtain⟨S,hS⟩:∃S:Bool,((r&&ty&&us)&&(decide (key.size<=128)&&decide (b<0)&&(st || decide (key.size=0)))&&(decide (k=5)&&gd&&gdd)&&(pv&&au&&sg)&&(decide (0<=depth)&&decide (depth<=1099511627776)&&decide (0<=ts)&&decide (ts<=9007199254740991)&&(decide (hash.size=0) || ev)))=S:=⟨_,rfl⟩;rw[hS];have HS:Hid (((r&&ty&&us)&&(decide (key.size<=128)&&decide (b<0)&&(st || decide (key.size=0)))&&(decide (k=5)&&gd&&gdd)&&(pv&&au&&sg)&&(decide (0<=depth)&&decide (depth<=1099511627776)&&decide (0<=ts)&&decide (ts<=9007199254740991)&&(decide (hash.size=0) || ev)))=S):=hS;clear hS;go_enter Tryz.func16,Tryz.ntmps16
 go_upto_region 1 with fail
 rw[<-hB];clear hB;have c0:=HC.out B (Below.refl _ _) 0 _ rfl;have h0:=H0.out B (Below.refl _ _)
 go_upto_region 2 with(go_at_call 33;refine h0.mono ?_;rintro x w1 ⟨rfl,b1⟩)
 clear c0 h0;have c1:=HC.out w1 b1 1 _ rfl;have h1:=H1.out w1 b1
 cases r with
 | false=>
  go_wp2;go_ret;exact⟨aj (by rw[<-HS.out];rfl),av bX.out b1⟩
 | true=>
 cases ty with
 | false=>
  go_wp2_with(go_at_call 34;refine h1.mono ?_;rintro x w2 ⟨rfl,b2⟩);go_ret;exact⟨aj (by rw[<-HS.out];rfl),av bX.out (av b1 b2)⟩
 | true=>
 cases us with
 | false=>
  go_wp2_with(first
   | (go_at_call 34;refine h1.mono ?_;rintro x w2 ⟨rfl,b2⟩;have c2:=HC.out w2 (av b1 b2) 2 _ rfl;have h2:=H2.out w2 (av b1 b2))
   | (go_at_call 35;refine h2.mono ?_;rintro x w3 ⟨rfl,b3⟩))
  go_ret;exact⟨aj (by rw[<-HS.out];rfl),av bX.out (av b1 (av b2 b3))⟩
 | true=>
 go_upto_region 4 with(first
     | (go_at_call 34;refine h1.mono ?_;rintro x w2 ⟨rfl,b2⟩;have c2:=HC.out w2 (av b1 b2) 2 _ rfl;have h2:=H2.out w2 (av b1 b2))
     | (go_at_call 35;refine h2.mono ?_;rintro x w3 ⟨rfl,b3⟩))
 have g3:=av b1 (av b2 b3);clear c1 h1 c2 h2 b1 b2 b3 w1 w2;have c3:=HC.out w3 g3 3 _ rfl;have c4:=HC.out w3 g3 4 _ rfl;have h3:=H3.out w3 g3
 by_cases d1:key.size<=128
 case neg=>
  have d1i:(128:Int)<key.size:=by omega
  have HD1:Hid (decide (key.size<=128)=false):=decide_eq_false d1;go_wp2;go_ret;exact⟨aj (by rw[<-HS.out];simp only[HD1.out,Bool.and_true,Bool.true_and,Bool.and_false,Bool.false_and,Bool.or_true,Bool.true_or]),av bX.out g3⟩
 have d1i:¬(128:Int)<key.size:=by omega
 have HD1:Hid (decide (key.size<=128)=true):=decide_eq_true d1;clear d1
 by_cases d2:b<0
 case neg=>
  have d2i:0<=b:=by omega
  have HD2:Hid (decide (b<0)=false):=decide_eq_false d2;clear d2;go_wp2_with(go_at_call 36;refine h3.mono ?_;rintro x w4 ⟨rfl,b4⟩;have Qj:=HC.out w4 (av g3 b4) 4 _ rfl;have c3':=HC.out w4 (av g3 b4) 3 _ rfl);go_ret;exact⟨aj (by rw[<-HS.out];simp only[HD2.out,Bool.and_true,Bool.true_and,Bool.and_false,Bool.false_and,Bool.or_true,Bool.true_or]),av bX.out (av g3 b4)⟩
 have d2i:¬0<=b:=by omega
 have HD2:Hid (decide (b<0)=true):=decide_eq_true d2;clear d2
 by_cases d3:st=false/\key.size≠0
 ·have d3k:key.toList.isEmpty=false:=by rw[O0];exact decide_eq_false d3.2
  have HD3:Hid (decide (key.size=0)=false):=decide_eq_false d3.2;obtain⟨rfl, -⟩:=d3;go_wp2_with(go_at_call 36;refine h3.mono ?_;rintro x w4 ⟨rfl,b4⟩;have Qj:=HC.out w4 (av g3 b4) 4 _ rfl;have c3':=HC.out w4 (av g3 b4) 3 _ rfl);go_ret;exact⟨aj (by rw[<-HS.out];simp only[HD3.out,Bool.or_false,Bool.and_true,Bool.true_and,Bool.and_false,Bool.false_and,Bool.or_true,Bool.true_or]),av bX.out (av g3 b4)⟩
 have HD3:Hid ((st || decide (key.size=0))=true):=by
  show _=_
  cases st with
  | true=>rfl
  | false=>simpa using d3
 have lG:st=true\/ (st=false/\key.toList.isEmpty=true):=by
  cases st with
  | true=>exact .inl rfl
  | false=>exact .inr ⟨rfl,by rw[O0];simpa using d3⟩
 clear d3
 rcases lG with rfl| ⟨rfl,hke⟩
 all_goals
  go_upto_region 6 with(go_at_call 36;refine h3.mono ?_;rintro x w4 ⟨rfl,b4⟩;have Qj:=HC.out w4 (av g3 b4) 4 _ rfl;have c3':=HC.out w4 (av g3 b4) 3 _ rfl)
  have g4:=av g3 b4;clear c3 c4 c3' Qj h3 b4 g3 w3 d1i d2i;have c5:=HC.out w4 g4 5 _ rfl;have c6:=HC.out w4 g4 6 _ rfl;have c7:=HC.out w4 g4 7 _ rfl;have c8:=HC.out w4 g4 8 _ rfl;have c9:=HC.out w4 g4 9 _ rfl;have h4:=H4.out w4 g4
  by_cases d4:k=5
  case neg=>
   have HD4:Hid (decide (k=5)=false):=decide_eq_false d4;go_wp2;go_ret;exact⟨aj (by rw[<-HS.out];simp only[HD4.out,Bool.and_true,Bool.true_and,Bool.and_false,Bool.false_and,Bool.or_true,Bool.true_or]),av bX.out g4⟩
  subst d4
  cases gd with
  | false=>
   go_wp2_with(go_at_call 37;refine h4.mono ?_;rintro x w5 ⟨rfl,b5⟩);go_ret;exact⟨aj (by rw[<-HS.out];simp only[Bool.and_true,Bool.true_and,Bool.and_false,Bool.false_and,Bool.or_true,Bool.true_or]),av bX.out (av g4 b5)⟩
  | true=>
  cases gdd with
  | false=>
   go_wp2_with(first
    | (go_at_call 37;refine h4.mono ?_;rintro x w5 ⟨rfl,b5⟩;have g5:=av g4 b5;have e5:=HC.out w5 g5 5 _ rfl;have e6:=HC.out w5 g5 6 _ rfl;have e7:=HC.out w5 g5 7 _ rfl;have e8:=HC.out w5 g5 8 _ rfl;have e9:=HC.out w5 g5 9 _ rfl;have h5:=H5.out w5 g5;clear h4 c5 c6 c7 c8 c9)
    | (go_at_call 38;refine h5.mono ?_;rintro x w6 ⟨⟨p1,p2,rfl,h6⟩,b6⟩;clear e5 e6 e7 e8 e9)
    | (go_at_call 37;refine h6.mono ?_;rintro x w7 ⟨rfl,b7⟩))
   go_ret;exact⟨aj (by rw[<-HS.out];simp only[Bool.and_true,Bool.true_and,Bool.and_false,Bool.false_and,Bool.or_true,Bool.true_or]),av bX.out (av g5 (av b6 b7))⟩
  | true=>
  go_upto_region 8 with(first
      | (go_at_call 37;refine h4.mono ?_;rintro x w5 ⟨rfl,b5⟩;have g5:=av g4 b5;have e5:=HC.out w5 g5 5 _ rfl;have e6:=HC.out w5 g5 6 _ rfl;have e7:=HC.out w5 g5 7 _ rfl;have e8:=HC.out w5 g5 8 _ rfl;have e9:=HC.out w5 g5 9 _ rfl;have h5:=H5.out w5 g5;clear h4 c5 c6 c7 c8 c9)
      | (go_at_call 38;refine h5.mono ?_;rintro x w6 ⟨⟨p1,p2,rfl,h6⟩,b6⟩;clear e5 e6 e7 e8 e9)
      | (go_at_call 37;refine h6.mono ?_;rintro x w7 ⟨rfl,b7⟩))
  have g7:=av g5 (av b6 b7);clear h5 h6 b5 b6 b7 g5 g4;have l_:=HC.out w7 g7 10 _ rfl;have h7:=H6.out w7 g7
  cases pv with
  | false=>
   go_wp2_with(go_at_call 39;refine h7.mono ?_;rintro x w8 ⟨rfl,b8⟩);go_ret;exact⟨aj (by rw[<-HS.out];simp only[Bool.and_true,Bool.true_and,Bool.and_false,Bool.false_and,Bool.or_true,Bool.true_or]),av bX.out (av g7 b8)⟩
  | true=>
  cases au with
  | false=>
   go_wp2_with(first
    | (go_at_call 39;refine h7.mono ?_;rintro x w8 ⟨rfl,b8⟩;have g8:=av g7 b8;have OV:=HC.out w8 g8 11 _ rfl;have h8:=H7.out w8 g8;clear h7)
    | (go_at_call 39;refine h8.mono ?_;rintro x w9 ⟨rfl,b9⟩))
   go_ret;exact⟨aj (by rw[<-HS.out];simp only[Bool.and_true,Bool.true_and,Bool.and_false,Bool.false_and,Bool.or_true,Bool.true_or]),av bX.out (av g8 b9)⟩
  | true=>
  cases sg with
  | false=>
   go_wp2_with(first
    | (go_at_call 39;refine h7.mono ?_;rintro x w8 ⟨rfl,b8⟩;have g8:=av g7 b8;have OV:=HC.out w8 g8 11 _ rfl;have h8:=H7.out w8 g8;clear h7)
    | (go_at_call 39;refine h8.mono ?_;rintro x w9 ⟨rfl,b9⟩;have g9:=av g8 b9;have e15:=HC.out w9 g9 15 _ rfl;have h9:=H8.out w9 g9;clear h8)
    | (go_at_call 40;refine h9.mono ?_;rintro x TD ⟨rfl,b10⟩))
   go_ret;exact⟨aj (by rw[<-HS.out];simp only[Bool.and_true,Bool.true_and,Bool.and_false,Bool.false_and,Bool.or_true,Bool.true_or]),av bX.out (av g9 b10)⟩
  | true=>
  go_upto_region 10 with(first
      | (go_at_call 39;refine h7.mono ?_;rintro x w8 ⟨rfl,b8⟩;have g8:=av g7 b8;have OV:=HC.out w8 g8 11 _ rfl;have h8:=H7.out w8 g8;clear h7)
      | (go_at_call 39;refine h8.mono ?_;rintro x w9 ⟨rfl,b9⟩;have g9:=av g8 b9;have e15:=HC.out w9 g9 15 _ rfl;have h9:=H8.out w9 g9;clear h8)
      | (go_at_call 40;refine h9.mono ?_;rintro x TD ⟨rfl,b10⟩))
  have PW:=av g9 b10;clear h9 b8 b9 b10 g7 g8 g9 OV e15 l_;have Hz:=HC.out TD PW 12 _ rfl;have kW:=HC.out TD PW 13 _ rfl;have H_:=HC.out TD PW 14 _ rfl;have h10:=H9.out TD PW
  by_cases d5:0<=depth
  case neg=>
   have HD5:Hid (decide (0<=depth)=false):=decide_eq_false d5;go_wp2;go_ret;exact⟨aj (by rw[<-HS.out];simp only[HD5.out,Bool.and_true,Bool.true_and,Bool.and_false,Bool.false_and,Bool.or_true,Bool.true_or]),av bX.out PW⟩
  have HD5:Hid (decide (0<=depth)=true):=decide_eq_true d5
  by_cases d6:depth<=1099511627776
  case neg=>
   have HD6:Hid (decide (depth<=1099511627776)=false):=decide_eq_false d6;go_wp2;go_ret;exact⟨aj (by rw[<-HS.out];simp only[HD6.out,Bool.and_true,Bool.true_and,Bool.and_false,Bool.false_and,Bool.or_true,Bool.true_or]),av bX.out PW⟩
  have HD6:Hid (decide (depth<=1099511627776)=true):=decide_eq_true d6
  by_cases d7:0<=ts
  case neg=>
   have HD7:Hid (decide (0<=ts)=false):=decide_eq_false d7;go_wp2;go_ret;exact⟨aj (by rw[<-HS.out];simp only[HD7.out,Bool.and_true,Bool.true_and,Bool.and_false,Bool.false_and,Bool.or_true,Bool.true_or]),av bX.out PW⟩
  have HD7:Hid (decide (0<=ts)=true):=decide_eq_true d7
  by_cases d8:ts<=9007199254740991
  case neg=>
   have Yn:Hid (decide (ts<=9007199254740991)=false):=decide_eq_false d8;go_wp2;go_ret;exact⟨aj (by rw[<-HS.out];simp only[Yn.out,Bool.and_true,Bool.true_and,Bool.and_false,Bool.false_and,Bool.or_true,Bool.true_or]),av bX.out PW⟩
  have Yn:Hid (decide (ts<=9007199254740991)=true):=decide_eq_true d8
  by_cases d9:hash.size=0
  ·have d9k:hash.toList.isEmpty=true:=by rw[O0];exact decide_eq_true d9
   have HD9:Hid (decide (hash.size=0)=true):=decide_eq_true d9;clear d9;go_wp2;go_ret;exact⟨aj (by rw[<-HS.out];simp only[HD1.out,HD2.out,HD3.out,HD5.out,HD6.out,HD7.out,Yn.out,HD9.out,decide_true,Bool.and_true,Bool.true_and,Bool.and_false,Bool.false_and,Bool.or_true,Bool.true_or]),av bX.out PW⟩
  ·have d9k:hash.toList.isEmpty=false:=by rw[O0];exact decide_eq_false d9
   have HD9:Hid (decide (hash.size=0)=false):=decide_eq_false d9;have hhz:=HHZ.out;clear d9;go_wp2_with(go_at_call 41;refine h10.mono ?_;rintro x w11 ⟨rfl,b11⟩);go_ret;exact⟨aj (by rw[<-HS.out];simp only[HD1.out,HD2.out,HD3.out,HD5.out,HD6.out,HD7.out,Yn.out,HD9.out,decide_true,Bool.false_or,Bool.and_true,Bool.true_and,Bool.and_false,Bool.false_and,Bool.or_true,Bool.true_or]),av bX.out (av PW b11)⟩
open Go.RowKit Go.Maps
theorem PS{w:World}{O:Nat->Prop}{j:J}{k i:Int}{t:ByteArray}{pk pl:Option Addr}{nk ck nl cl:Nat}(hO:∀x,O x->x<w.heap.size)
    (hj:isJ O w j [.int .i64 k,.int .i64 i,.string t,.slice pk nk ck,.slice pl nl cl]):
    Calls Tryz.prog 38 #[.agg #[.int .i64 k,.int .i64 i,.string t,.slice pk nk ck,.slice pl nl cl]] w fun x w'=>(∃p1 p2,x=.returned (.agg #[.int .i64 5,.int .i64 0,.string ⟨#[]⟩,.slice p1 1 1,.slice p2 1 1])/\isJ (fun b=>O b\/ tN w w' b) w' (.mk 5 0 aT [eY] [j]) [.int .i64 5,.int .i64 0,.string ⟨#[]⟩,.slice p1 1 1,.slice p2 1 1])/\Below w.heap.size w w':=by
 obtain⟨WB,mZ⟩:∃WB,WB=(w.alloc (.cells #[.int .i64 k,.int .i64 i,.string t,.slice pk nk ck,.slice pl nl cl] 25)).alloc (.cells #[.int .i64 0,.int .i64 0,.string ⟨#[]⟩,.slice none 0 0,.slice none 0 0] 25):=⟨_,rfl⟩;have dM:Below w.heap.size w WB:=by rw[mZ];exact((Below.refl _ _).alloc (Nat.le_refl _) _).alloc (by simp) _
 have AY:WB.heap[w.heap.size]?=some (.cells #[.int .i64 k,.int .i64 i,.string t,.slice pk nk ck,.slice pl nl cl] 25 (0,0)):=by rw[mZ];exact wm _ _
 have qi:WB.heap[w.heap.size+1]?=some (.cells #[.int .i64 0,.int .i64 0,.string ⟨#[]⟩,.slice none 0 0,.slice none 0 0] 25 (0,0)):=by rw[mZ];exact sV _ _
 have hsB:WB.heap.size=w.heap.size+2:=by rw[mZ];simp
 go_enter Tryz.func38,Tryz.ntmps38
 go_upto_region 1 with fail
 rw[<-mZ];clear mZ;obtain⟨q0,q1,q2,q3,q4⟩:=aU AY;obtain⟨i0,i1,i2,i3,i4⟩:=aU qi;obtain⟨z0,z1,z2,z3,z4⟩:=fZ qi;go_wp2;have h5:=dS qi (.int .i64 5) (.int .i64 0) (.string ⟨#[]⟩) (.slice (some ⟨w.heap.size+2,0,none⟩) 1 1) (.slice (some ⟨w.heap.size+2+1,0,none⟩) 1 1);have eD:ay (One (w.heap.size+1)) WB _:=dU WB (w.heap.size+1) (.int .i64 5) (.int .i64 0) (.string ⟨#[]⟩) (.slice (some ⟨w.heap.size+2,0,none⟩) 1 1) (.slice (some ⟨w.heap.size+2+1,0,none⟩) 1 1);obtain⟨W5,wh⟩:∃W5,W5=lN WB (w.heap.size+1) (.int .i64 5) (.int .i64 0) (.string ⟨#[]⟩) (.slice (some ⟨w.heap.size+2,0,none⟩) 1 1) (.slice (some ⟨w.heap.size+2+1,0,none⟩) 1 1):=⟨_,rfl⟩;have s5:W5.heap.size=w.heap.size+2:=by rw[wh];unfold lN;simp[hsB]
 rw[<-wh]at h5 eD;unfold lN at wh;rw[<-wh];obtain⟨WE,Cc⟩:∃WE,WE=(W5.alloc (.cells #[.string ⟨#[99,111,110,116,101,110,116]⟩] 9)).alloc (.cells #[.int .i64 k,.int .i64 i,.string t,.slice pk nk ck,.slice pl nl cl] 25):=⟨_,rfl⟩;have gU:Below W5.heap.size W5 WE:=by rw[Cc];exact((Below.refl _ _).alloc (Nat.le_refl _) _).alloc (by simp) _
 have PY:WE.heap[w.heap.size+2]?=some (.cells #[.string eY] 9 (0,0)):=by rw[Cc,<-s5];exact wm _ _
 have x_:WE.heap[w.heap.size+2+1]?=some (.cells #[.int .i64 k,.int .i64 i,.string t,.slice pk nk ck,.slice pl nl cl] 25 (0,0)):=by rw[Cc,<-s5];exact sV _ _
 have sE:WE.heap.size=w.heap.size+4:=by rw[Cc];simp;omega
 rw[<-Cc];have hrE:=(gU.block (w.heap.size+1) (by omega)).trans h5;refine bodyPost_ret (o7 rfl _ _ _ rfl (Kz hrE)) rfl ?_;have bE:Below w.heap.size w WE:=(dM.trans (eD.below (by omega) fun q hq=>by unfold One;omega)).trans (gU.mono (by omega));refine⟨⟨_,_,rfl, ?_⟩,bE⟩;unfold isJ;refine⟨some ⟨w.heap.size+2,0,none⟩,1,some ⟨w.heap.size+2+1,0,none⟩,1,rfl,⟨Nat.le_refl _,fun m hm=> ?_⟩,Nat.le_refl _, ?_⟩
 ·obtain rfl:m=0:=by simpa using hm
  exact⟨_,rfl,.inr ⟨by simp,by simp;omega⟩,bB (cur:= [_]) PY 0 _ rfl⟩
 ·unfold isJs;refine⟨⟨_,0,_,rfl,.inr ⟨by show _<=w.heap.size+2+1;omega,by rw[sE];exact Nat.lt_succ_self _⟩,fun m v hm=> ?_,hj.carry fun x hx=>⟨.inl hx,bE.block x (hO x hx)⟩⟩,by unfold isJs;trivial⟩;rw[Nat.zero_mul,Nat.add_zero,Nat.zero_add];exact bB (cur:= [_,_,_,_,_]) x_ m v hm
open Go.RowKit
theorem WG{d:Nat}{c:J}(h:szJ (d+1) c=true):szJ (d+1) (.mk 5 0 aT [eY] [c])=true:=by
 have:=ky d (d+1) c (by omega) h;unfold szJ;rw[show List.all [c] (szJ d)=true by rw[List.all_cons,this];rfl]
 rfl
theorem PT(c:J):(decide (c.kind=5)&&goodJ 12 c&&goodJ 12 (.mk 5 0 aT [eY] [c]))=eu c:=by
 have h1:goodJ 12 (.mk 4 0 aT [] [c])=goodJ 11 c:=by
  rw[tu,show a_ 4 0 aT [] [c].length=true from by rw[show [c].length=1 from rfl];decide+kernel];simp
 have h2:goodJ 12 (.mk 5 0 aT [eY] [c])=goodJ 11 c:=by
  rw[tu,show a_ 5 0 aT [eY] [c].length=true from by rw[show [c].length=1 from rfl];decide+kernel];simp
 unfold eu;rw[h1,h2]
 cases h:goodJ 11 c with
 | false=>simp
 | true=>rw[Cu h];simp
theorem TG(e:Ev):(decide (e.key.size<=128)&&decide (BV (iO (ints e.key))<0)&&(e.st || decide (e.key.size=0)))=gv e:=by
 have hb:decide (BV (iO (ints e.key))<0)=letters e.key:=by
  cases h:letters e.key with
  | true=>rw[gZ.1 h];rfl
  | false=>
   obtain⟨p,hp⟩:=gZ.2 h;rw[hp];simp
 unfold gv;rw[hb,r_]
 cases e.st with
 | true=>simp
 | false=>
  by_cases h0:e.key.size=0
  ·have hn:e.key=⟨#[]⟩:=by
     revert h0
     generalize e.key=y;intro h0;obtain⟨d⟩:=y;exact congrArg ByteArray.mk (Array.eq_empty_of_size_eq_zero h0)
   rw[hn]
   decide+kernel
  ·rw[decide_eq_false h0];simp
theorem PU{O:Nat->Prop}(e:Ev)(p:Pt)(w:World)(hE:ji O w e p)(hO:∀k,O k->k<w.heap.size)(hz:yC e)(hr:e.room.size<=1000000)(hu:e.ah.size<=1000000):
    Calls Tryz.prog 16 #[eF e p] w fun x w'=>x=.returned (.bool (aS e))/\Below w.heap.size w w':=by
 have hS:aS e=(((Id.parts 33 e.room).2.2&&Id.aR e.aR&&(Id.parts 64 e.ah).2.2)&&(decide (e.key.size<=128)&&decide (BV (iO (ints e.key))<0)&&(e.st || decide (e.key.size=0)))&&(decide (e.content.kind=5)&&goodJ 12 e.content&&goodJ 12 (.mk 5 0 aT [eY] [e.content]))&&(bI 20 e.prev&&bI 10 e.aD&&bR e.sigs)&&(decide (0<=e.depth)&&decide (e.depth<=1099511627776)&&decide (0<=e.ts)&&decide (e.ts<=9007199254740991)&&(decide (e.hash.size=0) || gL e.hash))):=by
  rw[PT,TG];unfold aS eH dE dN
  ac_rfl
 rw[hS];have bM:Below w.heap.size w (w.alloc (.cells (aA e p).toArray 28)):=(Below.refl _ _).alloc (Nat.le_refl _) _;obtain⟨B,hB⟩:∃B,B=w.alloc (.cells (aA e p).toArray 28):=⟨_,rfl⟩;rw[<-hB]at bM;have Uq:∀W,Below B.heap.size B W->ji O W e p:=fun W hW=>hE.below hO (av bM hW);have Af:∀W,Below B.heap.size B W->∀k,O k->k<W.heap.size:=fun W hW k hk=>Nat.lt_of_lt_of_le (hO k hk) (av bM hW).size;refine Ma e.room e.aR e.ah e.st e.key e.content.kind e.content.int e.content.text e.content.keys.length e.content.list.length e.prev.length e.aD.length e.depth e.ts e.hash e.sigs.length p.pk p.ck p.pl p.cl p.pp p.cp p.pa p.ca p.ps p.cs w B
  (Id.parts 33 e.room).1 (Id.parts 33 e.room).2.1 _ _ _ _ _ _ _ _ _ _ hz.hash hB
  (fun W hW j v hj=>bB ((hW.block _ (by rw[hB];simp)).trans (by rw[hB];exact heap_alloc_new _ _)) j v hj) bM (fun W _=>Id.xe e.room W (by omega))
  (fun W _=>(Id.xc e.aR W (by have:=hz.aR;omega)).mono fun x w2 h=>⟨h.1,h.2 ▸ Below.refl _ _⟩) (fun W _=>Gs e.ah W hu)
  (fun W _=>(C8 Sc e.key W hz.key).mono fun x w2 h=>⟨h.1,h.2 ▸ Below.refl _ _⟩)
  (fun W hW=>qZ (Af W hW) hz.cont (Uq W hW).cont) (fun W hW=>(PS (Af W hW) (Uq W hW).cont).mono fun x w2 h=> ?_)
  (fun W hW=>xU 20 (Uq W hW).prev (Af W hW) hz.prev (by decide)) (fun W hW=>xU 10 (Uq W hW).aD (Af W hW) hz.aD (by decide))
  (fun W hW=>DL (Uq W hW).sigs (Af W hW) hz.sigs hz.FD) (fun W _=>Id.oH _ W)
 obtain⟨⟨p1,p2,rfl,hj⟩,hb⟩:=h;exact⟨⟨p1,p2,rfl,qZ (fun b Hd=>Hd.elim (fun h=>Nat.lt_of_lt_of_le (Af W hW b h) hb.size) fun h=>h.2) (WG hz.cont) hj⟩,hb⟩
theorem Ng{e:Ev}{l:List Kn}{c:Kn}{v:Lv}(hc:aW l aV ⟨#[]⟩=some c)(hr:fT c.2.room e.room=true)(hl:rlevT l=(v,true)):openT e l=some (mQ e l v):=by
 unfold openT mQ;rw[hc];dsimp only;rw[if_pos hr];unfold rlevT at hl;unfold levT
 split at hl
 ·rename_i k hk;rw[hk];dsimp only;rw[lU];obtain⟨rfl,h2⟩:=Prod.mk.inj hl;rw[if_pos (of_decide_eq_true h2)]
  rfl
 ·rename_i hk;rw[hk];obtain⟨rfl,_⟩:=Prod.mk.inj hl;rw[hc]
  rfl
theorem TH{e:Ev}{l:List Kn}{v:Lv}(hl:rlevT l=(v,false)):openT e l=none:=by
 unfold openT
 split
 ·rfl
 ·split
  ·unfold rlevT at hl;unfold levT
   split at hl
   ·rename_i k hk;rw[hk];dsimp only;rw[lU];rw[if_neg (of_decide_eq_false (Prod.mk.inj hl).2)]
   ·cases(Prod.mk.inj hl).2
  ·rfl
theorem zdj{s:ByteArray}(h0:0<s.size):OL s=decide ((s[0].toNat:Int)=64):=by
 obtain⟨⟨t⟩⟩:=s
 cases t with
 | nil=>exact absurd h0 (Nat.lt_irrefl 0)
 | cons c t=>
 have e1:((⟨⟨c::t⟩⟩:ByteArray).extract 0 1).toList= [c]:=by
  rw[Lib.toList_data,ByteArray.data_extract,Array.toList_extract]
  rfl
 rw[show(⟨⟨c::t⟩⟩:ByteArray)[0]=c from rfl];unfold OL fT;rw[e1,Te,decide_eq_true (show 1<=(⟨⟨c::t⟩⟩:ByteArray).size from h0),Bool.true_and]
 by_cases hc:(c.toNat:Int)=64
 ·have:c=64:=UInt8.toNat_inj.1 (by show c.toNat=64;omega);subst this
  rfl
 ·rw[decide_eq_false hc];refine beq_false_of_ne fun h=>hc ?_;have:c=64:=by simpa using h
  subst this
  rfl
def Nh(st at' own pow:Bool)(sm:ByteArray)(us kd:Int)(ch:Bool):Bool:=(sm.toList== [106,111,105,110])&&(decide (kd<=us)&&(!((st&&at')&& !own)&&(if st&&pow then ch else true)))
theorem TJ(e:Ev)(l:List Kn)(v:Lv):(mQ e l v).xH=Nh e.st (OL e.key) (e.key.toList==e.ah.toList) ((e.aR.toList== [109,46,114,111,111,109,46,112,111,119,101,114,95,108,101,118,101,108,115])&&(e.key.toList== [])) (jK l e.ah) (pY v e.ah) (pg v e.aR e.st) (decide ((bY e.content).2=0)&&(!(aW l bF ⟨#[]⟩).isSome || GU v (bY e.content).1 e.ah)):=by
 unfold Nh mQ Hr.xH Hr.iN Hr.changes Hr.s Hr.own fT;dsimp only;rw[j6,zT,oU,lU,TF,Bool.and_assoc e.st (e.aR.toList== [109,46,114,111,111,109,46,112,111,119,101,114,95,108,101,118,101,108,115])]
theorem TK{e:Ev}{l:List Kn}(hc:(e.aR.toList== [109,46,114,111,111,109,46,99,114,101,97,116,101])=false)(h:openT e l=none):askT e l=false:=by
 unfold askT fT;rw[kJ,hc,h]
 rfl
theorem TL{e:Ev}{l:List Kn}{h:Hr}(hc:(e.aR.toList== [109,46,114,111,111,109,46,99,114,101,97,116,101])=false)(ho:openT e l=some h)(he:h.e=e):askT e l=if(e.aR.toList== [109,46,114,111,111,109,46,109,101,109,98,101,114])then h.fO else h.xH:=by
 unfold askT fT;rw[kJ,hc,ho]
 show h.ask=_
 unfold Hr.ask fT;rw[he,qm]
theorem Ea{O:Nat->Prop}{w:World}{e:Ev}{p:Pt}{ps:Option Addr}{cs:Nat}{l:List Kn}(h:ji O w e p)(lG:pM O w ps cs l)(hO:∀b,O b->b<w.heap.size)(hz:yC e)(nC:szJ 13 e.content=true)(hk:FE l):
    Calls Tryz.prog 28 #[eF e p,.slice ps l.length cs] w fun x w'=>x=.returned (.bool (askT e l))/\Below w.heap.size w w':=by
 obtain⟨W0,cO⟩:∃W0,W0=w.alloc (.cells (aA e p).toArray 28):=⟨_,rfl⟩;have cK:Below w.heap.size w W0:=by rw[cO];exact(Below.refl _ _).alloc (Nat.le_refl _) _
 have kU:W0.heap[w.heap.size]?=some (.cells (aA e p).toArray 28 (0,0)):=by rw[cO];exact bz _
 have hV:=iI h hO cK kU;have HV:Hid (∀X,Below W0.heap.size W0 X->lW X w.heap.size e p):=fun X hX=>hV.below hX;have qa:Hid (∀X,Below W0.heap.size W0 X->pM (· <X.heap.size) X ps cs l):=fun X hX=>lG.carry fun k hk=>⟨Nat.lt_of_lt_of_le (hO k hk) (ag cK hX).size,(ag cK hX).block k (hO k hk)⟩;have Qf:Hid (∀X,Below W0.heap.size W0 X->(Instr.loadAt 28 (.pointer (some ⟨w.heap.size,0,none⟩))).run Tryz.prog X=.ok (.agg (aA e p).toArray) X):=fun X hX=>run_loadAt_mid X w.heap.size 0 28 (aA e p) _ (HV.out X hX).iD Tryz.underlying28 rfl dX;have zfY:Hid (∀X,Below W0.heap.size W0 X->Calls Tryz.prog 61 #[.agg (aA e p).toArray] X fun x w'=>x=.returned (.bool (iZ e))/\Below X.heap.size X w'):=fun X hX=>GX (HV.out X hX).ev (fun _ h=>h) hz nC;have zdk:Hid (∀X,Below W0.heap.size W0 X->Calls Tryz.prog 21 #[.slice ps l.length cs,.string aV,.string ⟨#[]⟩] X fun x w'=>(∃r,x=.returned (.tuple #[.agg (az ((aW l aV ⟨#[]⟩).getD zK) r).toArray,.bool (aW l aV ⟨#[]⟩).isSome])/\ji (· <X.heap.size) w' ((aW l aV ⟨#[]⟩).getD zK).2 r)/\Below X.heap.size X w'):=fun X hb=>nR (qa.out X hb) (fun _ h=>h) hk.len aV ⟨#[]⟩;have HFP:Hid (∀X,Below W0.heap.size W0 X->Calls Tryz.prog 21 #[.slice ps l.length cs,.string bF,.string ⟨#[]⟩] X fun x w'=>(∃r,x=.returned (.tuple #[.agg (az ((aW l bF ⟨#[]⟩).getD zK) r).toArray,.bool (aW l bF ⟨#[]⟩).isSome])/\ji (· <X.heap.size) w' ((aW l bF ⟨#[]⟩).getD zK).2 r)/\Below X.heap.size X w'):=fun X hb=>nR (qa.out X hb) (fun _ h=>h) hk.len bF ⟨#[]⟩;have zfZ:Hid (∀X,Below W0.heap.size W0 X->Calls Tryz.prog 20 #[.slice ps l.length cs] X fun x w'=>CE X w' (rlevT l) x):=fun X hX=>GV (qa.out X hX) (fun _ h=>h) hk;have Wx:Hid (∀X,Below W0.heap.size W0 X->Calls Tryz.prog 18 #[.slice ps l.length cs,.string e.ah] X fun x w'=>x=.returned (.string (jK l e.ah))/\Below X.heap.size X w'):=fun X hb=>qp (qa.out X hb) (fun _ h=>h) hk e.ah;have HPA:Hid (∀X,Below W0.heap.size W0 X->Calls Tryz.prog 46 #[.agg #[.int .i64 e.content.kind,.int .i64 e.content.int,.string e.content.text,.slice p.pk e.content.keys.length p.ck,.slice p.pl e.content.list.length p.cl]] X fun x w'=>qF X w' (bY e.content) x):=fun X hb=>Av (HV.out X hb).ev.cont (fun _ h=>h) nC;have OY:Hid (∀X v q,Below W0.heap.size W0 X->qV (· <X.heap.size) X v q->zy v->Calls Tryz.prog 62 #[.agg (aA e p).toArray,.slice ps l.length cs,.agg (aG v q).toArray] X fun x w'=>x=.returned (.bool (mQ e l v).fO)/\Below X.heap.size X w'):=fun X v q hX hI hsv=>TB (HV.out X hX).ev (qa.out X hX) hI (fun _ h=>h) hz nC hk hsv;have xB:Hid (∀H,openT e l=some H->zy H.l):=fun H ho=>(M8 hz hk ho).l;have HSP:Hid (zy (bY e.content).1):=by rw[<-lU];exact zP hz.cont
 have zf0:=cK;have bX:Hid (∀X,Below W0.heap.size W0 X->Below w.heap.size w X):=fun X hX=>ag zf0 hX;have D8:Below W0.heap.size W0 W0:=Below.refl _ _;have et0:=(HV.out W0 D8).aR;clear h lG hV kU hz nC hk qa zf0;unfold eF
 cases hc:(e.aR.toList== [109,46,114,111,111,109,46,99,114,101,97,116,101])with
 | true=>
  have HR:Hid (askT e l=iZ e):=by show _=_;unfold askT fT;rw[kJ,hc];rfl
  go_enter Tryz.func28,Tryz.ntmps28
  go_upto_region 1 with fail
  rw[<-cO];clear cO;go_wp2_with(first
   | (go_at_call 61;refine(zfY.out _ D8).mono ?_;rintro x w1 ⟨rfl,aL⟩)
   | (refine aQ (by kernel_rfl) 28 _ rfl w.heap.size 0 rfl (aA e p) (Qf.out _ D8) ?_))
  go_ret;exact⟨by rw[HR.out];rfl,bX.out _ aL⟩
 | false=>
  clear zfY;have HN:Hid (openT e l=none->askT e l=false):=TK hc;have HY:Hid (∀v c,aW l aV ⟨#[]⟩=some c->fT c.2.room e.room=true->rlevT l=(v,true)->askT e l=if(e.aR.toList== [109,46,114,111,111,109,46,109,101,109,98,101,114])then(mQ e l v).fO else(mQ e l v).xH):=fun v c h1 h2 h3=>TL hc (Ng h1 h2 h3) rfl;have HYS:Hid (∀v c,aW l aV ⟨#[]⟩=some c->fT c.2.room e.room=true->rlevT l=(v,true)->zy v):=fun v c h1 h2 h3=>xB.out _ (Ng h1 h2 h3);have HNR:Hid (∀c,aW l aV ⟨#[]⟩=some c->fT c.2.room e.room=false->openT e l=none):=fun c h1 h2=>by unfold openT;rw[h1];dsimp only;rw[h2];rfl
  have HNF:Hid (aW l aV ⟨#[]⟩=none->openT e l=none):=fun h1=>by unfold openT;rw[h1]
  clear xB;go_enter Tryz.func28,Tryz.ntmps28
  go_upto_region 1 with fail
  rw[<-cO];clear cO
  cases hf:aW l aV ⟨#[]⟩with
  | none=>
   have Wy:Hid (∀X,Below W0.heap.size W0 X->Calls Tryz.prog 21 #[.slice ps l.length cs,.string aV,.string ⟨#[]⟩] X fun x w'=>(∃r,x=.returned (.tuple #[.agg (az zK r).toArray,.bool false]))/\Below X.heap.size X w'):=fun X hb=>(zdk.out X hb).mono fun x w' hh=>by
    rw[hf]at hh;obtain⟨⟨r,hx,_⟩,hb⟩:=hh;exact⟨⟨r,hx⟩,hb⟩
   have HR:Hid (askT e l=false):=HN.out (HNF.out hf);go_wp2_with(first
    | (go_at_call 21;refine(Wy.out _ D8).mono ?_;rintro x w1 ⟨⟨r,rfl⟩,aL⟩)
    | (refine wpList_store_row rfl 41 _ _ rfl w1.heap.size 41 _ (az zK r).toArray rfl rfl (bz _) gV rfl (iW zK r) ?_))
   go_ret;exact⟨by rw[HR.out];rfl,bX.out _ (ag aL (((Below.refl _ _).alloc (Nat.le_refl _) _).trans ((aX _ w1.heap.size _).below (by simp) fun q hq e=>by unfold aJ at e;omega)))⟩
  | some c=>
   have Wy:Hid (∀X,Below W0.heap.size W0 X->Calls Tryz.prog 21 #[.slice ps l.length cs,.string aV,.string ⟨#[]⟩] X fun x w'=>(∃r,x=.returned (.tuple #[.agg (az c r).toArray,.bool true]))/\Below X.heap.size X w'):=fun X hb=>(zdk.out X hb).mono fun x w' hh=>by
    rw[hf]at hh;obtain⟨⟨r,hx,_⟩,hb⟩:=hh;exact⟨⟨r,hx⟩,hb⟩
   have HF:Hid (aW l aV ⟨#[]⟩=some c):=hf;clear zdk HNF hf
   go_upto_region 4 with(first
    | (go_at_call 21;refine(Wy.out _ D8).mono ?_;rintro x w1 ⟨⟨r,rfl⟩,aL⟩)
    | (refine wpList_store_row rfl 41 _ _ rfl w1.heap.size 41 _ (az c r).toArray rfl rfl (bz _) gV rfl (iW c r) ?_))
   have X0:Below w1.heap.size w1 ((w1.alloc (.cells (az zK Pt.zero).toArray 41)).setRow w1.heap.size (az c r).toArray):=
    ((Below.refl _ _).alloc (Nat.le_refl _) _).trans ((aX _ w1.heap.size _).below (by simp) fun q hq e=>by unfold aJ at e;omega)
   have hX2:((w1.alloc (.cells (az zK Pt.zero).toArray 41)).setRow w1.heap.size (az c r).toArray).heap[w1.heap.size]?=some (.cells (az c r).toArray 41 (0,0)):=setRow_heap _ _ _ _ _ _ (bz _);change Code.wp _ _ _ _ ((w1.alloc (.cells (az zK Pt.zero).toArray 41)).setRow w1.heap.size (az c r).toArray);generalize ((w1.alloc (.cells (az zK Pt.zero).toArray 41)).setRow w1.heap.size (az c r).toArray)=W2 at X0 hX2;have ko:=ag aL X0;have ecr:W2.cell? ⟨w1.heap.size,1,none⟩=some (.string c.2.room):=ai hX2 1 _ rfl;clear et0 Wy;have er:=(HV.out W2 ko).room;have et:=(HV.out W2 ko).aR
   cases hr:(c.2.room.toList==e.room.toList)with
   | false=>
    have hrn:(c.2.room.toList !=e.room.toList)=true:=by rw[bne,hr];rfl
    have HR:Hid (askT e l=false):=HN.out (HNR.out c HF.out hr);go_wp2;go_ret;exact⟨by rw[HR.out];rfl,bX.out _ ko⟩
   | true=>
    have hrn:(c.2.room.toList !=e.room.toList)=false:=by rw[bne,hr];rfl
    obtain⟨⟨v,okv⟩,Wm⟩:∃z,rlevT l=z:=⟨_,rfl⟩;have HLV:Hid (∀X,Below W0.heap.size W0 X->Calls Tryz.prog 20 #[.slice ps l.length cs] X fun x w'=>(∃q,x=.returned (.tuple #[.agg (aG v q).toArray,.bool okv])/\qV (fun b=>X.heap.size<=b/\b<w'.heap.size) w' v q)/\Below X.heap.size X w'):=fun X hX=>by
     have hh:=zfZ.out X hX;rw[Wm]at hh;exact hh
    have HRL:Hid (rlevT l=(v,okv)):=Wm;clear zfZ Wm HNR
    cases okv with
    | false=>
     have HR:Hid (askT e l=false):=HN.out (TH HRL.out);go_wp2_with(first
      | (go_at_call 20;refine(HLV.out _ ko).mono ?_;rintro x w3 ⟨⟨q,rfl,_⟩,df⟩)
      | (refine wpList_store_row rfl 47 _ _ rfl w3.heap.size 47 _ (aG v q).toArray rfl rfl (bz _) iX rfl (pz v q) ?_))
     go_ret;exact⟨by rw[HR.out];rfl,bX.out _ (ag (ag ko df) (((Below.refl _ _).alloc (Nat.le_refl _) _).trans ((aX _ w3.heap.size _).below (by simp) fun q hq e=>by unfold aJ at e;omega)))⟩
    | true=>
     have HR0:Hid (askT e l=if(e.aR.toList== [109,46,114,111,111,109,46,109,101,109,98,101,114])then(mQ e l v).fO else(mQ e l v).xH):=HY.out v c HF.out hr HRL.out;have hsv:zy v:=HYS.out v c HF.out hr HRL.out;clear HN HY HYS HRL HF
     go_upto_region 7 with(first
      | (go_at_call 20;refine(HLV.out _ ko).mono ?_;rintro x w3 ⟨⟨q,rfl,hq⟩,df⟩)
      | (refine wpList_store_row rfl 47 _ _ rfl w3.heap.size 47 _ (aG v q).toArray rfl rfl (bz _) iX rfl (pz v q) ?_))
     have WH:Below w3.heap.size w3 ((w3.alloc (.cells #[.int .i64 0,.int .i64 0,.int .i64 0,.int .i64 0,.int .i64 0,.int .i64 0,.int .i64 0,.slice none 0 0,.slice none 0 0] 47)).setRow w3.heap.size (aG v q).toArray):=
      ((Below.refl _ _).alloc (Nat.le_refl _) _).trans ((aX _ w3.heap.size _).below (by simp) fun q hq e=>by unfold aJ at e;omega)
     have hXL:((w3.alloc (.cells #[.int .i64 0,.int .i64 0,.int .i64 0,.int .i64 0,.int .i64 0,.int .i64 0,.int .i64 0,.slice none 0 0,.slice none 0 0] 47)).setRow w3.heap.size (aG v q).toArray).heap[w3.heap.size]?=some (.cells (aG v q).toArray 47 (0,0)):=setRow_heap _ _ _ _ _ _ (bz _);change Code.wp _ _ _ _ ((w3.alloc (.cells #[.int .i64 0,.int .i64 0,.int .i64 0,.int .i64 0,.int .i64 0,.int .i64 0,.int .i64 0,.slice none 0 0,.slice none 0 0] 47)).setRow w3.heap.size (aG v q).toArray);generalize ((w3.alloc (.cells #[.int .i64 0,.int .i64 0,.int .i64 0,.int .i64 0,.int .i64 0,.int .i64 0,.int .i64 0,.slice none 0 0,.slice none 0 0] 47)).setRow w3.heap.size (aG v q).toArray)=W at WH hXL;have eU:=ag (ag ko df) WH;have HI:Hid (∀X,Below W.heap.size W X->qV (· <X.heap.size) X v q):=fun X hb=>hq.carry fun b aY=>⟨Nat.lt_of_lt_of_le aY.2 (ag WH hb).size,(ag WH hb).block b aY.2⟩;have Hy:Hid (∀X,Below W.heap.size W X->X.heap[w3.heap.size]?=some (.cells (aG v q).toArray 47 (0,0))):=fun X hb=>(hb.block _ (aP hXL)).trans hXL;have vz:Hid (∀X,Below W.heap.size W X->(Instr.loadAt 47 (.pointer (some ⟨w3.heap.size,0,none⟩))).run Tryz.prog X=.ok (.agg (aG v q).toArray) X):=fun X hb=>run_loadAt_mid X w3.heap.size 0 47 (aG v q) _ (dY (Hy.out X hb)) Tryz.underlying47 rfl iX;have HX:Hid (∀X,Below W.heap.size W X->lW X w.heap.size e p):=fun X hb=>HV.out X (ag eU hb);clear et er hq;have et:=(HX.out W (Below.refl _ _)).aR
     cases hm:(e.aR.toList== [109,46,114,111,111,109,46,109,101,109,98,101,114])with
     | true=>
      have HR:Hid (askT e l=(mQ e l v).fO):=by show _=_;rw[HR0.out,hm];rfl
      have zko:=OY.out W v q eU (HI.out W (Below.refl _ _)) hsv;clear HR0 OY Wx HPA;go_wp2_with(first
       | (refine aQ (by kernel_rfl) 28 _ rfl w.heap.size 0 rfl (aA e p) (Qf.out _ eU) ?_)
       | (refine aQ (by kernel_rfl) 47 _ rfl w3.heap.size 0 rfl (aG v q) (vz.out _ (Below.refl _ _)) ?_)
       | (go_at_call 62;refine zko.mono ?_;rintro x w4 ⟨rfl,dF⟩))
      go_ret;exact⟨by rw[HR.out];rfl,bX.out _ (ag eU dF)⟩
     | false=>
      have Hg:Hid (askT e l=(mQ e l v).xH):=by show _=_;rw[HR0.out,hm];rfl
      have xI:Hid (askT e l=Nh e.st (OL e.key) (e.key.toList==e.ah.toList) ((e.aR.toList== [109,46,114,111,111,109,46,112,111,119,101,114,95,108,101,118,101,108,115])&&(e.key.toList== [])) (jK l e.ah) (pY v e.ah) (pg v e.aR e.st) (decide ((bY e.content).2=0)&&(!(aW l bF ⟨#[]⟩).isSome || GU v (bY e.content).1 e.ah))):=by show _=_;rw[Hg.out];exact TJ e l v
      clear HR0 Hg OY;have HUS:Hid (∀X,Below W.heap.size W X->Calls Tryz.prog 22 #[.agg (aG v q).toArray,.string e.ah] X fun x w'=>x=.returned (.int .i64 (pY v e.ah))/\Below X.heap.size X w'):=fun X hb=>vv (HI.out X hb) (fun _ h=>h) hsv e.ah;have HTY:Hid (∀X,Below W.heap.size W X->Calls Tryz.prog 63 #[.agg (aG v q).toArray,.string e.aR,.bool e.st] X fun x w'=>x=.returned (.int .i64 (pg v e.aR e.st))/\Below X.heap.size X w'):=fun X hb=>TA (HI.out X hb) (fun _ h=>h) hsv e.aR e.st;have HMY:Hid (∀X n pn,Below W.heap.size W X->qV (· <X.heap.size) X n pn->zy n->Calls Tryz.prog 64 #[.agg (aG v q).toArray,.agg (aG n pn).toArray,.string e.ah] X fun x w'=>x=.returned (.bool (GU v n e.ah))/\Below X.heap.size X w'):=fun X n pn hb hn hsn=>Ws (HI.out X hb) hn (fun _ h=>h) hsv hsn e.ah;generalize jK l e.ah=sm at Wx xI;generalize pY v e.ah=us at HUS xI;generalize pg v e.aR e.st=kd at HTY xI;clear hsv;unfold Nh at xI
      go_upto_region 11 with fail
      refine aI (by kernel_rfl) (fun w'=>Below W.heap.size W w') ?_;change wpIn _ _ _ _ _ _ _ _ (World.drew _);have hD:Below W.heap.size W W.drew:=(Below.refl _ _).drew
      cases hj:(sm.toList== [106,111,105,110])with
      | false=>
       have hjn:(sm.toList != [106,111,105,110])=true:=by rw[bne,hj];rfl
       refine aa (i:=0) (d:=some 46) rfl ?_;refine aa (i:=1) (d:=some 47) rfl ?_;refine aC (i:=2) (d:=some 48) rfl (by(intro wq hq;have zf:=(HX.out wq hq).ah;go_simp;first| done| with_reducible rfl)) ?_;refine ax (i:=3) hD rfl ?_;intro K hK;go_simp;go_wp2_with(go_at_call 18;refine(Wx.out _ (ag eU hD)).mono ?_;rintro x w4 ⟨rfl,gI⟩);have uL:Below W.heap.size W w4:=ag hD gI;refine aa (i:=4) (d:=some 50) rfl ?_;refine aa (i:=5) (d:=some 51) rfl ?_;refine ae (i:=6) (d:=(some 52)) (v:=undef) (a':= ?aqn6) rfl rfl (by kernel_rfl) (by kernel_rfl) (by kernel_rfl) (fun _ _ _ h=>h) (Or.inr ⟨by rfl,rfl⟩) ?fqn6 ?_
       case fqn6=>(go_frame;rfl)
       refine ae (i:=7) (d:=(some 53)) (v:=undef) (a':= ?aqn7) rfl rfl (by kernel_rfl) (by kernel_rfl) (by kernel_rfl) (fun _ _ _ h=>h) (Or.inr ⟨by rfl,rfl⟩) ?fqn7 ?_
       case fqn7=>(go_frame;rfl)
       refine ae (i:=8) (d:=(some 54)) (v:=undef) (a':= ?aqn8) rfl rfl (by kernel_rfl) (by kernel_rfl) (by kernel_rfl) (fun _ _ _ h=>h) (Or.inr ⟨by rfl,rfl⟩) ?fqn8 ?_
       case fqn8=>(go_frame;rfl)
       refine ae (i:=9) (d:=(some 55)) (v:=undef) (a':= ?aqn9) rfl rfl (by kernel_rfl) (by kernel_rfl) (by kernel_rfl) (fun _ _ _ h=>h) (Or.inr ⟨by rfl,rfl⟩) ?fqn9 ?_
       case fqn9=>(go_frame;rfl)
       refine ae (i:=10) (d:=(some 56)) (v:=undef) (a':= ?aqn10) rfl rfl (by kernel_rfl) (by kernel_rfl) (by kernel_rfl) (fun _ _ _ h=>h) (Or.inr ⟨by rfl,rfl⟩) ?fqn10 ?_
       case fqn10=>(go_frame;rfl)
       refine ae (i:=11) (d:=(some 57)) (v:=undef) (a':= ?aqn11) rfl rfl (by kernel_rfl) (by kernel_rfl) (by kernel_rfl) (fun _ _ _ h=>h) (Or.inr ⟨by rfl,rfl⟩) ?fqn11 ?_
       case fqn11=>(go_frame;rfl)
       refine ae (i:=12) (d:=(some 58)) (v:=undef) (a':= ?aqn12) rfl rfl (by kernel_rfl) (by kernel_rfl) (by kernel_rfl) (fun _ _ _ h=>h) (Or.inr ⟨by rfl,rfl⟩) ?fqn12 ?_
       case fqn12=>(go_frame;rfl)
       refine ae (i:=13) (d:=(some 59)) (v:=undef) (a':= ?aqn13) rfl rfl (by kernel_rfl) (by kernel_rfl) (by kernel_rfl) (fun _ _ _ h=>h) (Or.inr ⟨by rfl,rfl⟩) ?fqn13 ?_
       case fqn13=>(go_frame;rfl)
       refine ae (i:=14) (d:=(some 60)) (v:=undef) (a':= ?aqn14) rfl rfl (by kernel_rfl) (by kernel_rfl) (by kernel_rfl) (fun _ _ _ h=>h) (Or.inr ⟨by rfl,rfl⟩) ?fqn14 ?_
       case fqn14=>(go_frame;rfl)
       refine ae (i:=15) (d:=(some 61)) (v:=undef) (a':= ?aqn15) rfl rfl (by kernel_rfl) (by kernel_rfl) (by kernel_rfl) (fun _ _ _ h=>h) (Or.inr ⟨by rfl,rfl⟩) ?fqn15 ?_
       case fqn15=>(go_frame;rfl)
       refine ae (i:=16) (d:=(some 62)) (v:=undef) (a':= ?aqn16) rfl rfl (by kernel_rfl) (by kernel_rfl) (by kernel_rfl) (fun _ _ _ h=>h) (Or.inr ⟨by rfl,rfl⟩) ?fqn16 ?_
       case fqn16=>(go_frame;rfl)
       refine aa (i:=17) (d:=some 63) rfl ?_;refine aH uL (by kernel_rfl) ?_ _;go_wp2;go_ret;exact⟨by rw[xI.out,hj];rfl,bX.out _ (ag eU uL)⟩
      | true=>
       have hjn:(sm.toList != [106,111,105,110])=false:=by rw[bne,hj];rfl
       refine aa (i:=0) (d:=some 46) rfl ?_;refine aa (i:=1) (d:=some 47) rfl ?_;refine aC (i:=2) (d:=some 48) rfl (by(intro wq hq;have zf:=(HX.out wq hq).ah;go_simp;first| done| with_reducible rfl)) ?_;refine ax (i:=3) hD rfl ?_;intro K hK;go_simp;go_wp2_with(go_at_call 18;refine(Wx.out _ (ag eU hD)).mono ?_;rintro x w4 ⟨rfl,gI⟩);have uL:Below W.heap.size W w4:=ag hD gI;refine aa (i:=4) (d:=some 50) rfl ?_;refine aa (i:=5) (d:=some 51) rfl ?_;refine ae (i:=6) (d:=(some 52)) (v:=(.agg (aG v q).toArray)) (a':= ?aqj6) rfl rfl (by kernel_rfl) (by kernel_rfl) (by kernel_rfl) (fun _ _ _ h=>h) (Or.inl ⟨by rfl, ?yqj6⟩) ?fqj6 ?_
       case yqj6=>exact fun wq hq=>di rfl rfl (vz.out wq hq)
       case fqj6=>(go_frame;rfl)
       refine aa (i:=7) (d:=some 53) rfl ?_;refine aC (i:=8) (d:=some 54) rfl (by(intro wq hq;have zf:=(HX.out wq hq).ah;go_simp;first| done| with_reducible rfl)) ?_;refine ae (i:=10) (d:=(some 56)) (v:=(.agg (aG v q).toArray)) (a':= ?aqj10) rfl rfl (by kernel_rfl) (by kernel_rfl) (by kernel_rfl) (fun _ _ _ h=>h) (Or.inl ⟨by rfl, ?yqj10⟩) ?fqj10 ?_
       case yqj10=>exact fun wq hq=>di rfl rfl (vz.out wq hq)
       case fqj10=>(go_frame;rfl)
       refine aa (i:=11) (d:=some 57) rfl ?_;refine aC (i:=12) (d:=some 58) rfl (by(intro wq hq;have zf:=(HX.out wq hq).aR;go_simp;first| done| with_reducible rfl)) ?_;refine aa (i:=13) (d:=some 59) rfl ?_;refine aC (i:=14) (d:=some 60) rfl (by(intro wq hq;have zf:=(HX.out wq hq).l9;go_simp;first| done| with_reducible rfl)) ?_;refine ax (i:=9) uL rfl ?_;intro K hK;go_simp;go_wp2_with(go_at_call 22;refine(HUS.out _ uL).mono ?_;rintro x w5 ⟨rfl,kF⟩);have zdl:Below W.heap.size W w5:=ag uL kF;refine ax (i:=15) zdl rfl ?_;intro K hK;go_simp;go_wp2_with(go_at_call 63;refine(HTY.out _ zdl).mono ?_;rintro x w6 ⟨rfl,pO⟩);have TM:Below W.heap.size W w6:=ag zdl pO;refine aa (i:=16) (d:=some 62) rfl ?_;refine aa (i:=17) (d:=some 63) rfl ?_;refine aH TM (by kernel_rfl) ?_ _;have hC:=TM;clear Wx HUS HTY hD uL gI kF pO
       cases hu:decide (us<kd)with
       | true=>
        have ET:decide (kd<=us)=false:=by have:us<kd:=of_decide_eq_true hu;exact decide_eq_false (by omega)
        go_wp2;go_ret;exact⟨by rw[xI.out,hj,ET];rfl,bX.out _ (ag eU hC)⟩
       | false=>
        have ET:decide (kd<=us)=true:=by have:¬us<kd:=of_decide_eq_false hu;exact decide_eq_true (by omega)
        go_upto_region 13 with fail
        have est:=(HX.out _ hC).l9;have ek:=(HX.out _ hC).key;have es:=(HX.out _ hC).ah;clear et;have et:=(HX.out _ hC).aR;generalize hes:e.st=st at est xI
        cases st with
        | false=>
         go_wp2;go_ret;exact⟨by rw[xI.out,hj,ET];rfl,bX.out _ (ag eU hC)⟩
        | true=>
         by_cases Ur:0<e.key.size
         ·have eQ:(e.key.toList== [])=false:=by
            rw[Lib.toList_data]
            cases hq:e.key.data.toList with
            | nil=>
             have h3:e.key.data.toList.length=e.key.size:=rfl;rw[hq,List.length_nil]at h3;omega
            | cons a b=>rfl
          have mW:(e.key.toList != [])=true:=by rw[bne,eQ];rfl
          have hke:e.key.toList.isEmpty=false:=by cases hq:e.key.toList with| nil=>rw[hq]at eQ;cases eQ| cons a b=>rfl
          rw[zdj Ur]at xI
          by_cases iR:(e.key[0].toNat:Int)=64
          ·have jD:decide ((e.key[0].toNat:Int)=64)=true:=decide_eq_true iR
           cases how:(e.key.toList==e.ah.toList)with
           | false=>
            have aN:(e.key.toList !=e.ah.toList)=true:=by rw[bne,how];rfl
            go_wp2;go_ret;exact⟨by rw[xI.out,hj,ET,jD,how];rfl,bX.out _ (ag eU hC)⟩
           | true=>
            have aN:(e.key.toList !=e.ah.toList)=false:=by rw[bne,how];rfl
            cases ht:(e.aR.toList== [109,46,114,111,111,109,46,112,111,119,101,114,95,108,101,118,101,108,115])with
            | false=>
             go_wp2;go_ret;exact⟨by rw[xI.out,hj,ET,jD,how,eQ,ht];rfl,bX.out _ (ag eU hC)⟩
            | true=>
             go_wp2;go_ret;exact⟨by rw[xI.out,hj,ET,jD,how,eQ,ht];rfl,bX.out _ (ag eU hC)⟩
          ·have jD:decide ((e.key[0].toNat:Int)=64)=false:=decide_eq_false iR
           cases ht:(e.aR.toList== [109,46,114,111,111,109,46,112,111,119,101,114,95,108,101,118,101,108,115])with
           | false=>
            go_wp2;go_ret;exact⟨by rw[xI.out,hj,ET,jD,eQ,ht];rfl,bX.out _ (ag eU hC)⟩
           | true=>
            go_wp2;go_ret;exact⟨by rw[xI.out,hj,ET,jD,eQ,ht];rfl,bX.out _ (ag eU hC)⟩
         ·have hkd:e.key=⟨#[]⟩:=by
            have h1:e.key.data.size=0:=by have:e.key.size=e.key.data.size:=rfl;omega
            have h2:e.key.data=#[]:=Array.eq_empty_of_size_eq_zero h1;generalize e.key=ke at h2 ⊢
            cases ke
            cases h2
            rfl
          have eQ:(e.key.toList== [])=true:=by rw[hkd,oU];rfl
          have mW:(e.key.toList != [])=false:=by rw[bne,eQ];rfl
          have hke:e.key.toList.isEmpty=true:=by rw[hkd,oU];rfl
          have jD:OL e.key=false:=by rw[hkd];rfl
          cases ht:(e.aR.toList== [109,46,114,111,111,109,46,112,111,119,101,114,95,108,101,118,101,108,115])with
          | false=>
           go_wp2;go_ret;exact⟨by rw[xI.out,hj,ET,jD,eQ,ht];rfl,bX.out _ (ag eU hC)⟩
          | true=>
           obtain⟨⟨nv,en⟩,hpn⟩:∃z,bY e.content=z:=⟨_,rfl⟩;have HPN:Hid (∀X,Below W0.heap.size W0 X->Calls Tryz.prog 46 #[.agg #[.int .i64 e.content.kind,.int .i64 e.content.int,.string e.content.text,.slice p.pk e.content.keys.length p.ck,.slice p.pl e.content.list.length p.cl]] X fun x w'=>(∃pn,x=.returned (.tuple #[.agg (aG nv pn).toArray,.int .i64 en])/\qV (fun b=>X.heap.size<=b/\b<w'.heap.size) w' nv pn)/\Below X.heap.size X w'):=fun X hb=>by
            have hh:=HPA.out X hb;rw[hpn]at hh;exact hh
           have hen:en=0\/ en=1:=by have:=Aw e.content;rw[hpn]at this;exact this
           have hsn:zy nv:=by have:=HSP.out;rw[hpn]at this;exact this
           rw[hpn]at xI;have BK:=(show Hid _ from(HX.out _ hC).qo);clear hpn HPA HSP
           go_upto_region 17 with(first
            | (refine wpList_load_mid rfl 25 _ rfl w.heap.size 5 rfl _ _ BK.out Tryz.underlying25 rfl (by kernel_rfl) ?_)
            | (go_at_call 46;refine(HPN.out _ (ag eU hC)).mono ?_;rintro x w7 ⟨⟨pn,rfl,hn7⟩,vI⟩)
            | (refine wpList_store_row rfl 47 _ _ rfl w7.heap.size 47 _ (aG nv pn).toArray rfl rfl (bz _) iX rfl (pz nv pn) ?_))
           have Ni:Below w7.heap.size w7 ((w7.alloc (.cells #[.int .i64 0,.int .i64 0,.int .i64 0,.int .i64 0,.int .i64 0,.int .i64 0,.int .i64 0,.slice none 0 0,.slice none 0 0] 47)).setRow w7.heap.size (aG nv pn).toArray):=
            ((Below.refl _ _).alloc (Nat.le_refl _) _).trans ((aX _ w7.heap.size _).below (by simp) fun q hq e=>by unfold aJ at e;omega)
           have hX8:((w7.alloc (.cells #[.int .i64 0,.int .i64 0,.int .i64 0,.int .i64 0,.int .i64 0,.int .i64 0,.int .i64 0,.slice none 0 0,.slice none 0 0] 47)).setRow w7.heap.size (aG nv pn).toArray).heap[w7.heap.size]?=some (.cells (aG nv pn).toArray 47 (0,0)):=setRow_heap _ _ _ _ _ _ (bz _);change Code.wp _ _ _ _ ((w7.alloc (.cells #[.int .i64 0,.int .i64 0,.int .i64 0,.int .i64 0,.int .i64 0,.int .i64 0,.int .i64 0,.slice none 0 0,.slice none 0 0] 47)).setRow w7.heap.size (aG nv pn).toArray);generalize ((w7.alloc (.cells #[.int .i64 0,.int .i64 0,.int .i64 0,.int .i64 0,.int .i64 0,.int .i64 0,.int .i64 0,.slice none 0 0,.slice none 0 0] 47)).setRow w7.heap.size (aG nv pn).toArray)=W8 at Ni hX8;have hC8:=ag (ag hC vI) Ni;have WI:=HFP.out W8 (ag eU hC8);clear HFP;generalize (aW l bF ⟨#[]⟩).isSome=zf3 at WI xI;generalize (aW l bF ⟨#[]⟩).getD zK=kp at WI
           go_upto_region 18 with(first
            | (go_at_call 21;refine WI.mono ?_;rintro x w9 ⟨⟨r9,rfl,_⟩,yE⟩)
            | (refine wpList_store_row rfl 41 _ _ rfl w9.heap.size 41 _ (az kp r9).toArray rfl rfl (bz _) gV rfl (iW kp r9) ?_))
           have Ay:Below w9.heap.size w9 ((w9.alloc (.cells (az zK Pt.zero).toArray 41)).setRow w9.heap.size (az kp r9).toArray):=
            ((Below.refl _ _).alloc (Nat.le_refl _) _).trans ((aX _ w9.heap.size _).below (by simp) fun q hq e=>by unfold aJ at e;omega)
           have zf4:((w9.alloc (.cells (az zK Pt.zero).toArray 41)).setRow w9.heap.size (az kp r9).toArray).heap[w9.heap.size]?=some (.cells (az kp r9).toArray 41 (0,0)):=setRow_heap _ _ _ _ _ _ (bz _);change Code.wp _ _ _ _ ((w9.alloc (.cells (az zK Pt.zero).toArray 41)).setRow w9.heap.size (az kp r9).toArray);generalize ((w9.alloc (.cells (az zK Pt.zero).toArray 41)).setRow w9.heap.size (az kp r9).toArray)=Uo at Ay zf4;have PV:=ag (ag hC8 yE) Ay;clear WI est ek es et;have es:=(HX.out _ PV).ah
           rcases hen with rfl| rfl
           ·cases zf3 with
            | false=>
             go_wp2;go_ret;exact⟨by rw[xI.out,hj,ET,jD,eQ,ht];rfl,bX.out _ (ag eU PV)⟩
            | true=>
             have zf5:Uo.heap[w7.heap.size]?=some (.cells (aG nv pn).toArray 47 (0,0)):=((ag yE Ay).block _ (aP hX8)).trans hX8;have HL8:=(show Hid _ from run_loadAt_mid Uo w7.heap.size 0 47 (aG nv pn) _ (dY zf5) Tryz.underlying47 rfl iX);have hIN:qV (· <Uo.heap.size) Uo nv pn:=hn7.carry fun b aY=>⟨Nat.lt_of_lt_of_le aY.2 (ag Ni (ag yE Ay)).size,(ag Ni (ag yE Ay)).block b aY.2⟩;have hMy:=HMY.out Uo nv pn PV hIN hsn;clear hIN hn7 hX8 zf5 zf4 HMY;go_wp2_with(first
              | (refine aQ (by kernel_rfl) 47 _ rfl w3.heap.size 0 rfl (aG v q) (vz.out _ PV) ?_)
              | (refine aQ (by kernel_rfl) 47 _ rfl w7.heap.size 0 rfl (aG nv pn) HL8.out ?_)
              | (go_at_call 64;refine hMy.mono ?_;rintro x w11 ⟨rfl,zks⟩))
             go_ret;exact⟨by rw[xI.out,hj,ET,jD,eQ,ht];rfl,bX.out _ (ag eU (ag PV zks))⟩
           ·cases zf3<;>(go_wp2;go_ret;exact⟨by rw[xI.out,hj,ET,jD,eQ,ht];rfl,bX.out _ (ag eU PV)⟩)
theorem Md{O:Nat->Prop}{w:World}{e:Ev}{p:Pt}{ps:Option Addr}{cs:Nat}{l:List Kn}(h:ji O w e p)(lG:pM O w ps cs l)(hO:∀b,O b->b<w.heap.size)(hz:yC e)(nC:szJ 13 e.content=true)(hk:FE l)(hr:e.room.size<=1000000)(hu:e.ah.size<=1000000):
    Calls Tryz.prog 12 #[eF e p,.slice ps l.length cs] w fun x w'=>x=.returned (.int .i64 (je e l))/\Below w.heap.size w w':=by
 obtain⟨W0,cO⟩:∃W0,W0=w.alloc (.cells (aA e p).toArray 28):=⟨_,rfl⟩;have cK:Below w.heap.size w W0:=by rw[cO];exact(Below.refl _ _).alloc (Nat.le_refl _) _
 have kU:W0.heap[w.heap.size]?=some (.cells (aA e p).toArray 28 (0,0)):=by rw[cO];exact bz _
 have hV:=iI h hO cK kU;have HV:Hid (∀X,Below W0.heap.size W0 X->lW X w.heap.size e p):=fun X hX=>hV.below hX;have qa:Hid (∀X,Below W0.heap.size W0 X->pM (· <X.heap.size) X ps cs l):=fun X hX=>lG.carry fun k hk=>⟨Nat.lt_of_lt_of_le (hO k hk) (ag cK hX).size,(ag cK hX).block k (hO k hk)⟩;have Qf:Hid (∀X,Below W0.heap.size W0 X->(Instr.loadAt 28 (.pointer (some ⟨w.heap.size,0,none⟩))).run Tryz.prog X=.ok (.agg (aA e p).toArray) X):=fun X hX=>run_loadAt_mid X w.heap.size 0 28 (aA e p) _ (HV.out X hX).iD Tryz.underlying28 rfl dX;have hFi:=PU e p W0 hV.ev (fun _ h=>h) hz hr hu;have HAL:Hid (∀X,Below W0.heap.size W0 X->Calls Tryz.prog 28 #[.agg (aA e p).toArray,.slice ps l.length cs] X fun x w'=>x=.returned (.bool (askT e l))/\Below X.heap.size X w'):=fun X hX=>Ea (HV.out X hX).ev (qa.out X hX) (fun _ h=>h) hz nC hk;have HR:Hid (je e l=if aS e then(if askT e l then 0 else 110)else 50):=rfl;have D8:Below W0.heap.size W0 W0:=Below.refl _ _;clear h lG hV kU hz nC hk qa;unfold eF at hFi ⊢;generalize askT e l=ak at HAL HR;generalize aS e=sh at hFi HR;go_enter Tryz.func12,Tryz.ntmps12
 go_upto_region 1 with fail
 rw[<-cO];clear cO
 cases sh with
 | false=>
  go_wp2_with(first
   | (go_at_call 16;refine hFi.mono ?_;rintro x w1 ⟨rfl,aL⟩)
   | (refine aQ (by kernel_rfl) 28 _ rfl w.heap.size 0 rfl (aA e p) (Qf.out _ D8) ?_))
  go_ret;exact⟨by rw[HR.out];rfl,ag cK aL⟩
 | true=>
  cases ak with
  | false=>
   go_wp2_with(first
    | (go_at_call 16;refine hFi.mono ?_;rintro x w1 ⟨rfl,aL⟩)
    | (go_at_call 28;refine(HAL.out _ aL).mono ?_;rintro x w2 ⟨rfl,aY⟩)
    | (refine aQ (by kernel_rfl) 28 _ rfl w.heap.size 0 rfl (aA e p) (Qf.out _ aL) ?_)
    | (refine aQ (by kernel_rfl) 28 _ rfl w.heap.size 0 rfl (aA e p) (Qf.out _ D8) ?_))
   go_ret;exact⟨by rw[HR.out];rfl,ag cK (ag aL aY)⟩
  | true=>
   go_wp2_with(first
    | (go_at_call 16;refine hFi.mono ?_;rintro x w1 ⟨rfl,aL⟩)
    | (go_at_call 28;refine(HAL.out _ aL).mono ?_;rintro x w2 ⟨rfl,aY⟩)
    | (refine aQ (by kernel_rfl) 28 _ rfl w.heap.size 0 rfl (aA e p) (Qf.out _ aL) ?_)
    | (refine aQ (by kernel_rfl) 28 _ rfl w.heap.size 0 rfl (aA e p) (Qf.out _ D8) ?_))
   go_ret;exact⟨by rw[HR.out];rfl,ag cK (ag aL aY)⟩
theorem Me{O:Nat->Prop}{w:World}{e:Ev}{p:Pt}{ps:Option Addr}{cs:Nat}{l:List Kn}(h:ji O w e p)(lG:pM O w ps cs l)(hO:∀b,O b->b<w.heap.size)(hz:Au e)(hk:∀k∈l,Au k.2)(hT:wJ w):
    Calls Tryz.prog 3 #[eF e p,.slice ps l.length cs] w fun x w'=>x=.returned (.bool true)/\Below w.heap.size w w':=by
 obtain⟨W0,cO⟩:∃W0,W0=w.alloc (.cells (aA e p).toArray 28):=⟨_,rfl⟩;have cK:Below w.heap.size w W0:=by rw[cO];exact(Below.refl _ _).alloc (Nat.le_refl _) _
 have kU:W0.heap[w.heap.size]?=some (.cells (aA e p).toArray 28 (0,0)):=by rw[cO];exact bz _
 have hV:=iI h hO cK kU;have HV:Hid (∀X,Below W0.heap.size W0 X->lW X w.heap.size e p):=fun X hX=>hV.below hX;have qa:Hid (∀X,Below W0.heap.size W0 X->pM (· <X.heap.size) X ps cs l):=fun X hX=>lG.carry fun k hk=>⟨Nat.lt_of_lt_of_le (hO k hk) (ag cK hX).size,(ag cK hX).block k (hO k hk)⟩;have Qf:Hid (∀X,Below W0.heap.size W0 X->(Instr.loadAt 28 (.pointer (some ⟨w.heap.size,0,none⟩))).run Tryz.prog X=.ok (.agg (aA e p).toArray) X):=fun X hX=>run_loadAt_mid X w.heap.size 0 28 (aA e p) _ (HV.out X hX).iD Tryz.underlying28 rfl dX;have LY:=GN e p W0 hV.ev (fun _ h=>h) hz;have HK:Hid (∀X,Below W0.heap.size W0 X->Calls Tryz.prog 10 #[.slice ps l.length cs] X fun x w'=>Tk X w' l x):=fun X hX=>PM (qa.out X hX) (fun _ h=>h) hk;have HJ:Hid (∀X,Below W0.heap.size W0 X->DZ e->PK l->Calls Tryz.prog 11 #[.agg (aA e p).toArray,.slice ps l.length cs] X fun x w'=>x=.returned (.int .i64 (je e l))/\Below X.heap.size X w'):=fun X hX h1 h2=>og (HV.out X hX).ev (qa.out X hX) (fun _ h=>h) h1.sz h2.sz (hT.below (ag cK hX));have BK:Hid (∀X,Below W0.heap.size W0 X->DZ e->PK l->Calls Tryz.prog 12 #[.agg (aA e p).toArray,.slice ps l.length cs] X fun x w'=>x=.returned (.int .i64 (je e l))/\Below X.heap.size X w'):=fun X hX h1 h2=>Md (HV.out X hX).ev (qa.out X hX) (fun _ h=>h) h1.sz (ky 13 20 _ (by decide) h1.cont) h2.sz (by have:=h1.texts;omega) (by have:=h1.texts;omega);have HAW:Hid (∀X,Below W0.heap.size W0 X->Calls Tryz.prog 13 #[] X fun x w'=>x=.returned (.bool true)/\Below X.heap.size X w'):=fun X hX=>GH X (hT.below (ag cK hX));have D8:Below W0.heap.size W0 W0:=Below.refl _ _;clear h lG hV kU hz hk hT;unfold eF at LY ⊢;generalize je e l=jt at HJ BK;go_enter Tryz.func3,Tryz.ntmps3
 go_upto_region 1 with fail
 rw[<-cO];clear cO
 go_upto_region 3 with(first
  | (go_at_call 9;refine LY.mono ?_;rintro x w1 ⟨⟨b1,rfl,hf1⟩,tQ⟩;cases b1;have hN1:=tQ;clear tQ)
  | (go_at_call 10;refine(HK.out _ tQ).mono ?_;rintro x W ⟨⟨b2,rfl,hf2⟩,aY⟩;have eU:=ag tQ aY;clear aY;cases b2;have Y8:=eU;clear eU)
  | (refine aQ (by kernel_rfl) 28 _ rfl w.heap.size 0 rfl (aA e p) (Qf.out _ D8) ?_))
 iterate 2
  ·go_ret
   first
    | exact⟨rfl,ag cK hN1⟩
    | exact⟨rfl,ag cK Y8⟩
 ·skip
  have Uv:DZ e:=hf1 (by trivial);have hF2:PK l:=hf2 (by trivial);have HJ1:Hid (∀X,Below W.heap.size W X->Calls Tryz.prog 11 #[.agg (aA e p).toArray,.slice ps l.length cs] X fun x w'=>x=.returned (.int .i64 jt)/\Below X.heap.size X w'):=fun X hb=>HJ.out X (ag eU hb) Uv hF2;have HJ2:Hid (∀X,Below W.heap.size W X->Calls Tryz.prog 12 #[.agg (aA e p).toArray,.slice ps l.length cs] X fun x w'=>x=.returned (.int .i64 jt)/\Below X.heap.size X w'):=fun X hb=>BK.out X (ag eU hb) Uv hF2;have HLX:Hid (∀X,Below W.heap.size W X->(Instr.loadAt 28 (.pointer (some ⟨w.heap.size,0,none⟩))).run Tryz.prog X=.ok (.agg (aA e p).toArray) X):=fun X hb=>Qf.out X (ag eU hb);have HAV:Hid (∀X,Below W.heap.size W X->Calls Tryz.prog 13 #[] X fun x w'=>x=.returned (.bool true)/\Below X.heap.size X w'):=fun X hb=>HAW.out X (ag eU hb);have bX:Hid (∀X,Below W.heap.size W X->Below w.heap.size w X):=fun X hb=>ag cK (ag eU hb);have hjj:(jt==jt)=true:=beq_self_eq_true _;clear HJ BK qa HV Qf HAW Uv hF2 hf1 hf2 HK LY;refine aI (by kernel_rfl) (fun w'=>Below W.heap.size W w') ?_;change wpIn _ _ _ _ _ _ _ _ (World.drew _);have hD:Below W.heap.size W W.drew:=(Below.refl _ _).drew;refine ae (i:=0) (d:=(some 13)) (v:=(.agg (aA e p).toArray)) (a':= ?aqe0) rfl rfl (by kernel_rfl) (by kernel_rfl) (by kernel_rfl) (fun _ _ _ h=>h) (Or.inl ⟨by rfl, ?yqe0⟩) ?fqe0 ?_
  case yqe0=>exact fun wq hq=>di rfl rfl (HLX.out wq hq)
  case fqe0=>(go_frame;rfl)
  refine aa (i:=1) (d:=some 14) rfl ?_;refine ae (i:=3) (d:=(some 16)) (v:=(.agg (aA e p).toArray)) (a':= ?aqe3) rfl rfl (by kernel_rfl) (by kernel_rfl) (by kernel_rfl) (fun _ _ _ h=>h) (Or.inl ⟨by rfl, ?yqe3⟩) ?fqe3 ?_
  case yqe3=>exact fun wq hq=>di rfl rfl (HLX.out wq hq)
  case fqe3=>(go_frame;rfl)
  refine aa (i:=4) (d:=some 17) rfl ?_;refine ax (i:=2) hD rfl ?_;intro K hK;go_simp;go_wp2_with(go_at_call 11;refine(HJ1.out _ hD).mono ?_;rintro x w7 ⟨rfl,KG⟩);have Ve:Below W.heap.size W w7:=ag hD KG;refine ax (i:=5) Ve rfl ?_;intro K hK;go_simp;go_wp2_with(go_at_call 12;refine(HJ2.out _ Ve).mono ?_;rintro x w8 ⟨rfl,n_⟩);have zdm:Below W.heap.size W w8:=ag Ve n_;refine aa (i:=6) (d:=some 19) rfl ?_;refine aa (i:=7) (d:=some 20) rfl ?_;refine ax (i:=8) zdm rfl ?_;intro K hK;go_simp;go_wp2_with(go_at_call 13;refine(HAV.out _ zdm).mono ?_;rintro x w9 ⟨rfl,zkx⟩);have X_:Below W.heap.size W w9:=ag zdm zkx;refine aa (i:=9) (d:=some 22) rfl ?_;refine aa (i:=10) (d:=some 4) rfl ?_;refine aH X_ (by kernel_rfl) ?_ _;go_wp2;go_ret;exact⟨rfl,bX.out _ X_⟩
end Go.Proofs.YtldegjjaknelgaaGreatDoor

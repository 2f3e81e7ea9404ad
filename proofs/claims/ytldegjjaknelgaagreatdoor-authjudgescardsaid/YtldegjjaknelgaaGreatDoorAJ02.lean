/- A part. -/
import Derived.Test.YtldegjjaknelgaaGreatDoorAJ01
import Derived.BigRegion
import Derived.RegionTactic
import Derived.Laws.CopyOwn
import Derived.Laws.AppendOwnNone
set_option maxRecDepth 100000
set_option maxHeartbeats 64000000
namespace Go.Proofs.YtldegjjaknelgaaGreatDoor.Id
open Go.RowKit
theorem mV(s:ByteArray)(w:World)(hs:s.size<=140737488351232):
    Calls Tryz.prog 72 #[.string s] w fun e w'=>e=.returned (.bool (CG s))/\w=w':=by
 unfold CG
 by_cases he:s.size=0
 ·have he':(s.size:Int)=0:=by omega
  go_enter Tryz.func72,Tryz.ntmps72;go_wp2;go_ret;exact⟨aj (mo _ _ _ he).symm,rfl⟩
 by_cases hm:32<(s.size:Int)
 ·go_enter Tryz.func72,Tryz.ntmps72;go_wp2;go_ret;exact⟨aj (mh _ _ _ hm).symm,rfl⟩
 go_enter Tryz.func72,Tryz.ntmps72;go_wp2
 go_loop [3] (fun i=>∃k:Nat,k<=s.size/\i=.int .i64 k/\∀j,j<k->yS ((ints s).getD j 0)=true) (fun i=>s.size - (intOf i).toNat)
 case atStart=>exact⟨0,Nat.zero_le _,rfl,fun j hj=>by omega⟩
 case round=>
  obtain⟨k,hk,rfl,fo⟩:=hrel;have HA:Hid (∀j,j<k->yS ((ints s).getD j 0)=true):=fo;clear fo
  by_cases bQ:k<s.size
  ·have HG:Hid ((ints s).getD k 0=(s[k].toNat:Int)):=dt s k bQ;have aL:(s[k].toNat:Int)<=255:=by have:=s[k].toNat_lt;omega
   by_cases h0:small (s[k].toNat:Int)=true
   ·have HB:Hid (yS ((ints s).getD k 0)=true):=by rw[HG.out];unfold yS;simp[h0];exact trivial
    go_wp2_with(go_at_call 68;refine(gX _ _).mono ?_;rintro e w' ⟨rfl,rfl⟩)
    go_round
    case rel=>exact⟨k+1,by omega,by go_num,fun j hj=>by
                          by_cases e:j=k
                          ·rw[e];exact HB.out
                          ·exact HA.out j (by omega)⟩
    case measure=>simp[intOf];omega
   have h0':small (s[k].toNat:Int)=false:=by simpa using h0
   clear h0
   by_cases h45:(s[k].toNat:Int)=45
   ·have HB:Hid (yS ((ints s).getD k 0)=true):=by rw[HG.out];unfold yS;simp[h45];exact trivial
    go_wp2_with(go_at_call 68;refine(gX _ _).mono ?_;rintro e w' ⟨rfl,rfl⟩)
    go_round
    case rel=>exact⟨k+1,by omega,by go_num,fun j hj=>by
                          by_cases e:j=k
                          ·rw[e];exact HB.out
                          ·exact HA.out j (by omega)⟩
    case measure=>simp[intOf];omega
   have HB:Hid (yS ((ints s).getD k 0)=false):=by rw[HG.out];unfold yS;simp[h0',h45];exact trivial
   go_wp2_with(go_at_call 68;refine(gX _ _).mono ?_;rintro e w' ⟨rfl,rfl⟩);go_ret;exact⟨aj (oC _ _ _ k bQ HB.out).symm,rfl⟩
  ·obtain rfl:k=s.size:=by omega
   go_wp2;go_ret;exact⟨aj (oz _ _ _ (by omega) (by omega) HA.out).symm,rfl⟩
theorem oG(s:ByteArray)(w:World)(hs:s.size<=140737488351232):
    Calls Tryz.prog 98 #[.string s] w fun e w'=>e=.returned (.bool (loc s))/\w=w':=by
 unfold loc
 by_cases he:s.size=0
 ·have he':(s.size:Int)=0:=by omega
  go_enter Tryz.func98,Tryz.ntmps98;go_wp2;go_ret;exact⟨aj (mo _ _ _ he).symm,rfl⟩
 by_cases hm:32<(s.size:Int)
 ·go_enter Tryz.func98,Tryz.ntmps98;go_wp2;go_ret;exact⟨aj (mh _ _ _ hm).symm,rfl⟩
 go_enter Tryz.func98,Tryz.ntmps98;go_wp2
 go_loop [3] (fun i=>∃k:Nat,k<=s.size/\i=.int .i64 k/\∀j,j<k->vL ((ints s).getD j 0)=true) (fun i=>s.size - (intOf i).toNat)
 case atStart=>exact⟨0,Nat.zero_le _,rfl,fun j hj=>by omega⟩
 case round=>
  obtain⟨k,hk,rfl,fo⟩:=hrel;have HA:Hid (∀j,j<k->vL ((ints s).getD j 0)=true):=fo;clear fo
  by_cases bQ:k<s.size
  ·have HG:Hid ((ints s).getD k 0=(s[k].toNat:Int)):=dt s k bQ;have aL:(s[k].toNat:Int)<=255:=by have:=s[k].toNat_lt;omega
   by_cases h0:small (s[k].toNat:Int)=true
   ·have HB:Hid (vL ((ints s).getD k 0)=true):=by rw[HG.out];unfold vL;simp[h0];exact trivial
    go_wp2_with(go_at_call 68;refine(gX _ _).mono ?_;rintro e w' ⟨rfl,rfl⟩)
    go_round
    case rel=>exact⟨k+1,by omega,by go_num,fun j hj=>by
                          by_cases e:j=k
                          ·rw[e];exact HB.out
                          ·exact HA.out j (by omega)⟩
    case measure=>simp[intOf];omega
   have h0':small (s[k].toNat:Int)=false:=by simpa using h0
   clear h0
   by_cases h45:(s[k].toNat:Int)=45
   ·have HB:Hid (vL ((ints s).getD k 0)=true):=by rw[HG.out];unfold vL;simp[h45];exact trivial
    go_wp2_with(go_at_call 68;refine(gX _ _).mono ?_;rintro e w' ⟨rfl,rfl⟩)
    go_round
    case rel=>exact⟨k+1,by omega,by go_num,fun j hj=>by
                          by_cases e:j=k
                          ·rw[e];exact HB.out
                          ·exact HA.out j (by omega)⟩
    case measure=>simp[intOf];omega
   by_cases h95:(s[k].toNat:Int)=95
   ·have HB:Hid (vL ((ints s).getD k 0)=true):=by rw[HG.out];unfold vL;simp[h95];exact trivial
    go_wp2_with(go_at_call 68;refine(gX _ _).mono ?_;rintro e w' ⟨rfl,rfl⟩)
    go_round
    case rel=>exact⟨k+1,by omega,by go_num,fun j hj=>by
                          by_cases e:j=k
                          ·rw[e];exact HB.out
                          ·exact HA.out j (by omega)⟩
    case measure=>simp[intOf];omega
   have HB:Hid (vL ((ints s).getD k 0)=false):=by rw[HG.out];unfold vL;simp[h0',h45,h95];exact trivial
   have b45:((s[k].toNat:Int) !=45)=true:=by simp[h45]
   have b95:((s[k].toNat:Int) !=95)=true:=by simp[h95]
   go_wp2_with(go_at_call 68;refine(gX _ _).mono ?_;rintro e w' ⟨rfl,rfl⟩);go_ret;exact⟨aj (oC _ _ _ k bQ HB.out).symm,rfl⟩
  ·obtain rfl:k=s.size:=by omega
   go_wp2;go_ret;exact⟨aj (oz _ _ _ (by omega) (by omega) HA.out).symm,rfl⟩
theorem xc(s:ByteArray)(w:World)(hs:s.size<=140737488351232):
    Calls Tryz.prog 34 #[.string s] w fun e w'=>e=.returned (.bool (aR s))/\w=w':=by
 unfold aR
 by_cases he:s.size=0
 ·have he':(s.size:Int)=0:=by omega
  go_enter Tryz.func34,Tryz.ntmps34;go_wp2;go_ret;exact⟨aj (mo _ _ _ he).symm,rfl⟩
 by_cases hm:64<(s.size:Int)
 ·go_enter Tryz.func34,Tryz.ntmps34;go_wp2;go_ret;exact⟨aj (mh _ _ _ hm).symm,rfl⟩
 go_enter Tryz.func34,Tryz.ntmps34;go_wp2
 go_loop [3] (fun i=>∃k:Nat,k<=s.size/\i=.int .i64 k/\∀j,j<k->yT ((ints s).getD j 0)=true) (fun i=>s.size - (intOf i).toNat)
 case atStart=>exact⟨0,Nat.zero_le _,rfl,fun j hj=>by omega⟩
 case round=>
  obtain⟨k,hk,rfl,fo⟩:=hrel;have HA:Hid (∀j,j<k->yT ((ints s).getD j 0)=true):=fo;clear fo
  by_cases bQ:k<s.size
  ·have HG:Hid ((ints s).getD k 0=(s[k].toNat:Int)):=dt s k bQ;have aL:(s[k].toNat:Int)<=255:=by have:=s[k].toNat_lt;omega
   by_cases h0:small (s[k].toNat:Int)=true
   ·have HB:Hid (yT ((ints s).getD k 0)=true):=by rw[HG.out];unfold yT;simp[h0];exact trivial
    go_wp2_with(go_at_call 68;refine(gX _ _).mono ?_;rintro e w' ⟨rfl,rfl⟩)
    go_round
    case rel=>exact⟨k+1,by omega,by go_num,fun j hj=>by
                          by_cases e:j=k
                          ·rw[e];exact HB.out
                          ·exact HA.out j (by omega)⟩
    case measure=>simp[intOf];omega
   have h0':small (s[k].toNat:Int)=false:=by simpa using h0
   clear h0
   by_cases h95:(s[k].toNat:Int)=95
   ·have HB:Hid (yT ((ints s).getD k 0)=true):=by rw[HG.out];unfold yT;simp[h95];exact trivial
    go_wp2_with(go_at_call 68;refine(gX _ _).mono ?_;rintro e w' ⟨rfl,rfl⟩)
    go_round
    case rel=>exact⟨k+1,by omega,by go_num,fun j hj=>by
                          by_cases e:j=k
                          ·rw[e];exact HB.out
                          ·exact HA.out j (by omega)⟩
    case measure=>simp[intOf];omega
   have HB:Hid (yT ((ints s).getD k 0)=false):=by rw[HG.out];unfold yT;simp[h0',h95];exact trivial
   go_wp2_with(go_at_call 68;refine(gX _ _).mono ?_;rintro e w' ⟨rfl,rfl⟩);go_ret;exact⟨aj (oC _ _ _ k bQ HB.out).symm,rfl⟩
  ·obtain rfl:k=s.size:=by omega
   go_wp2;go_ret;exact⟨aj (oz _ _ _ (by omega) (by omega) HA.out).symm,rfl⟩
theorem tZ(s:ByteArray)(c:Int)(w:World)(hs:s.size<=1000000000):
    Calls Tryz.prog 67 #[.int .u8 c,.string s] w fun e w'=>e=.returned (told (parts c s))/\Below w.heap.size w w':=by
 go_enter Tryz.func67,Tryz.ntmps67;go_wp2
 go_loop [7] (fun i=>∃k:Nat,1<=k/\(k<=s.size\/ k=1)/\i=.int .i64 k/\∀j,1<=j->j<k->(ints s).getD j 0≠58) (fun i=>s.size - (intOf i).toNat)
 case atStart=>exact⟨1,Nat.le_refl _,.inr rfl,rfl,fun j h1 h2=>by omega⟩
 case round=>
  obtain⟨k,h1,hk,rfl,fo⟩:=hrel;have HA:Hid (∀j,1<=j->j<k->(ints s).getD j 0≠58):=fo;clear fo
  by_cases bQ:k<s.size
  ·have h0:0<s.size:=by omega
   have HG0:Hid ((ints s).getD 0 0=(s[0].toNat:Int)):=dt s 0 h0
   by_cases hc:(s[0].toNat:Int)=c
   ·have HG:Hid ((ints s).getD k 0=(s[k].toNat:Int)):=dt s k bQ
    by_cases h58:(s[k].toNat:Int)=58
    ·have HP:Hid (parts c s=if loc (s.extract 1 k)=true/\CG (s.extract (k+1) s.size)=true then(s.extract 1 k,s.extract (k+1) s.size,true)else(aT,aT,false)):=
       BA c s k (by rw[HG0.out];exact hc) h1 bQ (by rw[HG.out];exact h58) HA.out
     have He:(s.extract 1 k).size<=140737488351232:=by simp;omega
     have Hf:(s.extract (k+1) s.size).size<=140737488351232:=by simp;omega
     by_cases hL:loc (s.extract 1 k)=true
     ·by_cases hS:CG (s.extract (k+1) s.size)=true
      ·go_wp2_with(first
         | (go_at_call 98;refine(oG _ _ He).mono ?_;rintro e w' ⟨rfl,rfl⟩)
         | (go_at_call 72;refine(mV _ _ Hf).mono ?_;rintro e w' ⟨rfl,rfl⟩))
       go_quiet (fail);go_wp2
       go_ret3
       exact⟨iQ (by rw[HP.out,if_pos ⟨hL,hS⟩]),below_drewN _ _⟩
      ·have hS':CG (s.extract (k+1) s.size)=false:=by simpa using hS
       go_wp2_with(first
        | (go_at_call 98;refine(oG _ _ He).mono ?_;rintro e w' ⟨rfl,rfl⟩)
        | (go_at_call 72;refine(mV _ _ Hf).mono ?_;rintro e w' ⟨rfl,rfl⟩))
       go_ret3
       exact⟨iQ (by rw[HP.out,if_neg (by simp[hS'])];rfl),Below.refl _ _⟩
     ·have hL':loc (s.extract 1 k)=false:=by simpa using hL
      go_wp2_with(go_at_call 98;refine(oG _ _ He).mono ?_;rintro e w' ⟨rfl,rfl⟩)
      go_ret3
      exact⟨iQ (by rw[HP.out,if_neg (by simp[hL'])];rfl),Below.refl _ _⟩
    ·go_wp2
     go_round
     case rel=>exact⟨k+1,by omega,.inl (by omega),by go_num,fun j hj Ie=>by
                           by_cases e:j=k
                           ·rw[e,HG.out];exact h58
                           ·exact HA.out j hj (by omega)⟩
     case measure=>simp[intOf];omega
   ·go_wp2
    go_ret3
    exact⟨iQ (mq c s (.inr (.inl (by rw[HG0.out];exact hc)))),Below.refl _ _⟩
  ·go_wp2
   go_ret3
   refine⟨iQ (mq c s ?_),Below.refl _ _⟩;exact .inr (.inr fun j hj Ie=>HA.out j hj (by omega))
theorem mD(s:ByteArray)(w:World)(hs:s.size<=1000000000):
    Calls Tryz.prog 69 #[.string s] w fun e w'=>e=.returned (told (parts 64 s))/\Below w.heap.size w w':=by
 go_enter Tryz.func69,Tryz.ntmps69;go_wp2_with(go_at_call 67;refine(tZ s 64 _ hs).mono ?_;rintro e w1 ⟨rfl,aL⟩;unfold told)
 go_ret3
 exact⟨rfl,aL⟩
theorem xe(s:ByteArray)(w:World)(hs:s.size<=1000000000):
    Calls Tryz.prog 33 #[.string s] w fun e w'=>e=.returned (told (parts 33 s))/\Below w.heap.size w w':=by
 go_enter Tryz.func33,Tryz.ntmps33;go_wp2_with(go_at_call 67;refine(tZ s 33 _ hs).mono ?_;rintro e w1 ⟨rfl,aL⟩;unfold told)
 go_ret3
 exact⟨rfl,aL⟩
def home(s:ByteArray):ByteArray:=if(parts 64 s).2.2=true then(parts 64 s).2.1 else(parts 33 s).2.1
theorem t_{a b:ByteArray}(h:a=b):Ending.returned (.string a)=.returned (.string b):=by rw[h]
theorem EC(s:ByteArray)(w:World)(hs:s.size<=140737488351232):
    Calls Tryz.prog 80 #[.string s] w fun e w'=>e=.returned (.string (home s))/\Below w.heap.size w w':=by
 cases hu:(parts 64 s).2.2 with
 | true=>
  go_enter Tryz.func80,Tryz.ntmps80;go_wp2_with(go_at_call 84;refine(p_ s _ hs).mono ?_;rintro e w1 ⟨rfl,aL⟩;unfold told);go_ret;exact⟨t_ (by unfold home;rw[if_pos hu]),aL⟩
 | false=>
  go_enter Tryz.func80,Tryz.ntmps80;go_wp2_with(first
   | (go_at_call 84;refine(p_ s _ hs).mono ?_;rintro e w1 ⟨rfl,aL⟩;unfold told)
   | (go_at_call 119;refine(EB s _ hs).mono ?_;rintro e w2 ⟨rfl,aY⟩;unfold told))
  go_ret;exact⟨t_ (by unfold home;rw[if_neg (by simp[hu])]),aL.trans (aY.mono aL.size)⟩
theorem xf(s:ByteArray)(w:World)(hs:s.size<=1000000000):
    Calls Tryz.prog 95 #[.string s] w fun e w'=>e=.returned (.string (home s))/\Below w.heap.size w w':=by
 cases hu:(parts 64 s).2.2 with
 | true=>
  go_enter Tryz.func95,Tryz.ntmps95;go_wp2_with(go_at_call 69;refine(mD s _ hs).mono ?_;rintro e w1 ⟨rfl,aL⟩;unfold told);go_ret;exact⟨t_ (by unfold home;rw[if_pos hu]),aL⟩
 | false=>
  go_enter Tryz.func95,Tryz.ntmps95;go_wp2_with(first
   | (go_at_call 69;refine(mD s _ hs).mono ?_;rintro e w1 ⟨rfl,aL⟩;unfold told)
   | (go_at_call 33;refine(xe s _ hs).mono ?_;rintro e w2 ⟨rfl,aY⟩;unfold told))
  go_ret;exact⟨t_ (by unfold home;rw[if_neg (by simp[hu])]),aL.trans (aY.mono aL.size)⟩
theorem wraps_u32(n:Int)(h₀:0<=n)(h₁:n<2 ^ 32):IntKind.u32.wrap n=n:=by rw[IntKind.wrap_u32];omega
theorem yo(i:Nat)(x y:Int)(hx₀:0<=x)(hx:x % 2 ^ i=0)(hx₁:x<4294967296)(hy₀:0<=y)(hy:y<2 ^ i)(hy₁:y<4294967296):bits .or .u32 x y=x+y:=
 bits_join .u32 32 (by decide) wraps_u32 i x y hx₀ hx (by omega) hy₀ hy (by omega)
theorem Yi:∀i:Fin 64,(((⟨#[65,66,67,68,69,70,71,72,73,74,75,76,77,78,79,80,81,82,83,84,85,86,87,88,89,90,97,98,99,100,101,102,103,104,105,106,107,108,109,110,111,112,113,114,115,116,117,118,119,120,121,122,48,49,50,51,52,53,54,55,56,57,43,47]⟩:ByteArray)[i.val]'(by exact i.isLt)).toNat:Int)=Mj i.val:=by decide
theorem UG(k:IntKind)(i:Int)(h0:0<=i)(h1:i<=63)(w:World):
    (Instr.index 9 (.string ⟨#[65,66,67,68,69,70,71,72,73,74,75,76,77,78,79,80,81,82,83,84,85,86,87,88,89,90,97,98,99,100,101,102,103,104,105,106,107,108,109,110,111,112,113,114,115,116,117,118,119,120,121,122,48,49,50,51,52,53,54,55,56,57,43,47]⟩) (.int k i)).run Tryz.prog w=.ok (.int .u8 (Mj i)) w:=by
 obtain⟨n,rfl⟩:=Int.eq_ofNat_of_zero_le h0;rw[run_index_string w 9 _ k (n:Int) Tryz.underlying9,dif_pos ⟨by omega,by show(n:Int)<((64:Nat):Int);omega⟩];rw[<-Yi ⟨n,by omega⟩]
 rfl
theorem Ii(a b c d:Int)(w:World)(ha0:0<=a)(ha:a<=255)(cK:0<=b)(hb:b<=255)(PY:0<=c)(hc:c<=255)(hd0:0<=d)(hd:d<=255):
    Calls Tryz.prog 175 #[.agg #[.int .u8 a,.int .u8 b,.int .u8 c,.int .u8 d]] w fun e w'=>e=.returned (.agg #[.int .u8 (bH a*4+bH b / 16),.int .u8 (bH b % 16*16+bH c / 4),.int .u8 (bH c % 4*64+bH d)])/\Below w.heap.size w w':=by
 have na:=dD a;have nb:=dD b;have nc:=dD c;have nd:=dD d;have ma:=dC a;have mb:=dC b;have mc:=dC c;have md:=dC d;have o0:bits .or .u32 0 (bH a)=bH a:=by rw[yo 6 _ _ (by omega) (by omega) (by omega) (by omega) (by omega) (by omega)];omega
 have o1:bits .or .u32 (bH a*64) (bH b)=bH a*64+bH b:=yo 6 _ _ (by omega) (by omega) (by omega) (by omega) (by omega) (by omega);have o2:bits .or .u32 ((bH a*64+bH b)*64) (bH c)=(bH a*64+bH b)*64+bH c:=yo 6 _ _ (by omega) (by omega) (by omega) (by omega) (by omega) (by omega);have o3:bits .or .u32 (((bH a*64+bH b)*64+bH c)*64) (bH d)=((bH a*64+bH b)*64+bH c)*64+bH d:=yo 6 _ _ (by omega) (by omega) (by omega) (by omega) (by omega) (by omega);have r1:(((bH a*64+bH b)*64+bH c)*64+bH d) / 65536=bH a*4+bH b / 16:=by omega
 have r2:(((bH a*64+bH b)*64+bH c)*64+bH d) / 256 % 256=bH b % 16*16+bH c / 4:=by omega
 have r3:(((bH a*64+bH b)*64+bH c)*64+bH d) % 256=bH c % 4*64+bH d:=by omega
 have i0:∀w,(Instr.index 187 (.agg #[.int .u8 a,.int .u8 b,.int .u8 c,.int .u8 d]) (.int .i64 0)).run Tryz.prog w=.ok (.int .u8 a) w:=fun _=>by kernel_rfl
 have i1:∀w,(Instr.index 187 (.agg #[.int .u8 a,.int .u8 b,.int .u8 c,.int .u8 d]) (.int .i64 1)).run Tryz.prog w=.ok (.int .u8 b) w:=fun _=>by kernel_rfl
 have i2:∀w,(Instr.index 187 (.agg #[.int .u8 a,.int .u8 b,.int .u8 c,.int .u8 d]) (.int .i64 2)).run Tryz.prog w=.ok (.int .u8 c) w:=fun _=>by kernel_rfl
 have i3:∀w,(Instr.index 187 (.agg #[.int .u8 a,.int .u8 b,.int .u8 c,.int .u8 d]) (.int .i64 3)).run Tryz.prog w=.ok (.int .u8 d) w:=fun _=>by kernel_rfl
 go_enter Tryz.func175,Tryz.ntmps175;go_wp2;refine wp_loop_rounds 5 ?_
 iterate 5 (rw[rounds_succ];go_wp2_with(go_at_call 187;refine(lM _ _ (by omega) (by omega)).mono ?_;rintro e w' ⟨rfl,rfl⟩))
 exact bodyPost_ret (v:=.agg #[.int .u8 (bH a*4+bH b / 16),.int .u8 (bH b % 16*16+bH c / 4),.int .u8 (bH c % 4*64+bH d)]) (by simp[results,Tryz.results175,go_sem]) rfl ⟨rfl,((Below.refl _ _).alloc (Nat.le_refl _) _).alloc (by simp) _⟩
theorem zdw(x:Int)(h₀:0<=x)(h₁:x<4294967296):bits .and .u32 x 15=x % 16:=
 bits_mask .u32 32 (by decide) wraps_u32 4 (by decide) x h₀ (by omega)
theorem zgj(x:Int)(h₀:0<=x)(h₁:x<4294967296):bits .and .u32 x 3=x % 4:=
 bits_mask .u32 32 (by decide) wraps_u32 2 (by decide) x h₀ (by omega)
theorem BC(s:ByteArray)(w:World)(hs:s.size<=140737488351232)(h4:s.size % 4≠1):
    Calls Tryz.prog 188 #[.string s] w fun e w'=>e=.returned (.int .u32 (pI (ints s)))/\w=w':=by
 have HL:Hid ((ints s).length=s.size):=aM s
 by_cases h0:s.size % 4=0
 ·have h0':(s.size:Int) % 4=0:=by omega
  go_enter Tryz.func188,Tryz.ntmps188;go_wp2;go_ret;exact⟨qI (by unfold pI;rw[HL.out,if_neg (by omega),if_neg (by omega)]),rfl⟩
 have hg:=dt s (s.size - 1) (by omega);have cK:(0:Int)<=(s[s.size - 1].toNat:Int):=by omega
 have aL:(s[s.size - 1].toNat:Int)<=255:=by have:=s[s.size - 1].toNat_lt;omega
 have n0:=dC (s[s.size - 1].toNat:Int);have n1:=dD (s[s.size - 1].toNat:Int);have HG:Hid ((ints s).getD (s.size - 1) 0=(s[s.size - 1].toNat:Int)):=hg;clear hg
 by_cases h2:s.size % 4=2
 ·have Qs:(s.size:Int) % 4=2:=by omega
  go_enter Tryz.func188,Tryz.ntmps188;go_wp2_with(go_at_call 187;refine(lM _ _ (by omega) (by omega)).mono ?_;rintro e w' ⟨rfl,rfl⟩);go_ret;exact⟨qI (by unfold pI;rw[HL.out,if_pos h2,HG.out];exact zdw _ n0 (by omega)),rfl⟩
 ·have Qs:(s.size:Int) % 4=3:=by omega
  go_enter Tryz.func188,Tryz.ntmps188;go_wp2_with(go_at_call 187;refine(lM _ _ (by omega) (by omega)).mono ?_;rintro e w' ⟨rfl,rfl⟩);go_ret;exact⟨qI (by unfold pI;rw[HL.out,if_neg h2,if_pos (by omega),HG.out];exact zgj _ n0 (by omega)),rfl⟩
theorem yr{a b c d:Int}(h:a=c)(hp:b=d):Ending.returned (.tuple #[.int .i64 a,.int .i64 b])=.returned (.tuple #[.int .i64 c,.int .i64 d]):=by rw[h,hp]
theorem BD(s:ByteArray)(w:World)(hs:s.size<=140737488351232):
    Calls Tryz.prog 173 #[.string s] w fun e w'=>e=.returned (.tuple #[.int .i64 (mU (ints s)).1,.int .i64 (mU (ints s)).2])/\w=w':=by
 have HL:Hid ((ints s).length=s.size):=aM s;go_enter Tryz.func173,Tryz.ntmps173;go_wp2
 go_loop [9] (fun i=>∃k:Nat,k<=s.size/\i=.int .i64 k/\∀j,j<k->isLet ((ints s).getD j 0)=true) (fun i=>s.size - (intOf i).toNat)
 case atStart=>exact⟨0,Nat.zero_le _,rfl,fun j hj=>by omega⟩
 case round=>
  obtain⟨k,hk,rfl,fo⟩:=hrel;have HA:Hid (∀j,j<k->isLet ((ints s).getD j 0)=true):=fo;clear fo
  by_cases bQ:k<s.size
  ·have HG:Hid ((ints s).getD k 0=(s[k].toNat:Int)):=dt s k bQ;have aL:(s[k].toNat:Int)<=255:=by have:=s[k].toNat_lt;omega
   by_cases hb:isLet (s[k].toNat:Int)=true
   ·go_wp2_with(go_at_call 187;refine(lM _ _ (by omega) (by omega)).mono ?_;rintro e w' ⟨rfl,rfl⟩)
    go_round
    case rel=>exact⟨k+1,by omega,by go_num,fun j hj=>by
                          by_cases e:j=k
                          ·rw[e,HG.out];exact hb
                          ·exact HA.out j (by omega)⟩
    case measure=>simp[intOf];omega
   ·have Hd:isLet (s[k].toNat:Int)=false:=by simpa using hb
    clear hb;go_wp2_with(go_at_call 187;refine(lM _ _ (by omega) (by omega)).mono ?_;rintro e w' ⟨rfl,rfl⟩);go_ret2;have kV:=Mk (ints s) k (by rw[HL.out];exact bQ) HA.out (by rw[HG.out];exact Hd);exact⟨yr (by unfold mU;rw[kV,HL.out,if_pos bQ]) (by unfold mU;rw[kV,HL.out,if_pos bQ]),rfl⟩
  ·obtain rfl:k=s.size:=by omega
   have kV:Hid (yP (ints s)=s.size):=(Eu (ints s) (by rw[HL.out];exact HA.out)).trans HL.out
   by_cases h1:s.size % 4=1
   ·have ED:(s.size:Int) % 4=1:=by omega
    go_wp2;go_ret2;exact⟨yr (by unfold mU;rw[kV.out,HL.out,if_neg (by omega),if_pos h1]) (by unfold mU;rw[kV.out,HL.out,if_neg (by omega),if_pos h1]),rfl⟩
   ·have ED:¬(s.size:Int) % 4=1:=by omega
    by_cases Nu:pI (ints s)=0
    ·have hp:Hid (pI (ints s)=0):=Nu;go_wp2_with(go_at_call 188;refine(BC s _ hs (by omega)).mono ?_;rintro e w' ⟨rfl,rfl⟩);go_ret2;exact⟨yr (by unfold mU;rw[kV.out,HL.out,if_neg (by omega),if_neg h1,if_neg (by simp[hp.out])]) (by unfold mU;rw[kV.out,HL.out,if_neg (by omega),if_neg h1,if_neg (by simp[hp.out])]),rfl⟩
    ·go_wp2_with(go_at_call 188;refine(BC s _ hs (by omega)).mono ?_;rintro e w' ⟨rfl,rfl⟩);go_ret2;exact⟨yr (by unfold mU;rw[kV.out,HL.out,if_neg (by omega),if_neg h1,if_pos Nu]) (by unfold mU;rw[kV.out,HL.out,if_neg (by omega),if_neg h1,if_pos Nu]),rfl⟩
theorem Tryz.Ml:(Tryz.prog.info? 5).map (fun i=>(i.zero,i.size,i.bytes))=some (some (.int .u8 0),1,1):=by kernel_rfl
theorem Tryz.WQ:(Tryz.prog.info? 5).map (·.size)=some 1:=by kernel_rfl
def Rd(B:Nat)(w:World)(p:Option Addr)(c:Nat)(rs:List Int):Prop:=
 rs.length<=c/\(∀x∈rs,0<=x/\x<=255)/\∀j,j<rs.length->∃a,p=some a/\a.block<B/\w.cell? (a.add j)=some (.int .u8 (rs.getD j 0))
theorem yV(l:List Int):∀v∈l.map (Value.int .u8),v.oneCell'=true:=by
 intro v hv;simp only[List.mem_map]at hv;obtain⟨x,_,rfl⟩:=hv
 rfl
theorem Qt(rs:List Int):splice [Value.int .u8 0,.int .u8 0,.int .u8 0,.int .u8 0] 0 ((rs.take 4).map (Value.int .u8))= [.int .u8 (rs.getD 0 0),.int .u8 (rs.getD 1 0),.int .u8 (rs.getD 2 0),.int .u8 (rs.getD 3 0)]:=by
 match rs with
 | []=>rfl
 | [_]=>rfl
 | [_,_]=>rfl
 | [_,_,_]=>rfl
 | _::_::_::_::_=>simp[splice]
theorem yt{rs:List Int}(h:∀x∈rs,0<=x/\x<=255)(j:Nat):0<=rs.getD j 0/\rs.getD j 0<=255:=by
 rw[List.getD_eq_getElem?_getD]
 rcases Nat.lt_or_ge j rs.length with hj| hj
 ·rw[List.getElem?_eq_getElem hj];exact h _ (List.getElem_mem hj)
 ·rw[List.getElem?_eq_none hj];simp
theorem bB{w:World}{g t:Nat}{fr:Nat×Nat}{cur:List Value}(h:w.heap[g]?=some (.cells cur.toArray t fr))(j:Nat)(v:Value)(hj:cur[j]?=some v):w.cell? ⟨g,j,none⟩=some v:=by
 simp[World.cell?,h,hj]
theorem sizeOf5(w:World):(sizeOf 5).run Tryz.prog w=.ok 1 w:=by kernel_rfl
theorem Qu:Tryz.prog.elem 80=5:=by kernel_rfl
theorem Ij:Tryz.prog.arrayLen 188=3:=by kernel_rfl
theorem Mm:Tryz.prog.elem 188=5:=by kernel_rfl
theorem Ik(m:Nat)(hm:m<=3)(a:Addr)(wx:World):(Instr.sliceAt 188 (.pointer (some a)) none (some (.int .i64 (m:Int))) none).run Tryz.prog wx=.ok (.slice (some a) m 3) wx:=by
 rw[run_sliceAt_array_h wx 188 a (by rw[Ij,Mm];exact Tryz.underlying188) .i64 (m:Int) (by omega) (by rw[Ij];omega),Mm,sizeOf5,Ij];simp[Result.andThen,slicedAt,Addr.add]
theorem lJ{w:World}{B e size n:Nat}{v:Value}{xs:List Value}(h:w.ownsRow B e size v n xs):∀k,v.ownBlock=some k->B<=k:=by
 intro k hk
 rcases h.2 with⟨rfl,_⟩| ⟨g,cap,cur,rfl,hg,_⟩
 ·cases hk
 ·cases hk;exact hg
theorem jV(w:World)(L:List Int)(t n j:Nat)(u:Value)(h:((L.take n).map (Value.int .u8))[j]?=some u):
    (w.alloc (.cells (L.map (Value.int .u8)).toArray t)).cell? ((⟨w.heap.size,0,none⟩:Addr).add j)=some u:=by
 have e:(⟨w.heap.size,0,none⟩:Addr).add j=⟨w.heap.size,j,none⟩:=by unfold Addr.add;split<;>simp_all
 rw[e];refine bB (heap_alloc_new _ _) j u ?_;rw[List.getElem?_map,List.getElem?_take]at h
 split at h
 ·rw[List.getElem?_map];exact h
 ·cases h
def lenOf:Value->Nat
 | .slice _ n _=>n
 | _=>0
theorem CK(w:World)(ty g Il UH:Nat)(s:ByteArray)(cur:List Value)(t n:Nat)(hg:w.heap[g]?=some (.cells cur.toArray t (0,0)))(hn:n=min s.size Il)(Nv:n<=cur.length):
    (Builtin.copy_ #[80,9] ty #[.slice (some ⟨g,0,none⟩) Il UH,.string s]).run Tryz.prog w=
     .ok (goInt n) (w.setRow g (splice cur 0 (((ints s).take n).map (Value.int .u8))).toArray):=by
 have fw:(((ints s).take n).map (Value.int .u8)).length=n:=by simp[aM];omega
 have lG:=run_storeCells_at Tryz.prog g 0 t (((ints s).take n).map (Value.int .u8)) 0 cur.toArray w hg (by rw[fw];simpa using Nv) (yV _);have Yj:Nat.min s.size Il=n:=hn.symm;have Nw:List.take n (List.map (fun b:UInt8=>Value.int IntKind.u8 (b.toNat:Int)) s.data.toList)=((ints s).take n).map (Value.int .u8):=by
  simp[ints,List.map_take]
  rfl
 rw[fw]at lG;simp only[Nat.add_zero]at lG
 cases hq:Tryz.prog.info? 5 with
 | none=>have:=Tryz.WQ;simp[hq]at this
 | some i=>
  simp[Builtin.copy_,run_underlying Tryz.underlying80,Builtin.lenOf,Builtin.firstCells,sizeOf,typeInfo,hq,Yj];rw[Nw,lG];have hm:min n (ints s).length=n:=by rw[aM];omega
  simp[Result.andThen,splice,hm]
theorem x8{w:World}{bZ:Array Oper}{rest:List Oper}{o:Oper}{a:Act}{Q:Exit->Act->World->Prop}(tL:o.guard=none)(d s:Operand)
    (ho:o.op=.call {callee:=.builtin .copy,args:=#[d,s],argTypes:=#[80,9]})
    (g Il UH:Nat) (x:ByteArray) (hd:a.eval d=.slice (some ⟨g,0,none⟩) Il UH) (hs:a.eval s=.string x)
    (cur:List Value) (t:Nat) (hg:w.heap[g]?=some (.cells cur.toArray t (0,0))) (n:Nat) (hn:n=min x.size Il) (Nv:n<=cur.length) (B:Nat) (w0:World) (hb:Below B w0 w) (hBg:B<=g)
    (h:∀w',Hid (w'.heap[g]?=some (.cells (splice cur 0 (((ints x).take n).map (Value.int .u8))).toArray t (0,0)))->Below B w0 w'->wpList Tryz.prog bZ Q rest (a.put o.dst (goInt n)) w'):
    wpList Tryz.prog bZ Q (o::rest) a w:=by
 refine wpList_plain tL fun K hK=> ?_;have CL:=CK w o.type g Il UH x cur t n hg hn Nv;unfold Oper.wp;simp[execOp,ho,resolve,invoke,builtin,hd,hs,CL,Result.andThen];exact hK _ _ (h _ (show _=_ by rw[List.map_take];exact setRow_heap w g _ _ t _ hg) (below_setRow hb hBg _))
theorem qK{a b c d:Int}{v:Value}(h:a=c)(hp:b=d):Ending.returned (.tuple #[v,.int .i64 a,.int .i64 b])=.returned (.tuple #[v,.int .i64 c,.int .i64 d]):=by rw[h,hp]
theorem Im(s:ByteArray)(w:World)(hs:s.size<=140737488351232)(hf:(mU (ints s)).1≠0):
    Calls Tryz.prog 156 #[.string s] w fun e w'=>e=.returned (.tuple #[.slice none 0 0,.int .i64 (mU (ints s)).1,.int .i64 (mU (ints s)).2])/\Below w.heap.size w w':=by
 go_enter Tryz.func156,Tryz.ntmps156;go_wp2_with(go_at_call 173;refine(BD s _ hs).mono ?_;rintro e w' ⟨rfl,rfl⟩)
 go_ret3
 exact⟨qK rfl rfl,Below.refl _ _⟩
theorem Rest.cut(q:Option Addr)(l m g d:Nat)(hm:m<=l)(hq:0<l->q=some ⟨g,d,none⟩):
    ∃q',(∀wx,(Instr.slice 80 (.slice q l l) (some (.int .i64 (m:Int))) none none).run Tryz.prog wx=.ok (.slice q' (l - m) (l - m)) wx)/\(0<l - m->q'=some ⟨g,d+m,none⟩):=by
 refine⟨if l=m then q else q.map (·.add (m*1)),fun wx=> ?_,fun h=> ?_⟩
 ·rw[run_slice_l wx 80 q l l (by rw[Qu];exact Tryz.underlying80) .i64 (m:Int) (by omega) (by omega),Qu,sizeOf5];simp only[Result.andThen,Int.toNat_natCast,sliced]
 ·rw[if_neg (by omega),hq (by omega)];simp[Addr.add]
theorem yw{w:World}{B g n:Nat}{xs:List Value}(h:w.ownsRow B 5 1 (.slice (some ⟨g,0,none⟩) n n) n xs):w.heap[g]?=some (.cells xs.toArray 5 (0,0)):=by
 rcases h.2 with⟨h',_⟩| ⟨g',cap,cur,he,hg,yK,h1,h2,h3,h4⟩
 ·cases h'
 ·cases he
  rw[yK];have e:xs=cur.toList:=by rw[<-h4,List.take_of_length_le (by simp;omega)]
  rw[e]
theorem Ny(n:Nat):(madeCells #[Value.int .u8 0] n).toList=(List.replicate n (0:Int)).map (Value.int .u8):=by
 rw[toList_madeCells_one];simp
theorem EE(done news:List Int)(l:Nat):
    splice ((done++List.replicate l (0:Int)).map (Value.int .u8)) done.length (news.map (Value.int .u8))=((done++news)++List.replicate (l - news.length) (0:Int)).map (Value.int .u8):=by
 simp only[splice,List.map_append,List.length_map,List.append_assoc];rw[List.take_append_of_le_length (by simp),List.take_of_length_le (by simp),List.drop_append,List.drop_eq_nil_of_le (by simp),List.map_replicate,List.drop_replicate];simp
theorem EF(s:ByteArray)(w:World)(hs:s.size<=140737488351232)(hf:(mU (ints s)).1=0):
    Calls Tryz.prog 156 #[.string s] w fun e w'=>e=.returned (.tuple #[.slice (some ⟨w.heap.size,0,none⟩) (dec (ints s)).length (dec (ints s)).length,.int .i64 0,.int .i64 0])∧
     w'.heap[w.heap.size]?=some (.cells ((dec (ints s)).map (Value.int .u8)).toArray 5 (0,0))/\Below w.heap.size w w':=by
 obtain⟨i0,hi,rC,pR,nC⟩:=info_parts Tryz.Ml;have h4:s.size % 4≠1:=by have:=(Qk _ hf).2.1;rw[aM]at this;exact this
 obtain⟨L,hL⟩:∃L,L=(dec (ints s)).length:=⟨_,rfl⟩;have hl:((L:Nat):Int)=(s.size:Int) / 4*3+rA ((s.size:Int) % 4):=by rw[hL,sw,aM]
 have Ef:=UB ((s.size:Int) % 4) (by omega);have HL:Hid (L=(dec (ints s)).length):=hL;have HL':Hid (((L:Nat):Int)=(s.size:Int) / 4*3+rA ((s.size:Int) % 4)):=hl;have Nl:L<=140737488351232:=by omega
 rw[<-hL];clear hl hL;go_enter Tryz.func156,Tryz.ntmps156;go_wp2_with(first
  | (go_at_call 173;refine(BD s _ hs).mono ?_;rintro e w' ⟨rfl,rfl⟩)
  | (go_at_call 174;refine(w_ _ _ (by omega) (by omega)).mono ?_;rintro e w' ⟨rfl,rfl⟩)
  | (at_make;refine wpList_make_full _ rfl _ _ 80 rfl w.heap.size 5 i0 (.int .u8 0) 1 Tryz.underlying80 hi rC pR _ _ _ _ L rfl rfl ?b0 ?b1 ?b2 ?b3 (Nat.le_refl _) ?_))
 case b0=>exact HL'.out.symm
 case b1=>exact HL'.out.symm
 case b2=>rw[nC];omega
 case b3=>unfold maxLen;omega
 intro w1 aN mE;have aL:Below w.heap.size w w1:=(Below.refl _ _).grown mE (Nat.le_refl _) (by simp);have Hg:Hid (w1.heap[w.heap.size]?=some (.cells ((([]:List Int)++List.replicate L (0:Int)).map (Value.int .u8)).toArray 5 (0,0))):=by
  have:=yw aN;rw[Ny]at this;exact this
 clear aN mE;go_wp2
 go_loopw [0,8] (fun sv rv wr=>∃(t:ByteArray) (done:List Int) (q:Option Addr) (l:Nat),sv=.string t/\t.size<=s.size/\t.size % 4≠1/\dec (ints s)=done++dec (ints t)/\l=(dec (ints t)).length∧
     rv=.slice q l l/\(0<l->q=some ⟨w.heap.size,done.length,none⟩)/\wr.heap[w.heap.size]?=some (.cells ((done++List.replicate l (0:Int)).map (Value.int .u8)).toArray 5 (0,0))/\Below w.heap.size w wr)
  (fun _ rv _=>lenOf rv)
 case atStart=>exact⟨s, [],_,L,rfl,Nat.le_refl _,h4,rfl,HL.out,rfl,fun _=>rfl,Hg.out,aL⟩
 case round=>
  clear Hg aL;obtain⟨t,done,q,l,rfl,ht,ht4,pJ,hl,rfl,hq,kC,hb⟩:=hrel;have HD:Hid (dec (ints s)=done++dec (ints t)):=pJ;have vz:Hid (l=(dec (ints t)).length):=hl;have Qv:Hid (wr.heap[w.heap.size]?=some (.cells ((done++List.replicate l (0:Int)).map (Value.int .u8)).toArray 5 (0,0))):=kC;have HQ:Hid (0<l->q=some ⟨w.heap.size,done.length,none⟩):=hq;have Nz:0<l↔0<t.size:=by rw[hl,<-aM];exact UC _ (by rw[aM];exact ht4)
  clear pJ hl kC hq
  by_cases bQ:0<l
  ·have ht0:0<t.size:=Nz.1 bQ;obtain⟨m,hm⟩:∃m,m+1=min t.size 4:=⟨min t.size 4 - 1,by omega⟩;have Ic:1<=m:=by omega
   have TT:m<=3:=by omega
   obtain⟨a0,ha0⟩:∃a,(ints t).getD 0 0=a:=⟨_,rfl⟩;obtain⟨a1,ha1⟩:∃a,(ints t).getD 1 0=a:=⟨_,rfl⟩;obtain⟨a2,ha2⟩:∃a,(ints t).getD 2 0=a:=⟨_,rfl⟩;obtain⟨a3,ha3⟩:∃a,(ints t).getD 3 0=a:=⟨_,rfl⟩;have b0:0<=a0/\a0<=255:=ha0 ▸ yt (qH t) 0;have b1:0<=a1/\a1<=255:=ha1 ▸ yt (qH t) 1;have b2:0<=a2/\a2<=255:=ha2 ▸ yt (qH t) 2;have b3:0<=a3/\a3<=255:=ha3 ▸ yt (qH t) 3;have Mo:=Ql (ints t) m a0 a1 a2 a3 Ic (by rw[aM];exact hm) ha0 ha1 ha2 ha3;obtain⟨news,o9⟩:∃news,news= [bH a0*4+bH a1 / 16,bH a1 % 16*16+bH a2 / 4,bH a2 % 4*64+bH a3].take m:=⟨_,rfl⟩;have o_:news.length=m:=by rw[o9];simp;omega
   rw[<-o9]at Mo;have vO:l=m+(dec ((ints t).drop (m+1))).length:=by rw[vz.out,Mo];simp[o_]
   have AX:m<=l:=by omega
   have hS:splice [Value.int .u8 0,.int .u8 0,.int .u8 0,.int .u8 0] 0 (((ints t).take (m+1)).map (Value.int .u8))= [.int .u8 a0,.int .u8 a1,.int .u8 a2,.int .u8 a3]:=by
    have e3:(ints t).take (m+1)=(ints t).take 4:=by rw[hm];exact(List.take_eq_take_iff.2 (by rw[aM];omega))
    rw[e3,Qt,ha0,ha1,ha2,ha3]
   have HS:Hid (splice [Value.int .u8 0,.int .u8 0,.int .u8 0,.int .u8 0] 0 (((ints t).take (m+1)).map (Value.int .u8))= [.int .u8 a0,.int .u8 a1,.int .u8 a2,.int .u8 a3]):=hS;have qa:Hid (dec (ints t)=news++dec ((ints t).drop (m+1))):=Mo;have HN:Hid (news= [bH a0*4+bH a1 / 16,bH a1 % 16*16+bH a2 / 4,bH a2 % 4*64+bH a3].take m):=o9;have yX:Hid (news.length=m):=o_;have HM:Hid (m+1=min t.size 4):=hm;have HLM:Hid (l=m+(dec ((ints t).drop (m+1))).length):=vO;obtain⟨t',ht'⟩:∃t',t'=t.extract (m+1) t.size:=⟨_,rfl⟩;have lG:∀wx,(Instr.slice 9 (.string t) (some (.int .i64 ((m:Int)+1))) none none).run Tryz.prog wx=.ok (.string t') wx:=by
    intro wx;rw[run_slice_string_l wx 9 t Tryz.underlying9 .i64 ((m:Int)+1) (by omega) (by omega),ht']
    rfl
   have HT:Hid (ints t'=(ints t).drop (m+1)):=by
    have:=jA t (m+1);rw[<-ht']at this;exact this
   have hts:t'.size=t.size - (m+1):=by rw[<-aM,HT.out,List.length_drop,aM]
   have Hl:Hid (t'.size=t.size - (m+1)):=hts;obtain⟨q',hsl,hq'⟩:=Rest.cut q l m w.heap.size done.length AX HQ.out;have HQ':Hid (0<l - m->q'=some ⟨w.heap.size,done.length+m,none⟩):=hq';have zlH:=Ik m TT;clear hm ha0 ha1 ha2 ha3 Mo o9 o_ vO hS ht' hts hq';have hwb:Below wr.heap.size wr (wr.alloc (.cells #[.int .u8 0,.int .u8 0,.int .u8 0,.int .u8 0] 187)):=(Below.refl _ _).alloc (Nat.le_refl _) _;go_wp2_with(refine x8 rfl (.tmp 35) (.tmp 36) rfl wr.heap.size _ _ t rfl rfl [.int .u8 0,.int .u8 0,.int .u8 0,.int .u8 0] 187 ?c1 (m+1) ?c2 ?c3 wr.heap.size wr ?c4 ?c5 ?_)
   case c1=>exact heap_alloc_new _ _
   case c2=>exact HM.out
   case c3=>simp;omega
   case c4=>exact hwb
   case c5=>exact Nat.le_refl _
   intro w2 HG ko;have kC:=HG.out;rw[<-List.map_take,HS.out]at kC;have zlI:=bB kC 0 _ rfl;have zlJ:=bB kC 1 _ rfl;have zlK:=bB kC 2 _ rfl;have zlL:=bB kC 3 _ rfl;clear kC HG;obtain⟨cs,Io⟩:∃cs,cs=news.map (Value.int .u8):=⟨_,rfl⟩;have BF:cs.length=m:=by rw[Io,List.length_map,yX.out]
   have HCS:Hid (cs=news.map (Value.int .u8)):=Io;clear Io;obtain⟨cur,Ip⟩:∃cur,cur=(done++List.replicate l (0:Int)).map (Value.int .u8):=⟨_,rfl⟩;have Yk:Hid (cur=(done++List.replicate l (0:Int)).map (Value.int .u8)):=Ip;clear Ip;have NC:Hid (cs.length=m):=BF;go_wp2_with(first
    | (go_at_call 175;refine(Ii a0 a1 a2 a3 _ b0.1 b0.2 b1.1 b1.2 b2.1 b2.2 b3.1 b3.2).mono ?_;rintro e w3 ⟨rfl,Az⟩)
    | (go_at_call 174;refine(Ew _ _ (by omega) (by omega)).mono ?_;rintro e w4 ⟨rfl,rfl⟩)
    | (refine wpList_copy_splice rfl (.tmp 41) (.tmp 44) 80 80 rfl 5 Tryz.underlying80 Tryz.WQ _ _ _ _ _ _ rfl rfl w.heap.size done.length cur 5 ?d1 cs ?d2 ?d3 ?d4 ?d5 w.heap.size w ?d6 ?d7 ?_))
   case d1=>
    have hlr:w.heap.size<wr.heap.size:=(Array.getElem?_eq_some_iff.1 Qv.out).1;have ed:Below wr.heap.size wr w3:=ko.trans (Az.mono ko.size);rw[heap_alloc_old _ _ (by have:=ed.size;omega),ed.block _ hlr,Qv.out,Yk.out]
   case d2=>rw[NC.out];exact(Nat.min_eq_left AX).symm
   case d3=>
    intro _;refine⟨HQ.out bQ,_,rfl, ?_⟩;rw[HCS.out,HN.out];exact jV w3 [bH a0*4+bH a1 / 16,bH a1 % 16*16+bH a2 / 4,bH a2 % 4*64+bH a3] 188 m
   case d4=>rw[NC.out,Yk.out];simp;omega
   case d5=>rw[HCS.out];exact yV _
   case d6=>
    have df:Below w.heap.size w w3:=hb.trans ((ko.trans (Az.mono ko.size)).mono hb.size);exact df.alloc df.size _
   case d7=>exact Nat.le_refl _
   intro w5 HG5 iJ;clear ko Az;go_wp2;go_roundw
   case rel=>
    refine⟨t',done++news,q',l - m,rfl,by rw[Hl.out];omega,by rw[Hl.out];have:=HM.out;omega, ?_, ?_,rfl, ?_, ?_,iJ⟩
    ·rw[HD.out,qa.out,HT.out];simp
    ·rw[HT.out];have:=HLM.out;omega
    ·intro h;rw[HQ'.out h,List.length_append,yX.out]
    ·rw[HG5.out,Yk.out,HCS.out,EE,yX.out]
   case measure=>simp[lenOf];omega
  ·obtain rfl:l=0:=by omega
   have hd0:dec (ints t)= []:=List.eq_nil_of_length_eq_zero vz.out.symm;have HDD:Hid (dec (ints s)=done):=by
    have:=HD.out;rw[hd0,List.append_nil]at this;exact this
   clear hd0;go_wp2
   go_ret3
   refine⟨rfl, ?_,hb⟩;have:=Qv.out;rw[HDD.out];simpa using this
end Go.Proofs.YtldegjjaknelgaaGreatDoor.Id
namespace Go.Proofs.YtldegjjaknelgaaGreatDoor.Id
theorem Iq(a b c d:Int)(r:List Int):pI (a::b::c::d::r)=pI r:=by
 unfold pI
 cases r with
 | nil=>simp
 | cons x y=>
  have e:(a::b::c::d::x::y).length % 4=(x::y).length % 4:=by simp only[List.length_cons];omega
  have e2:(a::b::c::d::x::y).getD ((a::b::c::d::x::y).length - 1) 0=(x::y).getD ((x::y).length - 1) 0:=by simp[List.getD_eq_getElem?_getD]
  rw[e,e2]
end Go.Proofs.YtldegjjaknelgaaGreatDoor.Id
namespace Go.Proofs.YtldegjjaknelgaaGreatDoor.Id
open Go.RowKit
theorem Yl{w:World}{B:Nat}{v:Value}{L:List Int}(h:w.ownsRow B 5 1 v L.length (L.map (Value.int .u8)))(hL:∀x∈L,0<=x/\x<=255):∃q cq,v=.slice q L.length cq/\Rd w.heap.size w q cq L:=by
 rcases h.2 with⟨rfl,hn⟩| ⟨g,cap,cur,rfl,hg,yK,h1,h2,h3,h4⟩
 ·obtain rfl:L= []:=List.eq_nil_of_length_eq_zero hn;exact⟨none,0,rfl,Nat.le_refl _,hL,fun j hj=>by simp at hj⟩
 ·refine⟨_,cap,rfl,h1,hL,fun j hj=>⟨_,rfl,(Array.getElem?_eq_some_iff.1 yK).1, ?_⟩⟩;have e:(⟨g,0,none⟩:Addr).add j=⟨g,j,none⟩:=by unfold Addr.add;split<;>simp_all
  rw[e,h.cellAt j (by omega),List.getElem?_map,List.getElem?_eq_getElem hj,List.getD_eq_getElem?_getD,List.getElem?_eq_getElem hj]
  rfl
end Go.Proofs.YtldegjjaknelgaaGreatDoor.Id
namespace Go.Proofs.YtldegjjaknelgaaGreatDoor.Id
def nD(n:Int)(k:Nat):Int:=n / 2 ^ k % 2
def b6(n:Int):List Int:= [n / 32 % 2,n / 16 % 2,n / 8 % 2,n / 4 % 2,n / 2 % 2,n % 2]
theorem Qw(n:Int)(k:Nat):0<=nD n k/\nD n k<=1:=by unfold nD;omega
theorem Ym(z:Int)(u:Nat)(h:0<=z):0<=z / 2 ^ u/\z / 2 ^ u<=z:=by
 have hp:(0:Int)<2 ^ u:=Int.pow_pos (by decide);exact⟨Int.ediv_nonneg h (by omega),Int.ediv_le_self _ h⟩
theorem ND(n:Int)(h₀:0<=n)(h₁:n<2 ^ 63):IntKind.i64.wrap n=n:=by rw[IntKind.wrap_i64];omega
theorem UI(z:Int)(u:Nat)(h0:0<=z)(h1:z<=255):bits .and .i64 (z / 2 ^ u) 1=nD z u:=by
 have h:=Ym z u h0;exact bits_mask .i64 63 (by decide) ND 1 (by decide) (z / 2 ^ u) h.1 (by omega)
theorem UJ(z:Int)(j:Nat)(h:j<6):(b6 z).take (j+1)=(b6 z).take j++ [nD z (5 - j)]:=by
 match j,h with
 | 0,_=>simp[b6,nD]
 | 1,_=>simp[b6,nD]
 | 2,_=>simp[b6,nD]
 | 3,_=>simp[b6,nD]
 | 4,_=>simp[b6,nD]
 | 5,_=>simp[b6,nD]
theorem iE(zs:List Int)(k:Nat)(h:k<zs.length):zs.take (k+1)=zs.take k++ [zs.getD k 0]:=by
 rw[List.take_succ_eq_append_getElem h,List.getD_eq_getElem?_getD,List.getElem?_eq_getElem h]
 rfl
theorem kD{P:List Int}(h:∀x∈P,0<=x/\x<=1)(j:Nat):0<=P.getD j 0/\P.getD j 0<=1:=by
 rw[List.getD_eq_getElem?_getD]
 rcases Nat.lt_or_ge j P.length with hj| hj
 ·rw[List.getElem?_eq_getElem hj];exact h _ (List.getElem_mem hj)
 ·rw[List.getElem?_eq_none hj];simp
def eight:List Int->List Int
 | x0::x1::x2::x3::x4::x5::x6::x7::r=>(2*(2*(2*(2*(2*(2*(2*x0+x1)+x2)+x3)+x4)+x5)+x6)+x7)::eight r
 | _=> []
def gT(zs:List Int):List Int:=zs.flatMap fun z=>b6 (bH z)
theorem uf(zs:List Int):(gT zs).length=6*zs.length:=by
 induction zs with
 | nil=>rfl
 | cons z r ih=>simp only[gT,List.flatMap_cons,List.length_append,List.length_cons]at ih ⊢;rw[ih];simp[b6];omega
theorem Ir(l:List Int)(z:Int):gT (l++ [z])=gT l++b6 (bH z):=by simp[gT]
theorem Qx(zs:List Int):∀x∈gT zs,0<=x/\x<=1:=by
 intro x hx;simp only[gT,List.mem_flatMap]at hx;obtain⟨z,_,hz⟩:=hx;simp only[b6,List.mem_cons,List.not_mem_nil,or_false]at hz;omega
theorem Iu(P:List Int)(m:Nat)(x0 x1 x2 x3 x4 x5 x6 x7:Int)(h:m+8<=P.length)(h0:P.getD m 0=x0)(h1:P.getD (m+1) 0=x1)(h2:P.getD (m+2) 0=x2)(h3:P.getD (m+3) 0=x3)(h4:P.getD (m+4) 0=x4)(h5:P.getD (m+5) 0=x5)(h6:P.getD (m+6) 0=x6)(h7:P.getD (m+7) 0=x7):
    eight (P.drop m)=(2*(2*(2*(2*(2*(2*(2*x0+x1)+x2)+x3)+x4)+x5)+x6)+x7)::eight (P.drop (m+8)):=by
 have e:P.drop m=x0::x1::x2::x3::x4::x5::x6::x7::P.drop (m+8):=by
  rw[List.drop_eq_getElem_cons (by omega),List.drop_eq_getElem_cons (by omega),List.drop_eq_getElem_cons (by omega),List.drop_eq_getElem_cons (by omega),List.drop_eq_getElem_cons (by omega),List.drop_eq_getElem_cons (by omega),List.drop_eq_getElem_cons (by omega),List.drop_eq_getElem_cons (by omega)];rw[List.getD_eq_getElem?_getD,List.getElem?_eq_getElem (by omega)]at h0 h1 h2 h3 h4 h5 h6 h7;simp only[Option.getD_some]at h0 h1 h2 h3 h4 h5 h6 h7;rw[h0,h1,h2,h3,h4,h5,h6,h7]
 rw[e,eight]
theorem EG(P:List Int)(h:P.length<8):eight P= []:=by
 unfold eight
 split
 ·simp at h;omega
 ·rfl
theorem NF(zs:List Int)(h4:zs.length % 4≠1):eight (gT zs)=dec zs:=by
 induction zs using dec.induct with
 | case1=>rfl
 | case2 a=>simp at h4
 | case3 a b=>
  have:=dC a;have:=dD a;have:=dC b;have:=dD b;simp only[gT,List.flatMap_cons,List.flatMap_nil,b6,List.append_nil,List.cons_append,List.nil_append,eight,dec]
  congr 1;omega
 | case4 a b c=>
  have:=dC a;have:=dD a;have:=dC b;have:=dD b;have:=dC c;have:=dD c;simp only[gT,List.flatMap_cons,List.flatMap_nil,b6,List.append_nil,List.cons_append,List.nil_append,eight,dec]
  congr 1
  ·omega
  ·congr 1;omega
 | case5 a b c d r ih=>
  have:=dC a;have:=dD a;have:=dC b;have:=dD b;have:=dC c;have:=dD c;have:=dC d;have:=dD d;have ih':=ih (by simp only[List.length_cons]at h4;omega);simp only[gT,List.flatMap_cons,b6,dec]at ih' ⊢;simp only[List.cons_append,List.nil_append,eight];rw[ih']
  congr 1
  ·omega
  ·congr 1
   ·omega
   ·congr 1;omega
theorem NG(zs:List Int)(h4:zs.length % 4≠1):(∀x∈(gT zs).drop (8*(dec zs).length),x=0)↔pI zs=0:=by
 induction zs using dec.induct with
 | case1=>simp[gT,pI]
 | case2 a=>simp at h4
 | case3 a b=>
  have:=dC b;have:=dD b;simp only[gT,List.flatMap_cons,List.flatMap_nil,b6,List.append_nil,List.cons_append,List.nil_append,dec,List.length_cons,List.length_nil,Nat.zero_add,Nat.mul_one,List.drop_succ_cons,List.drop_zero];simp[pI];omega
 | case4 a b c=>
  have:=dC c;have:=dD c;simp only[gT,List.flatMap_cons,List.flatMap_nil,b6,List.append_nil,List.cons_append,List.nil_append,dec,List.length_cons,List.length_nil,Nat.zero_add,Nat.reduceAdd,Nat.reduceMul,List.drop_succ_cons,List.drop_zero];simp[pI];omega
 | case5 a b c d r ih=>
  have ih':=ih (by simp only[List.length_cons]at h4;omega);rw[Iq,<-ih'];have e:(gT (a::b::c::d::r)).drop (8*(dec (a::b::c::d::r)).length)=(gT r).drop (8*(dec r).length):=by
   simp only[gT,List.flatMap_cons,b6,dec,List.length_cons,List.cons_append,List.nil_append];rw[show 8*((dec r).length+1+1+1)=8*(dec r).length+24 by omega];simp only[List.drop_succ_cons]
  rw[e]
end Go.Proofs.YtldegjjaknelgaaGreatDoor.Id
namespace Go.Proofs.YtldegjjaknelgaaGreatDoor.Id
open Go.RowKit
theorem Tryz.Mq:(Tryz.prog.info? 3).map (fun i=>(i.zero,i.size,i.bytes))=some (some (.int .i64 0),1,8):=by kernel_rfl
theorem jW(n:Int)(w:World)(h0:0<=n)(h1:n<=63):
    Calls Tryz.prog 129 #[.int .i64 n] w fun e w'=>e=.returned (.int .u8 (Mj n))/\w=w':=by
 have x1:=UG .i64 n h0 h1;go_enter Tryz.func129,Tryz.ntmps129;go_wp2;go_ret;exact⟨rfl,rfl⟩
theorem xg{w:World}{bZ:Array Oper}{rest:List Oper}{o:Oper}{a:Act}{Q:Exit->Act->World->Prop}(tL:o.guard=none)(s x:Operand)(t e:TypeId)(k:IntKind)(bytes:Nat)
    (ho:o.op=.call {callee:=.builtin .append,args:=#[s,x],argTypes:=#[t,t]}) (ht:Tryz.prog.underlying t=some (.slice e))
    (ug:(Tryz.prog.info? e).map (fun i=>(i.zero,i.size,i.bytes))=some (some (.int k 0),1,bytes)) (Ef:bytes<=8)
    (fB:Nat) (v:Value) (L:List Int) (hs:a.eval s=v) (aN:w.ownsRow fB e 1 v L.length (L.map (Value.int k)))
    (ad:Addr) (y:Int) (hx:a.eval x=.slice (some ad) 1 1) (hc:w.cell? ad=some (.int k y)) (fw:L.length<=1000000000) (mF:fB<=w.heap.size)
    (h:∀v' w',w'.ownsRow fB e 1 v' (L++ [y]).length ((L++ [y]).map (Value.int k))->Below fB w w'->wpList Tryz.prog bZ Q rest (a.put o.dst v') w'):wpList Tryz.prog bZ Q (o::rest) a w:=by
 obtain⟨i0,hi,rC,pR,nC⟩:=info_parts ug;refine wpList_append_own w tL s x t ho fB e i0 (.int k 0) 1 bytes ht hi rC pR nC rfl (by decide) v L.length (L.map (Value.int k)) hs aN ad 1 1 [.int k y] hx rfl (fun j u hj=> ?_) (fun u hu=> ?_) (by unfold maxLen;omega) ?_ mF ?_
 ·match j,hj with
  | 0,hj=>simp at hj;subst hj;simpa [Addr.add]using hc
 ·simp at hu;subst hu;rfl
 ·have:(L.length+1)*bytes<=(L.length+1)*8:=Nat.mul_le_mul_left _ Ef;omega
 ·intro v' w' uh mE _;exact h v' w' (by rw[List.length_append,List.map_append];exact uh) ((Below.refl _ _).grown mE mF (lJ aN))
def RdI(w:World)(p:Option Addr)(P:List Int):Prop:=∀j,j<P.length->∃g,p=some ⟨g,0,none⟩/\g<w.heap.size/\w.cell? ⟨g,j,none⟩=some (.int .i64 (P.getD j 0))
theorem UK{w:World}{B:Nat}{v:Value}{L:List Int}(h:w.ownsRow B 3 1 v L.length (L.map (Value.int .i64))):∃q cq,v=.slice q L.length cq/\RdI w q L:=by
 rcases h.2 with⟨rfl,hn⟩| ⟨g,cap,cur,rfl,hg,yK,h1,h2,h3,h4⟩
 ·obtain rfl:L= []:=List.eq_nil_of_length_eq_zero hn;exact⟨none,0,rfl,fun j hj=>by simp at hj⟩
 ·refine⟨_,cap,rfl,fun j hj=>⟨g,rfl,(Array.getElem?_eq_some_iff.1 yK).1, ?_⟩⟩;rw[h.cellAt j (by omega),List.getElem?_map,List.getElem?_eq_getElem hj,List.getD_eq_getElem?_getD,List.getElem?_eq_getElem hj]
  rfl
theorem RdI.at{w w':World}{q:Option Addr}{P:List Int}(h:RdI w q P)(hb:Below w.heap.size w w')(m:Nat)(hm:m<P.length):∃g,q=some ⟨g,0,none⟩/\∀j x,m+j<P.length->P.getD (m+j) 0=x->w'.cell? ⟨g,m+j,none⟩=some (.int .i64 x):=by
 obtain⟨g,ha,_,_⟩:=h m hm;refine⟨g,ha,fun j x hj hx=> ?_⟩;obtain⟨g',WR,hB,hc⟩:=h (m+j) hj;obtain rfl:g=g':=by rw[ha]at WR;cases WR;rfl
 rw[hb.cell (by exact hB),hc,hx]
theorem Qy(c:Int)(h:∀j:Nat,j<64->Mj j≠c):num c= -1:=by
 have h1:=Ye c;have h2:=Ib c
 by_cases hn:0<=num c
 ·have:=h (num c).toNat (by omega);rw[show((num c).toNat:Int)=num c by omega]at this;exact absurd (Uz c hn) this
 ·omega
theorem rG(c:Int)(w:World):
    Calls Tryz.prog 101 #[.int .u8 c] w fun e w'=>e=.returned (.int .i64 (num c))/\w=w':=by
 go_enter Tryz.func101,Tryz.ntmps101;go_wp2
 go_loop [3] (fun i=>∃k:Nat,k<=64/\i=.int .i64 k/\∀j:Nat,j<k->Mj j≠c) (fun i=>64 - (intOf i).toNat)
 case atStart=>exact⟨0,by omega,rfl,fun j hj=>by omega⟩
 case round=>
  obtain⟨k,hk,rfl,fo⟩:=hrel;have HA:Hid (∀j:Nat,j<k->Mj j≠c):=fo;clear fo
  by_cases bQ:k<64
  ·by_cases hc:Mj k=c
   ·have HN:Hid (num c=k):=by
      have:num c=k:=by rw[<-hc];exact UA k (by omega) (by omega)
      exact this
    have Eg:(Mj k==c)=true:=by simp[hc]
    clear hc;go_wp2_with(go_at_call 129;refine(jW _ _ (by omega) (by omega)).mono ?_;rintro e w' ⟨rfl,rfl⟩);go_ret;exact⟨qI HN.out.symm,rfl⟩
   ·have Eg:(Mj k==c)=false:=by simp[hc]
    have HC:Hid (Mj k≠c):=hc;clear hc;go_wp2_with(go_at_call 129;refine(jW _ _ (by omega) (by omega)).mono ?_;rintro e w' ⟨rfl,rfl⟩)
    go_round
    case rel=>exact⟨k+1,by omega,by go_num,fun j hj=>by
                          by_cases e:j=k
                          ·rw[e];exact HC.out
                          ·exact HA.out j (by omega)⟩
    case measure=>simp[intOf];omega
  ·obtain rfl:k=64:=by omega
   have HN:Hid (num c= -1):=Qy c HA.out;go_wp2;go_ret;exact⟨qI HN.out.symm,rfl⟩
theorem NH(c:Int):(isLet c=true/\0<=num c/\bH c=num c)\/ (isLet c=false/\num c<0):=by
 unfold isLet bH
 by_cases h:0<=num c
 ·left;simp[h]
 ·right;simp[h];omega
theorem rH(s:ByteArray)(w:World)(hs:s.size<=5000):
    Calls Tryz.prog 73 #[.string s] w fun e w'=>((mU (ints s)).1≠0/\e=.returned (.tuple #[.slice none 0 0,.int .i64 (mU (ints s)).1,.int .i64 (mU (ints s)).2])∨
     (mU (ints s)).1=0/\∃q cq,e=.returned (.tuple #[.slice q (dec (ints s)).length cq,.int .i64 0,.int .i64 0])/\Rd w'.heap.size w' q cq (dec (ints s)))/\Below w.heap.size w w':=by
 have vB:Hid ((ints s).length=s.size):=aM s;go_enter Tryz.func73,Tryz.ntmps73;go_wp2
 go_loopw [5,6] (fun v i wr=>∃k:Nat,k<=s.size/\i=.int .i64 k/\(∀j,j<k->isLet ((ints s).getD j 0)=true)/\wr.ownsRow w.heap.size 3 1 v (gT ((ints s).take k)).length ((gT ((ints s).take k)).map (Value.int .i64))/\Below w.heap.size w wr)
  (fun _ i _=>s.size - (intOf i).toNat)
 case atStart=>exact⟨0,Nat.zero_le _,rfl,fun j hj=>by omega,World.ownsRow_nil _ _ _ _,Below.refl _ _⟩
 case round=>
  obtain⟨k,hk,rfl,fo,aN,hb⟩:=hrel;have HA:Hid (∀j,j<k->isLet ((ints s).getD j 0)=true):=fo;clear fo
  by_cases bQ:k<s.size
  ·have HG:Hid ((ints s).getD k 0=(s[k].toNat:Int)):=dt s k bQ;obtain⟨z,hz⟩:∃z,num (s[k].toNat:Int)=z:=⟨_,rfl⟩;have zlM:z<=63:=by rw[<-hz];exact Ib _
   rcases NH (s[k].toNat:Int)with⟨hl,hn,h0⟩| ⟨hl,hn⟩
   ·have rC:0<=z:=by rw[<-hz];exact hn
    have HL:Hid (isLet (s[k].toNat:Int)=true):=hl;have HN0:Hid (bH (s[k].toNat:Int)=z):=by
     have:bH (s[k].toNat:Int)=z:=h0.trans hz;exact this
    obtain⟨D,hD⟩:∃D,D=gT ((ints s).take k):=⟨_,rfl⟩;rw[<-hD]at aN;have HD:Hid (D=gT ((ints s).take k)):=hD;have hDl:D.length<=6*k:=by rw[hD,uf];simp;omega
    have HDL:Hid (D.length<=6*k):=hDl;clear hl hn h0 hD hDl;go_wp2_with(go_at_call 101;refine(rG _ _).mono ?_;rintro e w' ⟨rfl,rfl⟩)
    go_loopw [5,8] (fun v i wx=>∃t:Nat,t<=6/\i=.int .i64 ((t:Int) - 1)/\wx.ownsRow w.heap.size 3 1 v (D++(b6 z).take (6 - t)).length ((D++(b6 z).take (6 - t)).map (Value.int .i64))/\Below w.heap.size w wx)
     (fun _ i _=>(intOf i+1).toNat)
    case atStart=>exact⟨6,Nat.le_refl _,rfl,by simpa using aN,hb⟩
    case round=>
     clear aN hb;obtain⟨t,ht,rfl,aN,hb⟩:=hrel
     by_cases htp:0<t
     ·obtain⟨u,rfl⟩:∃u,t=u+1:=⟨t - 1,by omega⟩;have zlN:=UI z u rC (by omega);have xh:=Qw z u;have HT:Hid ((b6 z).take (6 - u)=(b6 z).take (6 - (u+1))++ [nD z u]):=by
       have:=UJ z (6 - (u+1)) (by omega);rw[show 6 - (u+1)+1=6 - u by omega,show 5 - (6 - (u+1))=u by omega]at this;exact this
      go_wp2_with(at_builtin;refine xg rfl (.tmp 31) (.tmp 36) 121 3 .i64 8 rfl Tryz.underlying121 Tryz.Mq (by decide) w.heap.size _ (D++(b6 z).take (6 - (u+1))) rfl ?a0 _ (nD z u) rfl ?a1 ?a2 ?a3 ?_)
      case a0=>exact aN.alloc _
      case a1=>exact bB (cur:= [_]) (heap_alloc_new _ _) 0 _ rfl
      case a2=>have:=HDL.out;rw[List.length_append,List.length_take];omega
      case a3=>have:=hb.size;simp;omega
      intro v' w' uh Hd;have hB':Below w.heap.size w w':=(hb.alloc hb.size _).trans Hd;clear aN hb Hd;go_wp2;go_roundw
      case rel=>exact⟨u,by omega,by go_num,by rw[HT.out,<-List.append_assoc];simpa using uh,hB'⟩
      case measure=>simp[intOf]
     ·obtain rfl:t=0:=by omega
      go_wp2;go_roundw
      case rel=>
       refine⟨k+1,by omega,by go_num, ?_, ?_,hb⟩
       ·intro j hj
        by_cases e:j=k
        ·rw[e,HG.out];exact HL.out
        ·exact HA.out j (by omega)
       ·have e:gT ((ints s).take (k+1))=D++b6 z:=by rw[iE (ints s) k (by rw[vB.out];exact bQ),Ir,HG.out,HN0.out,HD.out]
        rw[e];have e6:(b6 z).take (6 - 0)=b6 z:=rfl;rw[e6]at aN;exact aN
      case measure=>simp[intOf];omega
   ·have rC:z<0:=by rw[<-hz];exact hn
    have kV:=Mk (ints s) k (by rw[vB.out];exact bQ) HA.out (by rw[HG.out];exact hl);have HF:Hid (mU (ints s)=(20,(k:Int))):=by
     have:mU (ints s)=(20,(k:Int)):=by unfold mU;rw[kV,vB.out,if_pos bQ]
     exact this
    clear hl hn kV;go_wp2_with(go_at_call 101;refine(rG _ _).mono ?_;rintro e w' ⟨rfl,rfl⟩)
    go_ret3
    refine⟨.inl ⟨by rw[HF.out];simp, ?_⟩,hb⟩;rw[HF.out];exact qK rfl rfl
  ·obtain rfl:k=s.size:=by omega
   have kV:Hid (yP (ints s)=s.size):=(Eu (ints s) (by rw[vB.out];exact HA.out)).trans vB.out
   rename World=>wb
   have WS:(ints s).take s.size=ints s:=List.take_of_length_le (by rw[vB.out];exact Nat.le_refl _);rw[WS]at aN;obtain⟨L,hL⟩:∃L,L=gT (ints s):=⟨_,rfl⟩;rw[<-hL]at aN;have HL:Hid (L=gT (ints s)):=hL;have hLl:L.length=6*s.size:=by rw[hL,uf,vB.out]
   have vz:Hid (L.length=6*s.size):=hLl;have zlO:L.length<=30000:=by omega
   clear WS hL hLl
   by_cases h1:s.size % 4=1
   ·have ED:(s.size:Int) % 4=1:=by omega
    have hf:mU (ints s)=(22,(s.size:Int)):=by unfold mU;rw[kV.out,vB.out,if_neg (by omega),if_pos h1]
    have HF:Hid (mU (ints s)=(22,(s.size:Int))):=hf;clear hf;go_wp2
    go_ret3
    refine⟨.inl ⟨by rw[HF.out];simp, ?_⟩,hb⟩;rw[HF.out];exact qK rfl rfl
   ·have h1b:((s.size:Int) % 4==1)=false:=by simp;omega
    have HED:Hid (eight L=dec (ints s)):=by
     have:=NF (ints s) (by rw[vB.out];exact h1);rw[<-HL.out]at this;exact this
    have Hl:Hid ((∀x∈L.drop (8*(dec (ints s)).length),x=0)↔pI (ints s)=0):=by
     have:=NG (ints s) (by rw[vB.out];exact h1);rw[<-HL.out]at this;exact this
    have hLb:∀x∈L,0<=x/\x<=1:=by rw[HL.out];exact Qx (ints s)
    have WT:Hid (∀x∈L,0<=x/\x<=1):=hLb;obtain⟨q,cq,rfl,zdx⟩:=UK aN;clear hLb aN;go_wp2
    go_loopw [9,10] (fun v i wx=>∃(m:Nat) (done:List Int),m<=L.length/\m=8*done.length/\i=.int .i64 m/\eight L=done++eight (L.drop m)∧
        wx.ownsRow wb.heap.size 5 1 v done.length (done.map (Value.int .u8))/\Below wb.heap.size wb wx)
     (fun _ i _=>L.length - (intOf i).toNat)
    case atStart=>exact⟨0, [],Nat.zero_le _,rfl,rfl,rfl,World.ownsRow_nil _ _ _ _,Below.refl _ _⟩
    case round=>
     obtain⟨m,done,hm,hm8,rfl,zdy,aN,Eh⟩:=hrel;have HSX:Hid (eight L=done++eight (L.drop m)):=zdy;have HM8:Hid (m=8*done.length):=hm8;have hdl:done.length<=30000:=by omega
     clear zdy hm8
     by_cases bQ:m+8<=L.length
     ·obtain⟨g,rfl,gu⟩:=zdx.at Eh m (by omega);obtain⟨x0,AY⟩:∃x,L.getD m 0=x:=⟨_,rfl⟩;obtain⟨x1,Iw⟩:∃x,L.getD (m+1) 0=x:=⟨_,rfl⟩;obtain⟨x2,PZ⟩:∃x,L.getD (m+2) 0=x:=⟨_,rfl⟩;obtain⟨x3,TU⟩:∃x,L.getD (m+3) 0=x:=⟨_,rfl⟩;obtain⟨x4,hx4⟩:∃x,L.getD (m+4) 0=x:=⟨_,rfl⟩;obtain⟨x5,hx5⟩:∃x,L.getD (m+5) 0=x:=⟨_,rfl⟩;obtain⟨x6,hx6⟩:∃x,L.getD (m+6) 0=x:=⟨_,rfl⟩;obtain⟨x7,NI⟩:∃x,L.getD (m+7) 0=x:=⟨_,rfl⟩;have b0:0<=x0/\x0<=1:=AY ▸ kD WT.out m;have b1:0<=x1/\x1<=1:=Iw ▸ kD WT.out (m+1);have b2:0<=x2/\x2<=1:=PZ ▸ kD WT.out (m+2);have b3:0<=x3/\x3<=1:=TU ▸ kD WT.out (m+3);have b4:0<=x4/\x4<=1:=hx4 ▸ kD WT.out (m+4);have b5:0<=x5/\x5<=1:=hx5 ▸ kD WT.out (m+5);have b6:0<=x6/\x6<=1:=hx6 ▸ kD WT.out (m+6);have b7:0<=x7/\x7<=1:=NI ▸ kD WT.out (m+7);have c0:=gu 0 x0 (by omega) AY;rw[Nat.add_zero]at c0;have c1:=gu 1 x1 (by omega) Iw;have c2:=gu 2 x2 (by omega) PZ;have c3:=gu 3 x3 (by omega) TU;have c4:=gu 4 x4 (by omega) hx4;have c5:=gu 5 x5 (by omega) hx5;have c6:=gu 6 x6 (by omega) hx6;have c7:=gu 7 x7 (by omega) NI;have qa:Hid (eight (L.drop m)=(2*(2*(2*(2*(2*(2*(2*x0+x1)+x2)+x3)+x4)+x5)+x6)+x7)::eight (L.drop (m+8))):=Iu L m x0 x1 x2 x3 x4 x5 x6 x7 bQ AY Iw PZ TU hx4 hx5 hx6 NI;clear AY Iw PZ TU hx4 hx5 hx6 NI gu;go_wp2;refine wp_loop_rounds 9 ?_
      iterate 8 (rw[rounds_succ];go_wp2)
      rw[rounds_succ];go_wp2_with(at_builtin;refine xg rfl (.tmp 64) (.tmp 67) 80 5 .u8 1 rfl Tryz.underlying80 Tryz.Ml (by decide) wb.heap.size _ done rfl ?a0 _ (2*(2*(2*(2*(2*(2*(2*x0+x1)+x2)+x3)+x4)+x5)+x6)+x7) rfl ?a1 ?a2 ?a3 ?_)
      case a0=>exact aN.alloc _
      case a1=>exact bB (cur:= [_]) (heap_alloc_new _ _) 0 _ rfl
      case a2=>omega
      case a3=>have:=Eh.size;simp;omega
      intro v' w' uh Hd;have hB':Below wb.heap.size wb w':=(Eh.alloc Eh.size _).trans Hd;clear aN Eh Hd c0 c1 c2 c3 c4 c5 c6 c7;go_wp2;go_roundw
      case rel=>
       have R:∃(m':Nat) (Mr:List Int),m'<=L.length/\m'=8*Mr.length/\Value.int .i64 ((m:Int)+8)=.int .i64 m'/\eight L=Mr++eight (L.drop m')∧
           w'.ownsRow wb.heap.size 5 1 v' Mr.length (Mr.map (Value.int .u8))/\Below wb.heap.size wb w':=by
        refine⟨m+8,done++ [2*(2*(2*(2*(2*(2*(2*x0+x1)+x2)+x3)+x4)+x5)+x6)+x7],by omega,by have:=HM8.out;simp;omega,by go_num, ?_,by simpa using uh,hB'⟩;rw[HSX.out,qa.out];simp
       first| exact R| ((repeat apply Exists.intro);exact⟨R,rfl⟩)
      case measure=>simp[intOf];omega
     ·have hdn:done=dec (ints s):=by
        have:=HSX.out;rw[HED.out,EG (L.drop m) (by simp;omega)]at this;simpa using this.symm
      have HDN:Hid (done=dec (ints s)):=hdn;have hm8:=HM8.out;obtain⟨q2,cq2,rfl,hrq⟩:=Yl aN (by rw[hdn];exact Yf _);have h8:8*(done.length:Int)=m:=by omega
      clear hdn aN hm8;have hdb:decide ((m:Int)+8<=(L.length:Int))=false:=by simp;omega
      go_wp2
      go_loop [13] (fun i=>∃k:Nat,m<=k/\k<=L.length/\i=.int .i64 k/\∀j,m<=j->j<k->L.getD j 0=0) (fun i=>L.length - (intOf i).toNat)
      case atStart=>exact⟨m,Nat.le_refl _,hm,rfl,fun j h1 h2=>by omega⟩
      case round=>
       obtain⟨k,P5,eQ,rfl,fo⟩:=hrel;have HZ:Hid (∀j,m<=j->j<k->L.getD j 0=0):=fo;have Yn:Hid (8*(dec (ints s)).length=m):=by
        have:=HM8.out;rw[HDN.out]at this;exact this.symm
       clear fo
       by_cases vC:k<L.length
       ·obtain⟨g,rfl,gu⟩:=zdx.at Eh k vC;obtain⟨x,hx⟩:∃x,L.getD k 0=x:=⟨_,rfl⟩;have c0:=gu 0 x (by omega) hx;rw[Nat.add_zero]at c0;have HX:Hid (L.getD k 0=x):=hx;clear hx gu
        by_cases AY:x=0
        ·subst AY;go_wp2
         go_round
         case rel=>exact⟨k+1,by omega,by omega,by go_num,fun j h1 h2=>by
                               by_cases e:j=k
                               ·rw[e];exact HX.out
                               ·exact HZ.out j h1 (by omega)⟩
         case measure=>simp[intOf];omega
        ·have hxb:(x !=0)=true:=by simp[AY]
         have hf:mU (ints s)=(21,(s.size:Int) - 1):=by
          have Nu:pI (ints s)≠0:=by
           intro h;have:=Hl.out.2 h (L.getD k 0) (by
            rw[Yn.out,List.getD_eq_getElem?_getD,List.getElem?_eq_getElem vC];simp only[Option.getD_some];have e:L[k]=(L.drop m)[k - m]'(by simp;omega):=by simp[Nat.add_sub_cancel' P5]
            rw[e];exact List.getElem_mem _)
           rw[HX.out]at this;exact AY this
          unfold mU;rw[kV.out,vB.out,if_neg (by omega),if_neg h1,if_pos Nu]
         have HF:Hid (mU (ints s)=(21,(s.size:Int) - 1)):=hf;clear hf AY;go_wp2
         go_ret3
         refine⟨.inl ⟨by rw[HF.out];simp, ?_⟩,hb.trans (Eh.mono hb.size)⟩;rw[HF.out];exact qK rfl rfl
       ·have hf:mU (ints s)=(0,0):=by
          have Nu:pI (ints s)=0:=by
           refine Hl.out.1 fun x hx=> ?_;rw[Yn.out]at hx;obtain⟨i,hi,rfl⟩:=List.mem_iff_getElem.1 hx;have hi':m+i<L.length:=by simp at hi;omega
           have:=HZ.out (m+i) (by omega) (by omega);rw[List.getD_eq_getElem?_getD,List.getElem?_eq_getElem hi']at this;simpa using this
          unfold mU;rw[kV.out,vB.out,if_neg (by omega),if_neg h1,if_neg (by simp[Nu])]
        have HF:Hid (mU (ints s)=(0,0)):=hf;clear hf;go_wp2
        go_ret3
        refine⟨.inr ⟨by rw[HF.out],q2,cq2, ?_, ?_⟩,hb.trans (Eh.mono hb.size)⟩
        ·rw[<-HDN.out];rfl
        ·rw[<-HDN.out];exact hrq
theorem AZ(s:ByteArray)(w:World)(hs:s.size<=5000)(hf:(mU (ints s)).1≠0):
    Calls Tryz.prog 73 #[.string s] w fun e w'=>e=.returned (.tuple #[.slice none 0 0,.int .i64 (mU (ints s)).1,.int .i64 (mU (ints s)).2])/\Below w.heap.size w w':=by
 refine(rH s w hs).mono fun e w' ⟨h,hb⟩=> ?_
 rcases h with⟨_,h⟩| ⟨h,_⟩
 ·exact⟨h,hb⟩
 ·exact absurd h hf
theorem yY(s:ByteArray)(w:World)(hs:s.size<=5000)(hf:(mU (ints s)).1=0):
    Calls Tryz.prog 73 #[.string s] w fun e w'=>∃q cq,e=.returned (.tuple #[.slice q (dec (ints s)).length cq,.int .i64 0,.int .i64 0])/\Rd w'.heap.size w' q cq (dec (ints s))/\Below w.heap.size w w':=by
 refine(rH s w hs).mono fun e w' ⟨h,hb⟩=> ?_
 rcases h with⟨h,_⟩| ⟨_,q,cq,h1,h2⟩
 ·exact absurd hf h
 ·exact⟨q,cq,h1,h2,hb⟩
end Go.Proofs.YtldegjjaknelgaaGreatDoor.Id

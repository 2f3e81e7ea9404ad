/- A part. -/
import Derived.Test.YtldegjjaknelgaaGreatDoorAR01
import Derived.BigRegion
import Derived.RegionTactic
import Derived.Laws.CopyOwn
import Derived.Laws.AppendOwnNone
set_option maxRecDepth 100000
set_option maxHeartbeats 64000000
namespace Go.Proofs.YtldegjjaknelgaaGreatDoor.Id
open Go.RowKit
theorem lN(s:ByteArray)(w:World)(hs:s.size<=140737488351232):
    Calls Tryz.prog 72 #[.string s] w fun e w'=>e=.returned (.bool (Bp s))/\w=w':=by
 unfold Bp
 by_cases he:s.size=0
 ·have he':(s.size:Int)=0:=by omega
  go_enter Tryz.func72,Tryz.ntmps72;go_wp2;go_ret;exact⟨ai (ll _ _ _ he).symm,rfl⟩
 by_cases hm:32<(s.size:Int)
 ·go_enter Tryz.func72,Tryz.ntmps72;go_wp2;go_ret;exact⟨ai (lh _ _ _ hm).symm,rfl⟩
 go_enter Tryz.func72,Tryz.ntmps72;go_wp2
 go_loop [3] (fun i=>∃k:Nat,k<=s.size/\i=.int .i64 k/\∀j,j<k->xB ((ints s).getD j 0)=true) (fun i=>s.size - (intOf i).toNat)
 case atStart=>exact⟨0,Nat.zero_le _,rfl,fun j hj=>by omega⟩
 case round=>
  obtain⟨k,hk,rfl,eF⟩:=hrel;have HA:Hid (∀j,j<k->xB ((ints s).getD j 0)=true):=eF;clear eF
  by_cases bH:k<s.size
  ·have HG:Hid ((ints s).getD k 0=(s[k].toNat:Int)):=cK s k bH;have aP:(s[k].toNat:Int)<=255:=by have:=s[k].toNat_lt;omega
   by_cases h0:small (s[k].toNat:Int)=true
   ·have HB:Hid (xB ((ints s).getD k 0)=true):=by rw[HG.out];unfold xB;simp[h0];exact trivial
    go_wp2_with(go_at_call 68;refine(gy _ _).mono ?_;rintro e w' ⟨rfl,rfl⟩)
    go_round
    case rel=>exact⟨k+1,by omega,by go_num,fun j hj=>by
                          by_cases e:j=k
                          ·rw[e];exact HB.out
                          ·exact HA.out j (by omega)⟩
    case measure=>simp[intOf];omega
   have h0':small (s[k].toNat:Int)=false:=by simpa using h0
   clear h0
   by_cases h45:(s[k].toNat:Int)=45
   ·have HB:Hid (xB ((ints s).getD k 0)=true):=by rw[HG.out];unfold xB;simp[h45];exact trivial
    go_wp2_with(go_at_call 68;refine(gy _ _).mono ?_;rintro e w' ⟨rfl,rfl⟩)
    go_round
    case rel=>exact⟨k+1,by omega,by go_num,fun j hj=>by
                          by_cases e:j=k
                          ·rw[e];exact HB.out
                          ·exact HA.out j (by omega)⟩
    case measure=>simp[intOf];omega
   have HB:Hid (xB ((ints s).getD k 0)=false):=by rw[HG.out];unfold xB;simp[h0',h45];exact trivial
   go_wp2_with(go_at_call 68;refine(gy _ _).mono ?_;rintro e w' ⟨rfl,rfl⟩);go_ret;exact⟨ai (nE _ _ _ k bH HB.out).symm,rfl⟩
  ·obtain rfl:k=s.size:=by omega
   go_wp2;go_ret;exact⟨ai (nD _ _ _ (by omega) (by omega) HA.out).symm,rfl⟩
theorem nI(s:ByteArray)(w:World)(hs:s.size<=140737488351232):
    Calls Tryz.prog 98 #[.string s] w fun e w'=>e=.returned (.bool (loc s))/\w=w':=by
 unfold loc
 by_cases he:s.size=0
 ·have he':(s.size:Int)=0:=by omega
  go_enter Tryz.func98,Tryz.ntmps98;go_wp2;go_ret;exact⟨ai (ll _ _ _ he).symm,rfl⟩
 by_cases hm:32<(s.size:Int)
 ·go_enter Tryz.func98,Tryz.ntmps98;go_wp2;go_ret;exact⟨ai (lh _ _ _ hm).symm,rfl⟩
 go_enter Tryz.func98,Tryz.ntmps98;go_wp2
 go_loop [3] (fun i=>∃k:Nat,k<=s.size/\i=.int .i64 k/\∀j,j<k->um ((ints s).getD j 0)=true) (fun i=>s.size - (intOf i).toNat)
 case atStart=>exact⟨0,Nat.zero_le _,rfl,fun j hj=>by omega⟩
 case round=>
  obtain⟨k,hk,rfl,eF⟩:=hrel;have HA:Hid (∀j,j<k->um ((ints s).getD j 0)=true):=eF;clear eF
  by_cases bH:k<s.size
  ·have HG:Hid ((ints s).getD k 0=(s[k].toNat:Int)):=cK s k bH;have aP:(s[k].toNat:Int)<=255:=by have:=s[k].toNat_lt;omega
   by_cases h0:small (s[k].toNat:Int)=true
   ·have HB:Hid (um ((ints s).getD k 0)=true):=by rw[HG.out];unfold um;simp[h0];exact trivial
    go_wp2_with(go_at_call 68;refine(gy _ _).mono ?_;rintro e w' ⟨rfl,rfl⟩)
    go_round
    case rel=>exact⟨k+1,by omega,by go_num,fun j hj=>by
                          by_cases e:j=k
                          ·rw[e];exact HB.out
                          ·exact HA.out j (by omega)⟩
    case measure=>simp[intOf];omega
   have h0':small (s[k].toNat:Int)=false:=by simpa using h0
   clear h0
   by_cases h45:(s[k].toNat:Int)=45
   ·have HB:Hid (um ((ints s).getD k 0)=true):=by rw[HG.out];unfold um;simp[h45];exact trivial
    go_wp2_with(go_at_call 68;refine(gy _ _).mono ?_;rintro e w' ⟨rfl,rfl⟩)
    go_round
    case rel=>exact⟨k+1,by omega,by go_num,fun j hj=>by
                          by_cases e:j=k
                          ·rw[e];exact HB.out
                          ·exact HA.out j (by omega)⟩
    case measure=>simp[intOf];omega
   by_cases h95:(s[k].toNat:Int)=95
   ·have HB:Hid (um ((ints s).getD k 0)=true):=by rw[HG.out];unfold um;simp[h95];exact trivial
    go_wp2_with(go_at_call 68;refine(gy _ _).mono ?_;rintro e w' ⟨rfl,rfl⟩)
    go_round
    case rel=>exact⟨k+1,by omega,by go_num,fun j hj=>by
                          by_cases e:j=k
                          ·rw[e];exact HB.out
                          ·exact HA.out j (by omega)⟩
    case measure=>simp[intOf];omega
   have HB:Hid (um ((ints s).getD k 0)=false):=by rw[HG.out];unfold um;simp[h0',h45,h95];exact trivial
   have b45:((s[k].toNat:Int) !=45)=true:=by simp[h45]
   have b95:((s[k].toNat:Int) !=95)=true:=by simp[h95]
   go_wp2_with(go_at_call 68;refine(gy _ _).mono ?_;rintro e w' ⟨rfl,rfl⟩);go_ret;exact⟨ai (nE _ _ _ k bH HB.out).symm,rfl⟩
  ·obtain rfl:k=s.size:=by omega
   go_wp2;go_ret;exact⟨ai (nD _ _ _ (by omega) (by omega) HA.out).symm,rfl⟩
theorem Di(s:ByteArray)(w:World)(hs:s.size<=140737488351232):
    Calls Tryz.prog 34 #[.string s] w fun e w'=>e=.returned (.bool (aK s))/\w=w':=by
 unfold aK
 by_cases he:s.size=0
 ·have he':(s.size:Int)=0:=by omega
  go_enter Tryz.func34,Tryz.ntmps34;go_wp2;go_ret;exact⟨ai (ll _ _ _ he).symm,rfl⟩
 by_cases hm:64<(s.size:Int)
 ·go_enter Tryz.func34,Tryz.ntmps34;go_wp2;go_ret;exact⟨ai (lh _ _ _ hm).symm,rfl⟩
 go_enter Tryz.func34,Tryz.ntmps34;go_wp2
 go_loop [3] (fun i=>∃k:Nat,k<=s.size/\i=.int .i64 k/\∀j,j<k->xC ((ints s).getD j 0)=true) (fun i=>s.size - (intOf i).toNat)
 case atStart=>exact⟨0,Nat.zero_le _,rfl,fun j hj=>by omega⟩
 case round=>
  obtain⟨k,hk,rfl,eF⟩:=hrel;have HA:Hid (∀j,j<k->xC ((ints s).getD j 0)=true):=eF;clear eF
  by_cases bH:k<s.size
  ·have HG:Hid ((ints s).getD k 0=(s[k].toNat:Int)):=cK s k bH;have aP:(s[k].toNat:Int)<=255:=by have:=s[k].toNat_lt;omega
   by_cases h0:small (s[k].toNat:Int)=true
   ·have HB:Hid (xC ((ints s).getD k 0)=true):=by rw[HG.out];unfold xC;simp[h0];exact trivial
    go_wp2_with(go_at_call 68;refine(gy _ _).mono ?_;rintro e w' ⟨rfl,rfl⟩)
    go_round
    case rel=>exact⟨k+1,by omega,by go_num,fun j hj=>by
                          by_cases e:j=k
                          ·rw[e];exact HB.out
                          ·exact HA.out j (by omega)⟩
    case measure=>simp[intOf];omega
   have h0':small (s[k].toNat:Int)=false:=by simpa using h0
   clear h0
   by_cases h95:(s[k].toNat:Int)=95
   ·have HB:Hid (xC ((ints s).getD k 0)=true):=by rw[HG.out];unfold xC;simp[h95];exact trivial
    go_wp2_with(go_at_call 68;refine(gy _ _).mono ?_;rintro e w' ⟨rfl,rfl⟩)
    go_round
    case rel=>exact⟨k+1,by omega,by go_num,fun j hj=>by
                          by_cases e:j=k
                          ·rw[e];exact HB.out
                          ·exact HA.out j (by omega)⟩
    case measure=>simp[intOf];omega
   have HB:Hid (xC ((ints s).getD k 0)=false):=by rw[HG.out];unfold xC;simp[h0',h95];exact trivial
   go_wp2_with(go_at_call 68;refine(gy _ _).mono ?_;rintro e w' ⟨rfl,rfl⟩);go_ret;exact⟨ai (nE _ _ _ k bH HB.out).symm,rfl⟩
  ·obtain rfl:k=s.size:=by omega
   go_wp2;go_ret;exact⟨ai (nD _ _ _ (by omega) (by omega) HA.out).symm,rfl⟩
theorem sj(s:ByteArray)(c:Int)(w:World)(hs:s.size<=1000000000):
    Calls Tryz.prog 67 #[.int .u8 c,.string s] w fun e w'=>e=.returned (told (parts c s))/\Below w.heap.size w w':=by
 go_enter Tryz.func67,Tryz.ntmps67;go_wp2
 go_loop [7] (fun i=>∃k:Nat,1<=k/\(k<=s.size\/ k=1)/\i=.int .i64 k/\∀j,1<=j->j<k->(ints s).getD j 0≠58) (fun i=>s.size - (intOf i).toNat)
 case atStart=>exact⟨1,Nat.le_refl _,.inr rfl,rfl,fun j h1 h2=>by omega⟩
 case round=>
  obtain⟨k,h1,hk,rfl,eF⟩:=hrel;have HA:Hid (∀j,1<=j->j<k->(ints s).getD j 0≠58):=eF;clear eF
  by_cases bH:k<s.size
  ·have h0:0<s.size:=by omega
   have RJ:Hid ((ints s).getD 0 0=(s[0].toNat:Int)):=cK s 0 h0
   by_cases hc:(s[0].toNat:Int)=c
   ·have HG:Hid ((ints s).getD k 0=(s[k].toNat:Int)):=cK s k bH
    by_cases h58:(s[k].toNat:Int)=58
    ·have HP:Hid (parts c s=if loc (s.extract 1 k)=true/\Bp (s.extract (k+1) s.size)=true then(s.extract 1 k,s.extract (k+1) s.size,true)else(aN,aN,false)):=
       Ab c s k (by rw[RJ.out];exact hc) h1 bH (by rw[HG.out];exact h58) HA.out
     have FY:(s.extract 1 k).size<=140737488351232:=by simp;omega
     have FZ:(s.extract (k+1) s.size).size<=140737488351232:=by simp;omega
     by_cases hL:loc (s.extract 1 k)=true
     ·by_cases hS:Bp (s.extract (k+1) s.size)=true
      ·go_wp2_with(first
         | (go_at_call 98;refine(nI _ _ FY).mono ?_;rintro e w' ⟨rfl,rfl⟩)
         | (go_at_call 72;refine(lN _ _ FZ).mono ?_;rintro e w' ⟨rfl,rfl⟩))
       go_quiet (fail);go_wp2
       go_ret3
       exact⟨g_ (by rw[HP.out,if_pos ⟨hL,hS⟩]),below_drewN _ _⟩
      ·have hS':Bp (s.extract (k+1) s.size)=false:=by simpa using hS
       go_wp2_with(first
        | (go_at_call 98;refine(nI _ _ FY).mono ?_;rintro e w' ⟨rfl,rfl⟩)
        | (go_at_call 72;refine(lN _ _ FZ).mono ?_;rintro e w' ⟨rfl,rfl⟩))
       go_ret3
       exact⟨g_ (by rw[HP.out,if_neg (by simp[hS'])];rfl),Below.refl _ _⟩
     ·have hL':loc (s.extract 1 k)=false:=by simpa using hL
      go_wp2_with(go_at_call 98;refine(nI _ _ FY).mono ?_;rintro e w' ⟨rfl,rfl⟩)
      go_ret3
      exact⟨g_ (by rw[HP.out,if_neg (by simp[hL'])];rfl),Below.refl _ _⟩
    ·go_wp2
     go_round
     case rel=>exact⟨k+1,by omega,.inl (by omega),by go_num,fun j hj Gh=>by
                           by_cases e:j=k
                           ·rw[e,HG.out];exact h58
                           ·exact HA.out j hj (by omega)⟩
     case measure=>simp[intOf];omega
   ·go_wp2
    go_ret3
    exact⟨g_ (lq c s (.inr (.inl (by rw[RJ.out];exact hc)))),Below.refl _ _⟩
  ·go_wp2
   go_ret3
   refine⟨g_ (lq c s ?_),Below.refl _ _⟩;exact .inr (.inr fun j hj Gh=>HA.out j hj (by omega))
theorem Dj(s:ByteArray)(w:World)(hs:s.size<=1000000000):
    Calls Tryz.prog 69 #[.string s] w fun e w'=>e=.returned (told (parts 64 s))/\Below w.heap.size w w':=by
 go_enter Tryz.func69,Tryz.ntmps69;go_wp2_with(go_at_call 67;refine(sj s 64 _ hs).mono ?_;rintro e w1 ⟨rfl,aP⟩;unfold told)
 go_ret3
 exact⟨rfl,aP⟩
theorem Dk(s:ByteArray)(w:World)(hs:s.size<=1000000000):
    Calls Tryz.prog 33 #[.string s] w fun e w'=>e=.returned (told (parts 33 s))/\Below w.heap.size w w':=by
 go_enter Tryz.func33,Tryz.ntmps33;go_wp2_with(go_at_call 67;refine(sj s 33 _ hs).mono ?_;rintro e w1 ⟨rfl,aP⟩;unfold told)
 go_ret3
 exact⟨rfl,aP⟩
def home(s:ByteArray):ByteArray:=if(parts 64 s).2.2=true then(parts 64 s).2.1 else(parts 33 s).2.1
theorem Dl{a b:ByteArray}(h:a=b):Ending.returned (.string a)=.returned (.string b):=by rw[h]
theorem Dm(s:ByteArray)(w:World)(hs:s.size<=140737488351232):
    Calls Tryz.prog 80 #[.string s] w fun e w'=>e=.returned (.string (home s))/\Below w.heap.size w w':=by
 cases hu:(parts 64 s).2.2 with
 | true=>
  go_enter Tryz.func80,Tryz.ntmps80;go_wp2_with(go_at_call 84;refine(oM s _ hs).mono ?_;rintro e w1 ⟨rfl,aP⟩;unfold told);go_ret;exact⟨Dl (by unfold home;rw[if_pos hu]),aP⟩
 | false=>
  go_enter Tryz.func80,Tryz.ntmps80;go_wp2_with(first
   | (go_at_call 84;refine(oM s _ hs).mono ?_;rintro e w1 ⟨rfl,aP⟩;unfold told)
   | (go_at_call 119;refine(Dh s _ hs).mono ?_;rintro e w2 ⟨rfl,aT⟩;unfold told))
  go_ret;exact⟨Dl (by unfold home;rw[if_neg (by simp[hu])]),aP.trans (aT.mono aP.size)⟩
theorem wraps_u32(n:Int)(h₀:0<=n)(h₁:n<2 ^ 32):IntKind.u32.wrap n=n:=by rw[IntKind.wrap_u32];omega
theorem wU(i:Nat)(x y:Int)(hx₀:0<=x)(hx:x % 2 ^ i=0)(hx₁:x<4294967296)(hy₀:0<=y)(hy:y<2 ^ i)(hy₁:y<4294967296):bits .or .u32 x y=x+y:=
 bits_join .u32 32 (by decide) wraps_u32 i x y hx₀ hx (by omega) hy₀ hy (by omega)
theorem Vv:∀i:Fin 64,(((⟨#[65,66,67,68,69,70,71,72,73,74,75,76,77,78,79,80,81,82,83,84,85,86,87,88,89,90,97,98,99,100,101,102,103,104,105,106,107,108,109,110,111,112,113,114,115,116,117,118,119,120,121,122,48,49,50,51,52,53,54,55,56,57,43,47]⟩:ByteArray)[i.val]'(by exact i.isLt)).toNat:Int)=J3 i.val:=by decide
theorem RL(k:IntKind)(i:Int)(h0:0<=i)(h1:i<=63)(w:World):
    (Instr.index 9 (.string ⟨#[65,66,67,68,69,70,71,72,73,74,75,76,77,78,79,80,81,82,83,84,85,86,87,88,89,90,97,98,99,100,101,102,103,104,105,106,107,108,109,110,111,112,113,114,115,116,117,118,119,120,121,122,48,49,50,51,52,53,54,55,56,57,43,47]⟩) (.int k i)).run Tryz.prog w=.ok (.int .u8 (J3 i)) w:=by
 obtain⟨n,rfl⟩:=Int.eq_ofNat_of_zero_le h0;rw[run_index_string w 9 _ k (n:Int) Tryz.underlying9,dif_pos ⟨by omega,by show(n:Int)<((64:Nat):Int);omega⟩];rw[<-Vv ⟨n,by omega⟩]
 rfl
theorem Gl(a b c d:Int)(w:World)(ha0:0<=a)(ha:a<=255)(dS:0<=b)(hb:b<=255)(NL:0<=c)(hc:c<=255)(hd0:0<=d)(hd:d<=255):
    Calls Tryz.prog 175 #[.agg #[.int .u8 a,.int .u8 b,.int .u8 c,.int .u8 d]] w fun e w'=>e=.returned (.agg #[.int .u8 (bq a*4+bq b / 16),.int .u8 (bq b % 16*16+bq c / 4),.int .u8 (bq c % 4*64+bq d)])/\Below w.heap.size w w':=by
 have na:=dh a;have nb:=dh b;have nc:=dh c;have nd:=dh d;have ma:=df a;have mb:=df b;have mc:=df c;have md:=df d;have o0:bits .or .u32 0 (bq a)=bq a:=by rw[wU 6 _ _ (by omega) (by omega) (by omega) (by omega) (by omega) (by omega)];omega
 have o1:bits .or .u32 (bq a*64) (bq b)=bq a*64+bq b:=wU 6 _ _ (by omega) (by omega) (by omega) (by omega) (by omega) (by omega);have o2:bits .or .u32 ((bq a*64+bq b)*64) (bq c)=(bq a*64+bq b)*64+bq c:=wU 6 _ _ (by omega) (by omega) (by omega) (by omega) (by omega) (by omega);have o3:bits .or .u32 (((bq a*64+bq b)*64+bq c)*64) (bq d)=((bq a*64+bq b)*64+bq c)*64+bq d:=wU 6 _ _ (by omega) (by omega) (by omega) (by omega) (by omega) (by omega);have r1:(((bq a*64+bq b)*64+bq c)*64+bq d) / 65536=bq a*4+bq b / 16:=by omega
 have r2:(((bq a*64+bq b)*64+bq c)*64+bq d) / 256 % 256=bq b % 16*16+bq c / 4:=by omega
 have r3:(((bq a*64+bq b)*64+bq c)*64+bq d) % 256=bq c % 4*64+bq d:=by omega
 have i0:∀w,(Instr.index 187 (.agg #[.int .u8 a,.int .u8 b,.int .u8 c,.int .u8 d]) (.int .i64 0)).run Tryz.prog w=.ok (.int .u8 a) w:=fun _=>by kernel_rfl
 have i1:∀w,(Instr.index 187 (.agg #[.int .u8 a,.int .u8 b,.int .u8 c,.int .u8 d]) (.int .i64 1)).run Tryz.prog w=.ok (.int .u8 b) w:=fun _=>by kernel_rfl
 have i2:∀w,(Instr.index 187 (.agg #[.int .u8 a,.int .u8 b,.int .u8 c,.int .u8 d]) (.int .i64 2)).run Tryz.prog w=.ok (.int .u8 c) w:=fun _=>by kernel_rfl
 have i3:∀w,(Instr.index 187 (.agg #[.int .u8 a,.int .u8 b,.int .u8 c,.int .u8 d]) (.int .i64 3)).run Tryz.prog w=.ok (.int .u8 d) w:=fun _=>by kernel_rfl
 go_enter Tryz.func175,Tryz.ntmps175;go_wp2;refine wp_loop_rounds 5 ?_
 iterate 5 (rw[rounds_succ];go_wp2_with(go_at_call 187;refine(kJ _ _ (by omega) (by omega)).mono ?_;rintro e w' ⟨rfl,rfl⟩))
 exact bodyPost_ret (v:=.agg #[.int .u8 (bq a*4+bq b / 16),.int .u8 (bq b % 16*16+bq c / 4),.int .u8 (bq c % 4*64+bq d)]) (by simp[results,Tryz.results175,go_sem]) rfl ⟨rfl,((Below.refl _ _).alloc (Nat.le_refl _) _).alloc (by simp) _⟩
theorem za0(x:Int)(h₀:0<=x)(h₁:x<4294967296):bits .and .u32 x 15=x % 16:=
 bits_mask .u32 32 (by decide) wraps_u32 4 (by decide) x h₀ (by omega)
theorem zdM(x:Int)(h₀:0<=x)(h₁:x<4294967296):bits .and .u32 x 3=x % 4:=
 bits_mask .u32 32 (by decide) wraps_u32 2 (by decide) x h₀ (by omega)
theorem Ad(s:ByteArray)(w:World)(hs:s.size<=140737488351232)(h4:s.size % 4≠1):
    Calls Tryz.prog 188 #[.string s] w fun e w'=>e=.returned (.int .u32 (oF (ints s)))/\w=w':=by
 have HL:Hid ((ints s).length=s.size):=aH s
 by_cases h0:s.size % 4=0
 ·have h0':(s.size:Int) % 4=0:=by omega
  go_enter Tryz.func188,Tryz.ntmps188;go_wp2;go_ret;exact⟨pI (by unfold oF;rw[HL.out,if_neg (by omega),if_neg (by omega)]),rfl⟩
 have hg:=cK s (s.size - 1) (by omega);have dS:(0:Int)<=(s[s.size - 1].toNat:Int):=by omega
 have aP:(s[s.size - 1].toNat:Int)<=255:=by have:=s[s.size - 1].toNat_lt;omega
 have n0:=df (s[s.size - 1].toNat:Int);have n1:=dh (s[s.size - 1].toNat:Int);have HG:Hid ((ints s).getD (s.size - 1) 0=(s[s.size - 1].toNat:Int)):=hg;clear hg
 by_cases h2:s.size % 4=2
 ·have Om:(s.size:Int) % 4=2:=by omega
  go_enter Tryz.func188,Tryz.ntmps188;go_wp2_with(go_at_call 187;refine(kJ _ _ (by omega) (by omega)).mono ?_;rintro e w' ⟨rfl,rfl⟩);go_ret;exact⟨pI (by unfold oF;rw[HL.out,if_pos h2,HG.out];exact za0 _ n0 (by omega)),rfl⟩
 ·have Om:(s.size:Int) % 4=3:=by omega
  go_enter Tryz.func188,Tryz.ntmps188;go_wp2_with(go_at_call 187;refine(kJ _ _ (by omega) (by omega)).mono ?_;rintro e w' ⟨rfl,rfl⟩);go_ret;exact⟨pI (by unfold oF;rw[HL.out,if_neg h2,if_pos (by omega),HG.out];exact zdM _ n0 (by omega)),rfl⟩
theorem wV{a b c d:Int}(h:a=c)(hp:b=d):Ending.returned (.tuple #[.int .i64 a,.int .i64 b])=.returned (.tuple #[.int .i64 c,.int .i64 d]):=by rw[h,hp]
theorem Ae(s:ByteArray)(w:World)(hs:s.size<=140737488351232):
    Calls Tryz.prog 173 #[.string s] w fun e w'=>e=.returned (.tuple #[.int .i64 (lM (ints s)).1,.int .i64 (lM (ints s)).2])/\w=w':=by
 have HL:Hid ((ints s).length=s.size):=aH s;go_enter Tryz.func173,Tryz.ntmps173;go_wp2
 go_loop [9] (fun i=>∃k:Nat,k<=s.size/\i=.int .i64 k/\∀j,j<k->isLet ((ints s).getD j 0)=true) (fun i=>s.size - (intOf i).toNat)
 case atStart=>exact⟨0,Nat.zero_le _,rfl,fun j hj=>by omega⟩
 case round=>
  obtain⟨k,hk,rfl,eF⟩:=hrel;have HA:Hid (∀j,j<k->isLet ((ints s).getD j 0)=true):=eF;clear eF
  by_cases bH:k<s.size
  ·have HG:Hid ((ints s).getD k 0=(s[k].toNat:Int)):=cK s k bH;have aP:(s[k].toNat:Int)<=255:=by have:=s[k].toNat_lt;omega
   by_cases hb:isLet (s[k].toNat:Int)=true
   ·go_wp2_with(go_at_call 187;refine(kJ _ _ (by omega) (by omega)).mono ?_;rintro e w' ⟨rfl,rfl⟩)
    go_round
    case rel=>exact⟨k+1,by omega,by go_num,fun j hj=>by
                          by_cases e:j=k
                          ·rw[e,HG.out];exact hb
                          ·exact HA.out j (by omega)⟩
    case measure=>simp[intOf];omega
   ·have FX:isLet (s[k].toNat:Int)=false:=by simpa using hb
    clear hb;go_wp2_with(go_at_call 187;refine(kJ _ _ (by omega) (by omega)).mono ?_;rintro e w' ⟨rfl,rfl⟩);go_ret2;have jV:=J4 (ints s) k (by rw[HL.out];exact bH) HA.out (by rw[HG.out];exact FX);exact⟨wV (by unfold lM;rw[jV,HL.out,if_pos bH]) (by unfold lM;rw[jV,HL.out,if_pos bH]),rfl⟩
  ·obtain rfl:k=s.size:=by omega
   have jV:Hid (xy (ints s)=s.size):=(Da (ints s) (by rw[HL.out];exact HA.out)).trans HL.out
   by_cases h1:s.size % 4=1
   ·have J5:(s.size:Int) % 4=1:=by omega
    go_wp2;go_ret2;exact⟨wV (by unfold lM;rw[jV.out,HL.out,if_neg (by omega),if_pos h1]) (by unfold lM;rw[jV.out,HL.out,if_neg (by omega),if_pos h1]),rfl⟩
   ·have J5:¬(s.size:Int) % 4=1:=by omega
    by_cases Ld:oF (ints s)=0
    ·have hp:Hid (oF (ints s)=0):=Ld;go_wp2_with(go_at_call 188;refine(Ad s _ hs (by omega)).mono ?_;rintro e w' ⟨rfl,rfl⟩);go_ret2;exact⟨wV (by unfold lM;rw[jV.out,HL.out,if_neg (by omega),if_neg h1,if_neg (by simp[hp.out])]) (by unfold lM;rw[jV.out,HL.out,if_neg (by omega),if_neg h1,if_neg (by simp[hp.out])]),rfl⟩
    ·go_wp2_with(go_at_call 188;refine(Ad s _ hs (by omega)).mono ?_;rintro e w' ⟨rfl,rfl⟩);go_ret2;exact⟨wV (by unfold lM;rw[jV.out,HL.out,if_neg (by omega),if_neg h1,if_pos Ld]) (by unfold lM;rw[jV.out,HL.out,if_neg (by omega),if_neg h1,if_pos Ld]),rfl⟩
theorem Tryz.J6:(Tryz.prog.info? 5).map (fun i=>(i.zero,i.size,i.bytes))=some (some (.int .u8 0),1,1):=by kernel_rfl
theorem Tryz.Uq:(Tryz.prog.info? 5).map (·.size)=some 1:=by kernel_rfl
def Rd(B:Nat)(w:World)(p:Option Addr)(c:Nat)(rs:List Int):Prop:=
 rs.length<=c/\(∀x∈rs,0<=x/\x<=255)/\∀j,j<rs.length->∃a,p=some a/\a.block<B/\w.cell? (a.add j)=some (.int .u8 (rs.getD j 0))
theorem xG(l:List Int):∀v∈l.map (Value.int .u8),v.oneCell'=true:=by
 intro v hv;simp only[List.mem_map]at hv;obtain⟨x,_,rfl⟩:=hv
 rfl
theorem Oo(rs:List Int):splice [Value.int .u8 0,.int .u8 0,.int .u8 0,.int .u8 0] 0 ((rs.take 4).map (Value.int .u8))= [.int .u8 (rs.getD 0 0),.int .u8 (rs.getD 1 0),.int .u8 (rs.getD 2 0),.int .u8 (rs.getD 3 0)]:=by
 match rs with
 | []=>rfl
 | [_]=>rfl
 | [_,_]=>rfl
 | [_,_,_]=>rfl
 | _::_::_::_::_=>simp[splice]
theorem wW{rs:List Int}(h:∀x∈rs,0<=x/\x<=255)(j:Nat):0<=rs.getD j 0/\rs.getD j 0<=255:=by
 rw[List.getD_eq_getElem?_getD]
 rcases Nat.lt_or_ge j rs.length with hj| hj
 ·rw[List.getElem?_eq_getElem hj];exact h _ (List.getElem_mem hj)
 ·rw[List.getElem?_eq_none hj];simp
theorem a_{w:World}{g t:Nat}{fr:Nat×Nat}{cur:List Value}(h:w.heap[g]?=some (.cells cur.toArray t fr))(j:Nat)(v:Value)(hj:cur[j]?=some v):w.cell? ⟨g,j,none⟩=some v:=by
 simp[World.cell?,h,hj]
theorem sizeOf5(w:World):(sizeOf 5).run Tryz.prog w=.ok 1 w:=by kernel_rfl
theorem Oq:Tryz.prog.elem 80=5:=by kernel_rfl
theorem Gm:Tryz.prog.arrayLen 188=3:=by kernel_rfl
theorem J7:Tryz.prog.elem 188=5:=by kernel_rfl
theorem Gn(m:Nat)(hm:m<=3)(a:Addr)(wx:World):(Instr.sliceAt 188 (.pointer (some a)) none (some (.int .i64 (m:Int))) none).run Tryz.prog wx=.ok (.slice (some a) m 3) wx:=by
 rw[run_sliceAt_array_h wx 188 a (by rw[Gm,J7];exact Tryz.underlying188) .i64 (m:Int) (by omega) (by rw[Gm];omega),J7,sizeOf5,Gm];simp[Result.andThen,slicedAt,Addr.add]
theorem kG{w:World}{B e size n:Nat}{v:Value}{xs:List Value}(h:w.ownsRow B e size v n xs):∀k,v.ownBlock=some k->B<=k:=by
 intro k hk
 rcases h.2 with⟨rfl,_⟩| ⟨g,cap,cur,rfl,hg,_⟩
 ·cases hk
 ·cases hk;exact hg
theorem jh(w:World)(L:List Int)(t n j:Nat)(u:Value)(h:((L.take n).map (Value.int .u8))[j]?=some u):
    (w.alloc (.cells (L.map (Value.int .u8)).toArray t)).cell? ((⟨w.heap.size,0,none⟩:Addr).add j)=some u:=by
 have e:(⟨w.heap.size,0,none⟩:Addr).add j=⟨w.heap.size,j,none⟩:=by unfold Addr.add;split<;>simp_all
 rw[e];refine a_ (heap_alloc_new _ _) j u ?_;rw[List.getElem?_map,List.getElem?_take]at h
 split at h
 ·rw[List.getElem?_map];exact h
 ·cases h
def lenOf:Value->Nat
 | .slice _ n _=>n
 | _=>0
theorem Br(w:World)(ty g Gp RN:Nat)(s:ByteArray)(cur:List Value)(t n:Nat)(hg:w.heap[g]?=some (.cells cur.toArray t (0,0)))(hn:n=min s.size Gp)(Le:n<=cur.length):
    (Builtin.copy_ #[80,9] ty #[.slice (some ⟨g,0,none⟩) Gp RN,.string s]).run Tryz.prog w=
     .ok (goInt n) (w.setRow g (splice cur 0 (((ints s).take n).map (Value.int .u8))).toArray):=by
 have dP:(((ints s).take n).map (Value.int .u8)).length=n:=by simp[aH];omega
 have ny:=run_storeCells_at Tryz.prog g 0 t (((ints s).take n).map (Value.int .u8)) 0 cur.toArray w hg (by rw[dP];simpa using Le) (xG _);have Vw:Nat.min s.size Gp=n:=hn.symm;have Vx:List.take n (List.map (fun b:UInt8=>Value.int IntKind.u8 (b.toNat:Int)) s.data.toList)=((ints s).take n).map (Value.int .u8):=by
  simp[ints,List.map_take]
  rfl
 rw[dP]at ny;simp only[Nat.add_zero]at ny
 cases hq:Tryz.prog.info? 5 with
 | none=>have:=Tryz.Uq;simp[hq]at this
 | some i=>
  simp[Builtin.copy_,run_underlying Tryz.underlying80,Builtin.lenOf,Builtin.firstCells,sizeOf,typeInfo,hq,Vw];rw[Vx,ny];have hm:min n (ints s).length=n:=by rw[aH];omega
  simp[Result.andThen,splice,hm]
theorem wK{w:World}{bT:Array Oper}{rest:List Oper}{o:Oper}{a:Act}{Q:Exit->Act->World->Prop}(rU:o.guard=none)(d s:Operand)
    (ho:o.op=.call {callee:=.builtin .copy,args:=#[d,s],argTypes:=#[80,9]})
    (g Gp RN:Nat) (x:ByteArray) (hd:a.eval d=.slice (some ⟨g,0,none⟩) Gp RN) (hs:a.eval s=.string x)
    (cur:List Value) (t:Nat) (hg:w.heap[g]?=some (.cells cur.toArray t (0,0))) (n:Nat) (hn:n=min x.size Gp) (Le:n<=cur.length) (B:Nat) (w0:World) (hb:Below B w0 w) (hBg:B<=g)
    (h:∀w',Hid (w'.heap[g]?=some (.cells (splice cur 0 (((ints x).take n).map (Value.int .u8))).toArray t (0,0)))->Below B w0 w'->wpList Tryz.prog bT Q rest (a.put o.dst (goInt n)) w'):
    wpList Tryz.prog bT Q (o::rest) a w:=by
 refine wpList_plain rU fun K hK=> ?_;have Bt:=Br w o.type g Gp RN x cur t n hg hn Le;unfold Oper.wp;simp[execOp,ho,resolve,invoke,builtin,hd,hs,Bt,Result.andThen];exact hK _ _ (h _ (show _=_ by rw[List.map_take];exact setRow_heap w g _ _ t _ hg) (below_setRow hb hBg _))
theorem pJ{a b c d:Int}{v:Value}(h:a=c)(hp:b=d):Ending.returned (.tuple #[v,.int .i64 a,.int .i64 b])=.returned (.tuple #[v,.int .i64 c,.int .i64 d]):=by rw[h,hp]
theorem Gq(s:ByteArray)(w:World)(hs:s.size<=140737488351232)(hf:(lM (ints s)).1≠0):
    Calls Tryz.prog 156 #[.string s] w fun e w'=>e=.returned (.tuple #[.slice none 0 0,.int .i64 (lM (ints s)).1,.int .i64 (lM (ints s)).2])/\Below w.heap.size w w':=by
 go_enter Tryz.func156,Tryz.ntmps156;go_wp2_with(go_at_call 173;refine(Ae s _ hs).mono ?_;rintro e w' ⟨rfl,rfl⟩)
 go_ret3
 exact⟨pJ rfl rfl,Below.refl _ _⟩
theorem Rest.cut(q:Option Addr)(l m g d:Nat)(hm:m<=l)(hq:0<l->q=some ⟨g,d,none⟩):
    ∃q',(∀wx,(Instr.slice 80 (.slice q l l) (some (.int .i64 (m:Int))) none none).run Tryz.prog wx=.ok (.slice q' (l - m) (l - m)) wx)/\(0<l - m->q'=some ⟨g,d+m,none⟩):=by
 refine⟨if l=m then q else q.map (·.add (m*1)),fun wx=> ?_,fun h=> ?_⟩
 ·rw[run_slice_l wx 80 q l l (by rw[Oq];exact Tryz.underlying80) .i64 (m:Int) (by omega) (by omega),Oq,sizeOf5];simp only[Result.andThen,Int.toNat_natCast,sliced]
 ·rw[if_neg (by omega),hq (by omega)];simp[Addr.add]
theorem wX{w:World}{B g n:Nat}{xs:List Value}(h:w.ownsRow B 5 1 (.slice (some ⟨g,0,none⟩) n n) n xs):w.heap[g]?=some (.cells xs.toArray 5 (0,0)):=by
 rcases h.2 with⟨h',_⟩| ⟨g',cap,cur,he,hg,xm,h1,h2,h3,h4⟩
 ·cases h'
 ·cases he
  rw[xm];have e:xs=cur.toList:=by rw[<-h4,List.take_of_length_le (by simp;omega)]
  rw[e]
theorem Lf(n:Nat):(madeCells #[Value.int .u8 0] n).toList=(List.replicate n (0:Int)).map (Value.int .u8):=by
 rw[toList_madeCells_one];simp
theorem Dn(done news:List Int)(l:Nat):
    splice ((done++List.replicate l (0:Int)).map (Value.int .u8)) done.length (news.map (Value.int .u8))=((done++news)++List.replicate (l - news.length) (0:Int)).map (Value.int .u8):=by
 simp only[splice,List.map_append,List.length_map,List.append_assoc];rw[List.take_append_of_le_length (by simp),List.take_of_length_le (by simp),List.drop_append,List.drop_eq_nil_of_le (by simp),List.map_replicate,List.drop_replicate];simp
theorem Dp(s:ByteArray)(w:World)(hs:s.size<=140737488351232)(hf:(lM (ints s)).1=0):
    Calls Tryz.prog 156 #[.string s] w fun e w'=>e=.returned (.tuple #[.slice (some ⟨w.heap.size,0,none⟩) (dec (ints s)).length (dec (ints s)).length,.int .i64 0,.int .i64 0])∧
     w'.heap[w.heap.size]?=some (.cells ((dec (ints s)).map (Value.int .u8)).toArray 5 (0,0))/\Below w.heap.size w w':=by
 obtain⟨i0,hi,oN,oI,rV⟩:=info_parts Tryz.J6;have h4:s.size % 4≠1:=by have:=(Oc _ hf).2.1;rw[aH]at this;exact this
 obtain⟨L,hL⟩:∃L,L=(dec (ints s)).length:=⟨_,rfl⟩;have hl:((L:Nat):Int)=(s.size:Int) / 4*3+qb ((s.size:Int) % 4):=by rw[hL,qN,aH]
 have CR:=RD ((s.size:Int) % 4) (by omega);have HL:Hid (L=(dec (ints s)).length):=hL;have HL':Hid (((L:Nat):Int)=(s.size:Int) / 4*3+qb ((s.size:Int) % 4)):=hl;have KV:L<=140737488351232:=by omega
 rw[<-hL];clear hl hL;go_enter Tryz.func156,Tryz.ntmps156;go_wp2_with(first
  | (go_at_call 173;refine(Ae s _ hs).mono ?_;rintro e w' ⟨rfl,rfl⟩)
  | (go_at_call 174;refine(vI _ _ (by omega) (by omega)).mono ?_;rintro e w' ⟨rfl,rfl⟩)
  | (at_make;refine wpList_make_full _ rfl _ _ 80 rfl w.heap.size 5 i0 (.int .u8 0) 1 Tryz.underlying80 hi oN oI _ _ _ _ L rfl rfl ?b0 ?b1 ?b2 ?b3 (Nat.le_refl _) ?_))
 case b0=>exact HL'.out.symm
 case b1=>exact HL'.out.symm
 case b2=>rw[rV];omega
 case b3=>unfold maxLen;omega
 intro w1 aL lu;have aP:Below w.heap.size w w1:=(Below.refl _ _).grown lu (Nat.le_refl _) (by simp);have Vy:Hid (w1.heap[w.heap.size]?=some (.cells ((([]:List Int)++List.replicate L (0:Int)).map (Value.int .u8)).toArray 5 (0,0))):=by
  have:=wX aL;rw[Lf]at this;exact this
 clear aL lu;go_wp2
 go_loopw [0,8] (fun sv rv wr=>∃(t:ByteArray) (done:List Int) (q:Option Addr) (l:Nat),sv=.string t/\t.size<=s.size/\t.size % 4≠1/\dec (ints s)=done++dec (ints t)/\l=(dec (ints t)).length∧
     rv=.slice q l l/\(0<l->q=some ⟨w.heap.size,done.length,none⟩)/\wr.heap[w.heap.size]?=some (.cells ((done++List.replicate l (0:Int)).map (Value.int .u8)).toArray 5 (0,0))/\Below w.heap.size w wr)
  (fun _ rv _=>lenOf rv)
 case atStart=>exact⟨s, [],_,L,rfl,Nat.le_refl _,h4,rfl,HL.out,rfl,fun _=>rfl,Vy.out,aP⟩
 case round=>
  clear Vy aP;obtain⟨t,done,q,l,rfl,ht,ht4,oG,hl,rfl,hq,jF,hb⟩:=hrel;have HD:Hid (dec (ints s)=done++dec (ints t)):=oG;have Bu:Hid (l=(dec (ints t)).length):=hl;have Ot:Hid (wr.heap[w.heap.size]?=some (.cells ((done++List.replicate l (0:Int)).map (Value.int .u8)).toArray 5 (0,0))):=jF;have HQ:Hid (0<l->q=some ⟨w.heap.size,done.length,none⟩):=hq;have Lg:0<l↔0<t.size:=by rw[hl,<-aH];exact RF _ (by rw[aH];exact ht4)
  clear oG hl jF hq
  by_cases bH:0<l
  ·have ht0:0<t.size:=Lg.1 bH;obtain⟨m,hm⟩:∃m,m+1=min t.size 4:=⟨min t.size 4 - 1,by omega⟩;have Gg:1<=m:=by omega
   have hm3:m<=3:=by omega
   obtain⟨a0,ha0⟩:∃a,(ints t).getD 0 0=a:=⟨_,rfl⟩;obtain⟨a1,ha1⟩:∃a,(ints t).getD 1 0=a:=⟨_,rfl⟩;obtain⟨a2,ha2⟩:∃a,(ints t).getD 2 0=a:=⟨_,rfl⟩;obtain⟨a3,ha3⟩:∃a,(ints t).getD 3 0=a:=⟨_,rfl⟩;have b0:0<=a0/\a0<=255:=ha0 ▸ wW (pG t) 0;have b1:0<=a1/\a1<=255:=ha1 ▸ wW (pG t) 1;have b2:0<=a2/\a2<=255:=ha2 ▸ wW (pG t) 2;have b3:0<=a3/\a3<=255:=ha3 ▸ wW (pG t) 3;have J8:=Od (ints t) m a0 a1 a2 a3 Gg (by rw[aH];exact hm) ha0 ha1 ha2 ha3;obtain⟨news,om⟩:∃news,news= [bq a0*4+bq a1 / 16,bq a1 % 16*16+bq a2 / 4,bq a2 % 4*64+bq a3].take m:=⟨_,rfl⟩;have oo:news.length=m:=by rw[om];simp;omega
   rw[<-om]at J8;have su:l=m+(dec ((ints t).drop (m+1))).length:=by rw[Bu.out,J8];simp[oo]
   have zu:m<=l:=by omega
   have hS:splice [Value.int .u8 0,.int .u8 0,.int .u8 0,.int .u8 0] 0 (((ints t).take (m+1)).map (Value.int .u8))= [.int .u8 a0,.int .u8 a1,.int .u8 a2,.int .u8 a3]:=by
    have e3:(ints t).take (m+1)=(ints t).take 4:=by rw[hm];exact(List.take_eq_take_iff.2 (by rw[aH];omega))
    rw[e3,Oo,ha0,ha1,ha2,ha3]
   have HS:Hid (splice [Value.int .u8 0,.int .u8 0,.int .u8 0,.int .u8 0] 0 (((ints t).take (m+1)).map (Value.int .u8))= [.int .u8 a0,.int .u8 a1,.int .u8 a2,.int .u8 a3]):=hS;have Bv:Hid (dec (ints t)=news++dec ((ints t).drop (m+1))):=J8;have HN:Hid (news= [bq a0*4+bq a1 / 16,bq a1 % 16*16+bq a2 / 4,bq a2 % 4*64+bq a3].take m):=om;have xH:Hid (news.length=m):=oo;have HM:Hid (m+1=min t.size 4):=hm;have HLM:Hid (l=m+(dec ((ints t).drop (m+1))).length):=su;obtain⟨t',ht'⟩:∃t',t'=t.extract (m+1) t.size:=⟨_,rfl⟩;have ny:∀wx,(Instr.slice 9 (.string t) (some (.int .i64 ((m:Int)+1))) none none).run Tryz.prog wx=.ok (.string t') wx:=by
    intro wx;rw[run_slice_string_l wx 9 t Tryz.underlying9 .i64 ((m:Int)+1) (by omega) (by omega),ht']
    rfl
   have HT:Hid (ints t'=(ints t).drop (m+1)):=by
    have:=iM t (m+1);rw[<-ht']at this;exact this
   have hts:t'.size=t.size - (m+1):=by rw[<-aH,HT.out,List.length_drop,aH]
   have F3:Hid (t'.size=t.size - (m+1)):=hts;obtain⟨q',hsl,hq'⟩:=Rest.cut q l m w.heap.size done.length zu HQ.out;have HQ':Hid (0<l - m->q'=some ⟨w.heap.size,done.length+m,none⟩):=hq';have zjs:=Gn m hm3;clear hm ha0 ha1 ha2 ha3 J8 om oo su hS ht' hts hq';have hwb:Below wr.heap.size wr (wr.alloc (.cells #[.int .u8 0,.int .u8 0,.int .u8 0,.int .u8 0] 187)):=(Below.refl _ _).alloc (Nat.le_refl _) _;go_wp2_with(refine wK rfl (.tmp 35) (.tmp 36) rfl wr.heap.size _ _ t rfl rfl [.int .u8 0,.int .u8 0,.int .u8 0,.int .u8 0] 187 ?c1 (m+1) ?c2 ?c3 wr.heap.size wr ?c4 ?c5 ?_)
   case c1=>exact heap_alloc_new _ _
   case c2=>exact HM.out
   case c3=>simp;omega
   case c4=>exact hwb
   case c5=>exact Nat.le_refl _
   intro w2 HG jm;have jF:=HG.out;rw[<-List.map_take,HS.out]at jF;have zjt:=a_ jF 0 _ rfl;have zju:=a_ jF 1 _ rfl;have zjv:=a_ jF 2 _ rfl;have zjw:=a_ jF 3 _ rfl;clear jF HG;obtain⟨cs,F4⟩:∃cs,cs=news.map (Value.int .u8):=⟨_,rfl⟩;have Dq:cs.length=m:=by rw[F4,List.length_map,xH.out]
   have HCS:Hid (cs=news.map (Value.int .u8)):=F4;clear F4;obtain⟨cur,Gr⟩:∃cur,cur=(done++List.replicate l (0:Int)).map (Value.int .u8):=⟨_,rfl⟩;have Vz:Hid (cur=(done++List.replicate l (0:Int)).map (Value.int .u8)):=Gr;clear Gr;have Lh:Hid (cs.length=m):=Dq;go_wp2_with(first
    | (go_at_call 175;refine(Gl a0 a1 a2 a3 _ b0.1 b0.2 b1.1 b1.2 b2.1 b2.2 b3.1 b3.2).mono ?_;rintro e w3 ⟨rfl,kW⟩)
    | (go_at_call 174;refine(Db _ _ (by omega) (by omega)).mono ?_;rintro e w4 ⟨rfl,rfl⟩)
    | (refine wpList_copy_splice rfl (.tmp 41) (.tmp 44) 80 80 rfl 5 Tryz.underlying80 Tryz.Uq _ _ _ _ _ _ rfl rfl w.heap.size done.length cur 5 ?d1 cs ?d2 ?d3 ?d4 ?d5 w.heap.size w ?d6 ?d7 ?_))
   case d1=>
    have hlr:w.heap.size<wr.heap.size:=(Array.getElem?_eq_some_iff.1 Ot.out).1;have gX:Below wr.heap.size wr w3:=jm.trans (kW.mono jm.size);rw[heap_alloc_old _ _ (by have:=gX.size;omega),gX.block _ hlr,Ot.out,Vz.out]
   case d2=>rw[Lh.out];exact(Nat.min_eq_left zu).symm
   case d3=>
    intro _;refine⟨HQ.out bH,_,rfl, ?_⟩;rw[HCS.out,HN.out];exact jh w3 [bq a0*4+bq a1 / 16,bq a1 % 16*16+bq a2 / 4,bq a2 % 4*64+bq a3] 188 m
   case d4=>rw[Lh.out,Vz.out];simp;omega
   case d5=>rw[HCS.out];exact xG _
   case d6=>
    have dA:Below w.heap.size w w3:=hb.trans ((jm.trans (kW.mono jm.size)).mono hb.size);exact dA.alloc dA.size _
   case d7=>exact Nat.le_refl _
   intro w5 HG5 jB;clear jm kW;go_wp2;go_roundw
   case rel=>
    refine⟨t',done++news,q',l - m,rfl,by rw[F3.out];omega,by rw[F3.out];have:=HM.out;omega, ?_, ?_,rfl, ?_, ?_,jB⟩
    ·rw[HD.out,Bv.out,HT.out];simp
    ·rw[HT.out];have:=HLM.out;omega
    ·intro h;rw[HQ'.out h,List.length_append,xH.out]
    ·rw[HG5.out,Vz.out,HCS.out,Dn,xH.out]
   case measure=>simp[lenOf];omega
  ·obtain rfl:l=0:=by omega
   have hd0:dec (ints t)= []:=List.eq_nil_of_length_eq_zero Bu.out.symm;have HDD:Hid (dec (ints s)=done):=by
    have:=HD.out;rw[hd0,List.append_nil]at this;exact this
   clear hd0;go_wp2
   go_ret3
   refine⟨rfl, ?_,hb⟩;have:=Ot.out;rw[HDD.out];simpa using this
end Go.Proofs.YtldegjjaknelgaaGreatDoor.Id
namespace Go.Proofs.YtldegjjaknelgaaGreatDoor.Id
theorem Gs(a b c d:Int)(r:List Int):oF (a::b::c::d::r)=oF r:=by
 unfold oF
 cases r with
 | nil=>simp
 | cons x y=>
  have e:(a::b::c::d::x::y).length % 4=(x::y).length % 4:=by simp only[List.length_cons];omega
  have e2:(a::b::c::d::x::y).getD ((a::b::c::d::x::y).length - 1) 0=(x::y).getD ((x::y).length - 1) 0:=by simp[List.getD_eq_getElem?_getD]
  rw[e,e2]
end Go.Proofs.YtldegjjaknelgaaGreatDoor.Id
namespace Go.Proofs.YtldegjjaknelgaaGreatDoor.Id
open Go.RowKit
theorem VA{w:World}{B:Nat}{v:Value}{L:List Int}(h:w.ownsRow B 5 1 v L.length (L.map (Value.int .u8)))(hL:∀x∈L,0<=x/\x<=255):∃q cq,v=.slice q L.length cq/\Rd w.heap.size w q cq L:=by
 rcases h.2 with⟨rfl,hn⟩| ⟨g,cap,cur,rfl,hg,xm,h1,h2,h3,h4⟩
 ·obtain rfl:L= []:=List.eq_nil_of_length_eq_zero hn;exact⟨none,0,rfl,Nat.le_refl _,hL,fun j hj=>by simp at hj⟩
 ·refine⟨_,cap,rfl,h1,hL,fun j hj=>⟨_,rfl,(Array.getElem?_eq_some_iff.1 xm).1, ?_⟩⟩;have e:(⟨g,0,none⟩:Addr).add j=⟨g,j,none⟩:=by unfold Addr.add;split<;>simp_all
  rw[e,h.cellAt j (by omega),List.getElem?_map,List.getElem?_eq_getElem hj,List.getD_eq_getElem?_getD,List.getElem?_eq_getElem hj]
  rfl
end Go.Proofs.YtldegjjaknelgaaGreatDoor.Id
namespace Go.Proofs.YtldegjjaknelgaaGreatDoor.Id
def mh(n:Int)(k:Nat):Int:=n / 2 ^ k % 2
def b6(n:Int):List Int:= [n / 32 % 2,n / 16 % 2,n / 8 % 2,n / 4 % 2,n / 2 % 2,n % 2]
theorem Ou(n:Int)(k:Nat):0<=mh n k/\mh n k<=1:=by unfold mh;omega
theorem VB(z:Int)(u:Nat)(h:0<=z):0<=z / 2 ^ u/\z / 2 ^ u<=z:=by
 have hp:(0:Int)<2 ^ u:=Int.pow_pos (by decide);exact⟨Int.ediv_nonneg h (by omega),Int.ediv_le_self _ h⟩
theorem Li(n:Int)(h₀:0<=n)(h₁:n<2 ^ 63):IntKind.i64.wrap n=n:=by rw[IntKind.wrap_i64];omega
theorem RO(z:Int)(u:Nat)(h0:0<=z)(h1:z<=255):bits .and .i64 (z / 2 ^ u) 1=mh z u:=by
 have h:=VB z u h0;exact bits_mask .i64 63 (by decide) Li 1 (by decide) (z / 2 ^ u) h.1 (by omega)
theorem RP(z:Int)(j:Nat)(h:j<6):(b6 z).take (j+1)=(b6 z).take j++ [mh z (5 - j)]:=by
 match j,h with
 | 0,_=>simp[b6,mh]
 | 1,_=>simp[b6,mh]
 | 2,_=>simp[b6,mh]
 | 3,_=>simp[b6,mh]
 | 4,_=>simp[b6,mh]
 | 5,_=>simp[b6,mh]
theorem gT(zs:List Int)(k:Nat)(h:k<zs.length):zs.take (k+1)=zs.take k++ [zs.getD k 0]:=by
 rw[List.take_succ_eq_append_getElem h,List.getD_eq_getElem?_getD,List.getElem?_eq_getElem h]
 rfl
theorem jG{P:List Int}(h:∀x∈P,0<=x/\x<=1)(j:Nat):0<=P.getD j 0/\P.getD j 0<=1:=by
 rw[List.getD_eq_getElem?_getD]
 rcases Nat.lt_or_ge j P.length with hj| hj
 ·rw[List.getElem?_eq_getElem hj];exact h _ (List.getElem_mem hj)
 ·rw[List.getElem?_eq_none hj];simp
def eight:List Int->List Int
 | x0::x1::x2::x3::x4::x5::x6::x7::r=>(2*(2*(2*(2*(2*(2*(2*x0+x1)+x2)+x3)+x4)+x5)+x6)+x7)::eight r
 | _=> []
def gq(zs:List Int):List Int:=zs.flatMap fun z=>b6 (bq z)
theorem sw(zs:List Int):(gq zs).length=6*zs.length:=by
 induction zs with
 | nil=>rfl
 | cons z r ih=>simp only[gq,List.flatMap_cons,List.length_append,List.length_cons]at ih ⊢;rw[ih];simp[b6];omega
theorem Gt(l:List Int)(z:Int):gq (l++ [z])=gq l++b6 (bq z):=by simp[gq]
theorem Ov(zs:List Int):∀x∈gq zs,0<=x/\x<=1:=by
 intro x hx;simp only[gq,List.mem_flatMap]at hx;obtain⟨z,_,hz⟩:=hx;simp only[b6,List.mem_cons,List.not_mem_nil,or_false]at hz;omega
theorem Gu(P:List Int)(m:Nat)(x0 x1 x2 x3 x4 x5 x6 x7:Int)(h:m+8<=P.length)(h0:P.getD m 0=x0)(h1:P.getD (m+1) 0=x1)(h2:P.getD (m+2) 0=x2)(h3:P.getD (m+3) 0=x3)(h4:P.getD (m+4) 0=x4)(h5:P.getD (m+5) 0=x5)(h6:P.getD (m+6) 0=x6)(h7:P.getD (m+7) 0=x7):
    eight (P.drop m)=(2*(2*(2*(2*(2*(2*(2*x0+x1)+x2)+x3)+x4)+x5)+x6)+x7)::eight (P.drop (m+8)):=by
 have e:P.drop m=x0::x1::x2::x3::x4::x5::x6::x7::P.drop (m+8):=by
  rw[List.drop_eq_getElem_cons (by omega),List.drop_eq_getElem_cons (by omega),List.drop_eq_getElem_cons (by omega),List.drop_eq_getElem_cons (by omega),List.drop_eq_getElem_cons (by omega),List.drop_eq_getElem_cons (by omega),List.drop_eq_getElem_cons (by omega),List.drop_eq_getElem_cons (by omega)];rw[List.getD_eq_getElem?_getD,List.getElem?_eq_getElem (by omega)]at h0 h1 h2 h3 h4 h5 h6 h7;simp only[Option.getD_some]at h0 h1 h2 h3 h4 h5 h6 h7;rw[h0,h1,h2,h3,h4,h5,h6,h7]
 rw[e,eight]
theorem Dr(P:List Int)(h:P.length<8):eight P= []:=by
 unfold eight
 split
 ·simp at h;omega
 ·rfl
theorem Ll(zs:List Int)(h4:zs.length % 4≠1):eight (gq zs)=dec zs:=by
 induction zs using dec.induct with
 | case1=>rfl
 | case2 a=>simp at h4
 | case3 a b=>
  have:=df a;have:=dh a;have:=df b;have:=dh b;simp only[gq,List.flatMap_cons,List.flatMap_nil,b6,List.append_nil,List.cons_append,List.nil_append,eight,dec]
  congr 1;omega
 | case4 a b c=>
  have:=df a;have:=dh a;have:=df b;have:=dh b;have:=df c;have:=dh c;simp only[gq,List.flatMap_cons,List.flatMap_nil,b6,List.append_nil,List.cons_append,List.nil_append,eight,dec]
  congr 1
  ·omega
  ·congr 1;omega
 | case5 a b c d r ih=>
  have:=df a;have:=dh a;have:=df b;have:=dh b;have:=df c;have:=dh c;have:=df d;have:=dh d;have ih':=ih (by simp only[List.length_cons]at h4;omega);simp only[gq,List.flatMap_cons,b6,dec]at ih' ⊢;simp only[List.cons_append,List.nil_append,eight];rw[ih']
  congr 1
  ·omega
  ·congr 1
   ·omega
   ·congr 1;omega
theorem Lm(zs:List Int)(h4:zs.length % 4≠1):(∀x∈(gq zs).drop (8*(dec zs).length),x=0)↔oF zs=0:=by
 induction zs using dec.induct with
 | case1=>simp[gq,oF]
 | case2 a=>simp at h4
 | case3 a b=>
  have:=df b;have:=dh b;simp only[gq,List.flatMap_cons,List.flatMap_nil,b6,List.append_nil,List.cons_append,List.nil_append,dec,List.length_cons,List.length_nil,Nat.zero_add,Nat.mul_one,List.drop_succ_cons,List.drop_zero];simp[oF];omega
 | case4 a b c=>
  have:=df c;have:=dh c;simp only[gq,List.flatMap_cons,List.flatMap_nil,b6,List.append_nil,List.cons_append,List.nil_append,dec,List.length_cons,List.length_nil,Nat.zero_add,Nat.reduceAdd,Nat.reduceMul,List.drop_succ_cons,List.drop_zero];simp[oF];omega
 | case5 a b c d r ih=>
  have ih':=ih (by simp only[List.length_cons]at h4;omega);rw[Gs,<-ih'];have e:(gq (a::b::c::d::r)).drop (8*(dec (a::b::c::d::r)).length)=(gq r).drop (8*(dec r).length):=by
   simp only[gq,List.flatMap_cons,b6,dec,List.length_cons,List.cons_append,List.nil_append];rw[show 8*((dec r).length+1+1+1)=8*(dec r).length+24 by omega];simp only[List.drop_succ_cons]
  rw[e]
end Go.Proofs.YtldegjjaknelgaaGreatDoor.Id
namespace Go.Proofs.YtldegjjaknelgaaGreatDoor.Id
open Go.RowKit
theorem Tryz.J9:(Tryz.prog.info? 3).map (fun i=>(i.zero,i.size,i.bytes))=some (some (.int .i64 0),1,8):=by kernel_rfl
theorem jo(n:Int)(w:World)(h0:0<=n)(h1:n<=63):
    Calls Tryz.prog 129 #[.int .i64 n] w fun e w'=>e=.returned (.int .u8 (J3 n))/\w=w':=by
 have x1:=RL .i64 n h0 h1;go_enter Tryz.func129,Tryz.ntmps129;go_wp2;go_ret;exact⟨rfl,rfl⟩
theorem vJ{w:World}{bT:Array Oper}{rest:List Oper}{o:Oper}{a:Act}{Q:Exit->Act->World->Prop}(rU:o.guard=none)(s x:Operand)(t e:TypeId)(k:IntKind)(bytes:Nat)
    (ho:o.op=.call {callee:=.builtin .append,args:=#[s,x],argTypes:=#[t,t]}) (ht:Tryz.prog.underlying t=some (.slice e))
    (sD:(Tryz.prog.info? e).map (fun i=>(i.zero,i.size,i.bytes))=some (some (.int k 0),1,bytes)) (CR:bytes<=8)
    (dM:Nat) (v:Value) (L:List Int) (hs:a.eval s=v) (aL:w.ownsRow dM e 1 v L.length (L.map (Value.int k)))
    (ad:Addr) (y:Int) (hx:a.eval x=.slice (some ad) 1 1) (hc:w.cell? ad=some (.int k y)) (dP:L.length<=1000000000) (jW:dM<=w.heap.size)
    (h:∀v' w',w'.ownsRow dM e 1 v' (L++ [y]).length ((L++ [y]).map (Value.int k))->Below dM w w'->wpList Tryz.prog bT Q rest (a.put o.dst v') w'):wpList Tryz.prog bT Q (o::rest) a w:=by
 obtain⟨i0,hi,oN,oI,rV⟩:=info_parts sD;refine wpList_append_own w rU s x t ho dM e i0 (.int k 0) 1 bytes ht hi oN oI rV rfl (by decide) v L.length (L.map (Value.int k)) hs aL ad 1 1 [.int k y] hx rfl (fun j u hj=> ?_) (fun u hu=> ?_) (by unfold maxLen;omega) ?_ jW ?_
 ·match j,hj with
  | 0,hj=>simp at hj;subst hj;simpa [Addr.add]using hc
 ·simp at hu;subst hu;rfl
 ·have:(L.length+1)*bytes<=(L.length+1)*8:=Nat.mul_le_mul_left _ CR;omega
 ·intro v' w' sF lu _;exact h v' w' (by rw[List.length_append,List.map_append];exact sF) ((Below.refl _ _).grown lu jW (kG aL))
def RdI(w:World)(p:Option Addr)(P:List Int):Prop:=∀j,j<P.length->∃g,p=some ⟨g,0,none⟩/\g<w.heap.size/\w.cell? ⟨g,j,none⟩=some (.int .i64 (P.getD j 0))
theorem RQ{w:World}{B:Nat}{v:Value}{L:List Int}(h:w.ownsRow B 3 1 v L.length (L.map (Value.int .i64))):∃q cq,v=.slice q L.length cq/\RdI w q L:=by
 rcases h.2 with⟨rfl,hn⟩| ⟨g,cap,cur,rfl,hg,xm,h1,h2,h3,h4⟩
 ·obtain rfl:L= []:=List.eq_nil_of_length_eq_zero hn;exact⟨none,0,rfl,fun j hj=>by simp at hj⟩
 ·refine⟨_,cap,rfl,fun j hj=>⟨g,rfl,(Array.getElem?_eq_some_iff.1 xm).1, ?_⟩⟩;rw[h.cellAt j (by omega),List.getElem?_map,List.getElem?_eq_getElem hj,List.getD_eq_getElem?_getD,List.getElem?_eq_getElem hj]
  rfl
theorem RdI.at{w w':World}{q:Option Addr}{P:List Int}(h:RdI w q P)(hb:Below w.heap.size w w')(m:Nat)(hm:m<P.length):∃g,q=some ⟨g,0,none⟩/\∀j x,m+j<P.length->P.getD (m+j) 0=x->w'.cell? ⟨g,m+j,none⟩=some (.int .i64 x):=by
 obtain⟨g,ha,_,_⟩:=h m hm;refine⟨g,ha,fun j x hj hx=> ?_⟩;obtain⟨g',Ur,hB,hc⟩:=h (m+j) hj;obtain rfl:g=g':=by rw[ha]at Ur;cases Ur;rfl
 rw[hb.cell (by exact hB),hc,hx]
theorem Ow(c:Int)(h:∀j:Nat,j<64->J3 j≠c):num c= -1:=by
 have h1:=Vr c;have h2:=Gf c
 by_cases hn:0<=num c
 ·have:=h (num c).toNat (by omega);rw[show((num c).toNat:Int)=num c by omega]at this;exact absurd (RA c hn) this
 ·omega
theorem qm(c:Int)(w:World):
    Calls Tryz.prog 101 #[.int .u8 c] w fun e w'=>e=.returned (.int .i64 (num c))/\w=w':=by
 go_enter Tryz.func101,Tryz.ntmps101;go_wp2
 go_loop [3] (fun i=>∃k:Nat,k<=64/\i=.int .i64 k/\∀j:Nat,j<k->J3 j≠c) (fun i=>64 - (intOf i).toNat)
 case atStart=>exact⟨0,by omega,rfl,fun j hj=>by omega⟩
 case round=>
  obtain⟨k,hk,rfl,eF⟩:=hrel;have HA:Hid (∀j:Nat,j<k->J3 j≠c):=eF;clear eF
  by_cases bH:k<64
  ·by_cases hc:J3 k=c
   ·have HN:Hid (num c=k):=by
      have:num c=k:=by rw[<-hc];exact RB k (by omega) (by omega)
      exact this
    have ze:(J3 k==c)=true:=by simp[hc]
    clear hc;go_wp2_with(go_at_call 129;refine(jo _ _ (by omega) (by omega)).mono ?_;rintro e w' ⟨rfl,rfl⟩);go_ret;exact⟨pI HN.out.symm,rfl⟩
   ·have ze:(J3 k==c)=false:=by simp[hc]
    have HC:Hid (J3 k≠c):=hc;clear hc;go_wp2_with(go_at_call 129;refine(jo _ _ (by omega) (by omega)).mono ?_;rintro e w' ⟨rfl,rfl⟩)
    go_round
    case rel=>exact⟨k+1,by omega,by go_num,fun j hj=>by
                          by_cases e:j=k
                          ·rw[e];exact HC.out
                          ·exact HA.out j (by omega)⟩
    case measure=>simp[intOf];omega
  ·obtain rfl:k=64:=by omega
   have HN:Hid (num c= -1):=Ow c HA.out;go_wp2;go_ret;exact⟨pI HN.out.symm,rfl⟩
theorem Lr(c:Int):(isLet c=true/\0<=num c/\bq c=num c)\/ (isLet c=false/\num c<0):=by
 unfold isLet bq
 by_cases h:0<=num c
 ·left;simp[h]
 ·right;simp[h];omega
theorem qo(s:ByteArray)(w:World)(hs:s.size<=5000):
    Calls Tryz.prog 73 #[.string s] w fun e w'=>((lM (ints s)).1≠0/\e=.returned (.tuple #[.slice none 0 0,.int .i64 (lM (ints s)).1,.int .i64 (lM (ints s)).2])∨
     (lM (ints s)).1=0/\∃q cq,e=.returned (.tuple #[.slice q (dec (ints s)).length cq,.int .i64 0,.int .i64 0])/\Rd w'.heap.size w' q cq (dec (ints s)))/\Below w.heap.size w w':=by
 have zg:Hid ((ints s).length=s.size):=aH s;go_enter Tryz.func73,Tryz.ntmps73;go_wp2
 go_loopw [5,6] (fun v i wr=>∃k:Nat,k<=s.size/\i=.int .i64 k/\(∀j,j<k->isLet ((ints s).getD j 0)=true)/\wr.ownsRow w.heap.size 3 1 v (gq ((ints s).take k)).length ((gq ((ints s).take k)).map (Value.int .i64))/\Below w.heap.size w wr)
  (fun _ i _=>s.size - (intOf i).toNat)
 case atStart=>exact⟨0,Nat.zero_le _,rfl,fun j hj=>by omega,World.ownsRow_nil _ _ _ _,Below.refl _ _⟩
 case round=>
  obtain⟨k,hk,rfl,eF,aL,hb⟩:=hrel;have HA:Hid (∀j,j<k->isLet ((ints s).getD j 0)=true):=eF;clear eF
  by_cases bH:k<s.size
  ·have HG:Hid ((ints s).getD k 0=(s[k].toNat:Int)):=cK s k bH;obtain⟨z,hz⟩:∃z,num (s[k].toNat:Int)=z:=⟨_,rfl⟩;have zjx:z<=63:=by rw[<-hz];exact Gf _
   rcases Lr (s[k].toNat:Int)with⟨hl,hn,h0⟩| ⟨hl,hn⟩
   ·have oN:0<=z:=by rw[<-hz];exact hn
    have HL:Hid (isLet (s[k].toNat:Int)=true):=hl;have HN0:Hid (bq (s[k].toNat:Int)=z):=by
     have:bq (s[k].toNat:Int)=z:=h0.trans hz;exact this
    obtain⟨D,hD⟩:∃D,D=gq ((ints s).take k):=⟨_,rfl⟩;rw[<-hD]at aL;have HD:Hid (D=gq ((ints s).take k)):=hD;have hDl:D.length<=6*k:=by rw[hD,sw];simp;omega
    have HDL:Hid (D.length<=6*k):=hDl;clear hl hn h0 hD hDl;go_wp2_with(go_at_call 101;refine(qm _ _).mono ?_;rintro e w' ⟨rfl,rfl⟩)
    go_loopw [5,8] (fun v i wx=>∃t:Nat,t<=6/\i=.int .i64 ((t:Int) - 1)/\wx.ownsRow w.heap.size 3 1 v (D++(b6 z).take (6 - t)).length ((D++(b6 z).take (6 - t)).map (Value.int .i64))/\Below w.heap.size w wx)
     (fun _ i _=>(intOf i+1).toNat)
    case atStart=>exact⟨6,Nat.le_refl _,rfl,by simpa using aL,hb⟩
    case round=>
     clear aL hb;obtain⟨t,ht,rfl,aL,hb⟩:=hrel
     by_cases htp:0<t
     ·obtain⟨u,rfl⟩:∃u,t=u+1:=⟨t - 1,by omega⟩;have zjy:=RO z u oN (by omega);have vK:=Ou z u;have HT:Hid ((b6 z).take (6 - u)=(b6 z).take (6 - (u+1))++ [mh z u]):=by
       have:=RP z (6 - (u+1)) (by omega);rw[show 6 - (u+1)+1=6 - u by omega,show 5 - (6 - (u+1))=u by omega]at this;exact this
      go_wp2_with(at_builtin;refine vJ rfl (.tmp 31) (.tmp 36) 121 3 .i64 8 rfl Tryz.underlying121 Tryz.J9 (by decide) w.heap.size _ (D++(b6 z).take (6 - (u+1))) rfl ?a0 _ (mh z u) rfl ?a1 ?a2 ?a3 ?_)
      case a0=>exact aL.alloc _
      case a1=>exact a_ (cur:= [_]) (heap_alloc_new _ _) 0 _ rfl
      case a2=>have:=HDL.out;rw[List.length_append,List.length_take];omega
      case a3=>have:=hb.size;simp;omega
      intro v' w' sF FX;have hB':Below w.heap.size w w':=(hb.alloc hb.size _).trans FX;clear aL hb FX;go_wp2;go_roundw
      case rel=>exact⟨u,by omega,by go_num,by rw[HT.out,<-List.append_assoc];simpa using sF,hB'⟩
      case measure=>simp[intOf]
     ·obtain rfl:t=0:=by omega
      go_wp2;go_roundw
      case rel=>
       refine⟨k+1,by omega,by go_num, ?_, ?_,hb⟩
       ·intro j hj
        by_cases e:j=k
        ·rw[e,HG.out];exact HL.out
        ·exact HA.out j (by omega)
       ·have e:gq ((ints s).take (k+1))=D++b6 z:=by rw[gT (ints s) k (by rw[zg.out];exact bH),Gt,HG.out,HN0.out,HD.out]
        rw[e];have e6:(b6 z).take (6 - 0)=b6 z:=rfl;rw[e6]at aL;exact aL
      case measure=>simp[intOf];omega
   ·have oN:z<0:=by rw[<-hz];exact hn
    have jV:=J4 (ints s) k (by rw[zg.out];exact bH) HA.out (by rw[HG.out];exact hl);have HF:Hid (lM (ints s)=(20,(k:Int))):=by
     have:lM (ints s)=(20,(k:Int)):=by unfold lM;rw[jV,zg.out,if_pos bH]
     exact this
    clear hl hn jV;go_wp2_with(go_at_call 101;refine(qm _ _).mono ?_;rintro e w' ⟨rfl,rfl⟩)
    go_ret3
    refine⟨.inl ⟨by rw[HF.out];simp, ?_⟩,hb⟩;rw[HF.out];exact pJ rfl rfl
  ·obtain rfl:k=s.size:=by omega
   have jV:Hid (xy (ints s)=s.size):=(Da (ints s) (by rw[zg.out];exact HA.out)).trans zg.out
   rename World=>wb
   have Us:(ints s).take s.size=ints s:=List.take_of_length_le (by rw[zg.out];exact Nat.le_refl _);rw[Us]at aL;obtain⟨L,hL⟩:∃L,L=gq (ints s):=⟨_,rfl⟩;rw[<-hL]at aL;have HL:Hid (L=gq (ints s)):=hL;have hLl:L.length=6*s.size:=by rw[hL,sw,zg.out]
   have Bu:Hid (L.length=6*s.size):=hLl;have zjz:L.length<=30000:=by omega
   clear Us hL hLl
   by_cases h1:s.size % 4=1
   ·have J5:(s.size:Int) % 4=1:=by omega
    have hf:lM (ints s)=(22,(s.size:Int)):=by unfold lM;rw[jV.out,zg.out,if_neg (by omega),if_pos h1]
    have HF:Hid (lM (ints s)=(22,(s.size:Int))):=hf;clear hf;go_wp2
    go_ret3
    refine⟨.inl ⟨by rw[HF.out];simp, ?_⟩,hb⟩;rw[HF.out];exact pJ rfl rfl
   ·have h1b:((s.size:Int) % 4==1)=false:=by simp;omega
    have HED:Hid (eight L=dec (ints s)):=by
     have:=Ll (ints s) (by rw[zg.out];exact h1);rw[<-HL.out]at this;exact this
    have F3:Hid ((∀x∈L.drop (8*(dec (ints s)).length),x=0)↔oF (ints s)=0):=by
     have:=Lm (ints s) (by rw[zg.out];exact h1);rw[<-HL.out]at this;exact this
    have hLb:∀x∈L,0<=x/\x<=1:=by rw[HL.out];exact Ov (ints s)
    have Ut:Hid (∀x∈L,0<=x/\x<=1):=hLb;obtain⟨q,cq,rfl,za1⟩:=RQ aL;clear hLb aL;go_wp2
    go_loopw [9,10] (fun v i wx=>∃(m:Nat) (done:List Int),m<=L.length/\m=8*done.length/\i=.int .i64 m/\eight L=done++eight (L.drop m)∧
        wx.ownsRow wb.heap.size 5 1 v done.length (done.map (Value.int .u8))/\Below wb.heap.size wb wx)
     (fun _ i _=>L.length - (intOf i).toNat)
    case atStart=>exact⟨0, [],Nat.zero_le _,rfl,rfl,rfl,World.ownsRow_nil _ _ _ _,Below.refl _ _⟩
    case round=>
     obtain⟨m,done,hm,hm8,rfl,za2,aL,CS⟩:=hrel;have HSX:Hid (eight L=done++eight (L.drop m)):=za2;have HM8:Hid (m=8*done.length):=hm8;have hdl:done.length<=30000:=by omega
     clear za2 hm8
     by_cases bH:m+8<=L.length
     ·obtain⟨g,rfl,fF⟩:=za1.at CS m (by omega);obtain⟨x0,zw⟩:∃x,L.getD m 0=x:=⟨_,rfl⟩;obtain⟨x1,Gv⟩:∃x,L.getD (m+1) 0=x:=⟨_,rfl⟩;obtain⟨x2,NM⟩:∃x,L.getD (m+2) 0=x:=⟨_,rfl⟩;obtain⟨x3,hx3⟩:∃x,L.getD (m+3) 0=x:=⟨_,rfl⟩;obtain⟨x4,hx4⟩:∃x,L.getD (m+4) 0=x:=⟨_,rfl⟩;obtain⟨x5,hx5⟩:∃x,L.getD (m+5) 0=x:=⟨_,rfl⟩;obtain⟨x6,hx6⟩:∃x,L.getD (m+6) 0=x:=⟨_,rfl⟩;obtain⟨x7,Ls⟩:∃x,L.getD (m+7) 0=x:=⟨_,rfl⟩;have b0:0<=x0/\x0<=1:=zw ▸ jG Ut.out m;have b1:0<=x1/\x1<=1:=Gv ▸ jG Ut.out (m+1);have b2:0<=x2/\x2<=1:=NM ▸ jG Ut.out (m+2);have b3:0<=x3/\x3<=1:=hx3 ▸ jG Ut.out (m+3);have b4:0<=x4/\x4<=1:=hx4 ▸ jG Ut.out (m+4);have b5:0<=x5/\x5<=1:=hx5 ▸ jG Ut.out (m+5);have b6:0<=x6/\x6<=1:=hx6 ▸ jG Ut.out (m+6);have b7:0<=x7/\x7<=1:=Ls ▸ jG Ut.out (m+7);have c0:=fF 0 x0 (by omega) zw;rw[Nat.add_zero]at c0;have c1:=fF 1 x1 (by omega) Gv;have c2:=fF 2 x2 (by omega) NM;have c3:=fF 3 x3 (by omega) hx3;have c4:=fF 4 x4 (by omega) hx4;have c5:=fF 5 x5 (by omega) hx5;have c6:=fF 6 x6 (by omega) hx6;have c7:=fF 7 x7 (by omega) Ls;have Bv:Hid (eight (L.drop m)=(2*(2*(2*(2*(2*(2*(2*x0+x1)+x2)+x3)+x4)+x5)+x6)+x7)::eight (L.drop (m+8))):=Gu L m x0 x1 x2 x3 x4 x5 x6 x7 bH zw Gv NM hx3 hx4 hx5 hx6 Ls;clear zw Gv NM hx3 hx4 hx5 hx6 Ls fF;go_wp2;refine wp_loop_rounds 9 ?_
      iterate 8 (rw[rounds_succ];go_wp2)
      rw[rounds_succ];go_wp2_with(at_builtin;refine vJ rfl (.tmp 64) (.tmp 67) 80 5 .u8 1 rfl Tryz.underlying80 Tryz.J6 (by decide) wb.heap.size _ done rfl ?a0 _ (2*(2*(2*(2*(2*(2*(2*x0+x1)+x2)+x3)+x4)+x5)+x6)+x7) rfl ?a1 ?a2 ?a3 ?_)
      case a0=>exact aL.alloc _
      case a1=>exact a_ (cur:= [_]) (heap_alloc_new _ _) 0 _ rfl
      case a2=>omega
      case a3=>have:=CS.size;simp;omega
      intro v' w' sF FX;have hB':Below wb.heap.size wb w':=(CS.alloc CS.size _).trans FX;clear aL CS FX c0 c1 c2 c3 c4 c5 c6 c7;go_wp2;go_roundw
      case rel=>
       have R:∃(m':Nat) (J_:List Int),m'<=L.length/\m'=8*J_.length/\Value.int .i64 ((m:Int)+8)=.int .i64 m'/\eight L=J_++eight (L.drop m')∧
           w'.ownsRow wb.heap.size 5 1 v' J_.length (J_.map (Value.int .u8))/\Below wb.heap.size wb w':=by
        refine⟨m+8,done++ [2*(2*(2*(2*(2*(2*(2*x0+x1)+x2)+x3)+x4)+x5)+x6)+x7],by omega,by have:=HM8.out;simp;omega,by go_num, ?_,by simpa using sF,hB'⟩;rw[HSX.out,Bv.out];simp
       first| exact R| ((repeat apply Exists.intro);exact⟨R,rfl⟩)
      case measure=>simp[intOf];omega
     ·have hdn:done=dec (ints s):=by
        have:=HSX.out;rw[HED.out,Dr (L.drop m) (by simp;omega)]at this;simpa using this.symm
      have HDN:Hid (done=dec (ints s)):=hdn;have hm8:=HM8.out;obtain⟨q2,cq2,rfl,hrq⟩:=VA aL (by rw[hdn];exact Vs _);have h8:8*(done.length:Int)=m:=by omega
      clear hdn aL hm8;have hdb:decide ((m:Int)+8<=(L.length:Int))=false:=by simp;omega
      go_wp2
      go_loop [13] (fun i=>∃k:Nat,m<=k/\k<=L.length/\i=.int .i64 k/\∀j,m<=j->j<k->L.getD j 0=0) (fun i=>L.length - (intOf i).toNat)
      case atStart=>exact⟨m,Nat.le_refl _,hm,rfl,fun j h1 h2=>by omega⟩
      case round=>
       obtain⟨k,NN,fG,rfl,eF⟩:=hrel;have HZ:Hid (∀j,m<=j->j<k->L.getD j 0=0):=eF;have VC:Hid (8*(dec (ints s)).length=m):=by
        have:=HM8.out;rw[HDN.out]at this;exact this.symm
       clear eF
       by_cases uf:k<L.length
       ·obtain⟨g,rfl,fF⟩:=za1.at CS k uf;obtain⟨x,hx⟩:∃x,L.getD k 0=x:=⟨_,rfl⟩;have c0:=fF 0 x (by omega) hx;rw[Nat.add_zero]at c0;have HX:Hid (L.getD k 0=x):=hx;clear hx fF
        by_cases zw:x=0
        ·subst zw;go_wp2
         go_round
         case rel=>exact⟨k+1,by omega,by omega,by go_num,fun j h1 h2=>by
                               by_cases e:j=k
                               ·rw[e];exact HX.out
                               ·exact HZ.out j h1 (by omega)⟩
         case measure=>simp[intOf];omega
        ·have hxb:(x !=0)=true:=by simp[zw]
         have hf:lM (ints s)=(21,(s.size:Int) - 1):=by
          have Ld:oF (ints s)≠0:=by
           intro h;have:=F3.out.2 h (L.getD k 0) (by
            rw[VC.out,List.getD_eq_getElem?_getD,List.getElem?_eq_getElem uf];simp only[Option.getD_some];have e:L[k]=(L.drop m)[k - m]'(by simp;omega):=by simp[Nat.add_sub_cancel' NN]
            rw[e];exact List.getElem_mem _)
           rw[HX.out]at this;exact zw this
          unfold lM;rw[jV.out,zg.out,if_neg (by omega),if_neg h1,if_pos Ld]
         have HF:Hid (lM (ints s)=(21,(s.size:Int) - 1)):=hf;clear hf zw;go_wp2
         go_ret3
         refine⟨.inl ⟨by rw[HF.out];simp, ?_⟩,hb.trans (CS.mono hb.size)⟩;rw[HF.out];exact pJ rfl rfl
       ·have hf:lM (ints s)=(0,0):=by
          have Ld:oF (ints s)=0:=by
           refine F3.out.1 fun x hx=> ?_;rw[VC.out]at hx;obtain⟨i,hi,rfl⟩:=List.mem_iff_getElem.1 hx;have hi':m+i<L.length:=by simp at hi;omega
           have:=HZ.out (m+i) (by omega) (by omega);rw[List.getD_eq_getElem?_getD,List.getElem?_eq_getElem hi']at this;simpa using this
          unfold lM;rw[jV.out,zg.out,if_neg (by omega),if_neg h1,if_neg (by simp[Ld])]
        have HF:Hid (lM (ints s)=(0,0)):=hf;clear hf;go_wp2
        go_ret3
        refine⟨.inr ⟨by rw[HF.out],q2,cq2, ?_, ?_⟩,hb.trans (CS.mono hb.size)⟩
        ·rw[<-HDN.out];rfl
        ·rw[<-HDN.out];exact hrq
theorem zx(s:ByteArray)(w:World)(hs:s.size<=5000)(hf:(lM (ints s)).1≠0):
    Calls Tryz.prog 73 #[.string s] w fun e w'=>e=.returned (.tuple #[.slice none 0 0,.int .i64 (lM (ints s)).1,.int .i64 (lM (ints s)).2])/\Below w.heap.size w w':=by
 refine(qo s w hs).mono fun e w' ⟨h,hb⟩=> ?_
 rcases h with⟨_,h⟩| ⟨h,_⟩
 ·exact⟨h,hb⟩
 ·exact absurd h hf
theorem xI(s:ByteArray)(w:World)(hs:s.size<=5000)(hf:(lM (ints s)).1=0):
    Calls Tryz.prog 73 #[.string s] w fun e w'=>∃q cq,e=.returned (.tuple #[.slice q (dec (ints s)).length cq,.int .i64 0,.int .i64 0])/\Rd w'.heap.size w' q cq (dec (ints s))/\Below w.heap.size w w':=by
 refine(qo s w hs).mono fun e w' ⟨h,hb⟩=> ?_
 rcases h with⟨h,_⟩| ⟨_,q,cq,h1,h2⟩
 ·exact absurd hf h
 ·exact⟨q,cq,h1,h2,hb⟩
def pK(s:ByteArray):Bool:=decide (s.size=12)&&decide ((ints s).getD 0 0=36)&&decide ((lM (ints (s.extract 1 s.size))).1=0)
theorem xJ(s:ByteArray)(h:s.size≠12):pK s=false:=by unfold pK;simp[h]
theorem Dt(s:ByteArray)(h:(ints s).getD 0 0≠36):pK s=false:=by
 unfold pK;have:decide ((ints s).getD 0 0=36)=false:=decide_eq_false h;rw[this];simp
theorem Ka(s:ByteArray)(h:(lM (ints (s.extract 1 s.size))).1≠0):pK s=false:=by
 unfold pK;rw[decide_eq_false h];simp
theorem Du(s:ByteArray)(h1:s.size=12)(h2:(ints s).getD 0 0=36)(h3:(lM (ints (s.extract 1 s.size))).1=0):pK s=true:=by
 unfold pK;rw[decide_eq_true h1,decide_eq_true h2,decide_eq_true h3];rfl
theorem Lt(t:ByteArray)(h:t.size=11):(dec (ints t)).length=8:=by
 have:=qN (ints t);rw[aH,h]at this;have e:((11:Nat):Int) / 4*3+qb (((11:Nat):Int) % 4)=8:=by decide
 omega
theorem Af(s:ByteArray)(w:World)(hs:s.size<=140737488351232):
    Calls Tryz.prog 133 #[.string s] w fun e w'=>e=.returned (.bool (pK s))/\Below w.heap.size w w':=by
 by_cases hp:∀h:0<s.size,s[0]≠36
 ·have HE:Hid (pK s=false):=by
    by_cases h0:s.size=0
    ·exact xJ s (by omega)
    ·refine Dt s ?_;rw[cK s 0 (by omega)];intro h;exact hp (by omega) ((Ol s[0] 36).1 h)
  go_enter Tryz.func133,Tryz.ntmps133;go_wp2_with(go_at_call 147;refine(si s 36 _ hs hp).mono ?_;rintro e w' ⟨rfl,rfl⟩);go_ret;exact⟨ai HE.out.symm,Below.refl _ _⟩
 ·obtain⟨h0,hc⟩:∃h:0<s.size,s[0]=36:=by simpa using hp
  clear hp;have HG:Hid ((ints s).getD 0 0=36):=by rw[cK s 0 h0,hc];rfl
  have hz:(s.extract 1 s.size).size=s.size - 1:=by simp
  obtain⟨t,ht⟩:∃t,t=s.extract 1 s.size:=⟨_,rfl⟩;have hcut:=fun wx:World=>gZ s 36 wx hs h0 hc;rw[<-ht]at hz hcut;have HT:Hid (t=s.extract 1 s.size):=ht;clear ht
  by_cases iY:s.size=12
  ·have zjA:t.size=11:=by omega
   have zh9:(t.size:Int)=11:=by omega
   by_cases hf:(lM (ints t)).1=0
   ·have HE:Hid (pK s=true):=Du s iY HG.out (by rw[<-HT.out];exact hf);go_enter Tryz.func133,Tryz.ntmps133;go_wp2_with(first
     | (go_at_call 147;refine(hcut _).mono ?_;rintro e w' ⟨rfl,rfl⟩)
     | (go_at_call 156;refine(Dp t _ (by omega) hf).mono ?_;rintro e w1 ⟨rfl,_,aP⟩))
    go_ret;exact⟨ai HE.out.symm,aP⟩
   ·have HE:Hid (pK s=false):=Ka s (by rw[<-HT.out];exact hf);have hfb:((lM (ints t)).1==0)=false:=by simp[hf]
    go_enter Tryz.func133,Tryz.ntmps133;go_wp2_with(first
     | (go_at_call 147;refine(hcut _).mono ?_;rintro e w' ⟨rfl,rfl⟩)
     | (go_at_call 156;refine(Gq t _ (by omega) hf).mono ?_;rintro e w1 ⟨rfl,aP⟩))
    go_ret;exact⟨ai HE.out.symm,aP⟩
  ·have HE:Hid (pK s=false):=xJ s iY;have hn:¬(t.size:Int)=11:=by omega
   have Kb:((t.size:Int) !=11)=true:=by simp[hn]
   go_enter Tryz.func133,Tryz.ntmps133;go_wp2_with(go_at_call 147;refine(hcut _).mono ?_;rintro e w' ⟨rfl,rfl⟩);go_ret;exact⟨ai HE.out.symm,Below.refl _ _⟩
theorem nJ(s:ByteArray)(w:World):
    Calls Tryz.prog 41 #[.string s] w fun e w'=>e=.returned (.bool (pK s))/\Below w.heap.size w w':=by
 by_cases iY:s.size=12
 ·have zjB:(s.size:Int)=12:=by omega
  have h0:0<s.size:=by omega
  have HG:Hid ((ints s).getD 0 0=(s[0].toNat:Int)):=cK s 0 h0
  by_cases hc:(s[0].toNat:Int)=36
  ·have hz:(s.extract 1 s.size).size=11:=by simp;omega
   have hsl:∀wx:World,(Instr.slice 9 (.string s) (some (.int .i64 1)) none none).run Tryz.prog wx=.ok (.string (s.extract 1 s.size)) wx:=
    fun wx=>run_slice_string_l wx 9 s Tryz.underlying9 .i64 1 (by omega) (by omega)
   obtain⟨t,ht⟩:∃t,t=s.extract 1 s.size:=⟨_,rfl⟩;rw[<-ht]at hz hsl;have HT:Hid (t=s.extract 1 s.size):=ht;clear ht;have hd:=Lt t hz
   by_cases hf:(lM (ints t)).1=0
   ·have HE:Hid (pK s=true):=Du s iY (by rw[HG.out];exact hc) (by rw[<-HT.out];exact hf);have x:=fun wx:World=>xI t wx (by omega) hf;rw[hd]at x;go_enter Tryz.func41,Tryz.ntmps41;go_wp2_with(go_at_call 73;refine(x _).mono ?_;rintro e w1 ⟨q,cq,rfl,_,aP⟩);go_ret;exact⟨ai HE.out.symm,aP⟩
   ·have HE:Hid (pK s=false):=Ka s (by rw[<-HT.out];exact hf);have hfb:((lM (ints t)).1==0)=false:=by simp[hf]
    have x:=fun wx:World=>zx t wx (by omega) hf;go_enter Tryz.func41,Tryz.ntmps41;go_wp2_with(go_at_call 73;refine(x _).mono ?_;rintro e w1 ⟨rfl,aP⟩);go_ret;exact⟨ai HE.out.symm,aP⟩
  ·have HE:Hid (pK s=false):=Dt s (by rw[HG.out];exact hc);have ze:((s[0].toNat:Int) !=36)=true:=by simp[hc]
   go_enter Tryz.func41,Tryz.ntmps41;go_wp2;go_ret;exact⟨ai HE.out.symm,Below.refl _ _⟩
 ·have HE:Hid (pK s=false):=xJ s iY;have hn:¬(s.size:Int)=12:=by omega
  have Kb:((s.size:Int) !=12)=true:=by simp[hn]
  go_enter Tryz.func41,Tryz.ntmps41;go_wp2;go_ret;exact⟨ai HE.out.symm,Below.refl _ _⟩
end Go.Proofs.YtldegjjaknelgaaGreatDoor.Id

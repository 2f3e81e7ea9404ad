/- A part. -/
import Derived.Test.YtldkblgclochjaaGreatDoorE09
import Derived.BigRegion
import Derived.RegionTactic
import Derived.Laws.CopyOwn
import Derived.Lib.ValidU
set_option maxRecDepth 100000
set_option maxHeartbeats 16000000
namespace Go.Proofs.YtldkblgclochjaaGreatDoor.Id
open Go.RowKit
theorem pU(s:ByteArray)(w:World)(I:s.size<=140737488351232):
    Calls Tryz.prog 86 #[.string s] w fun e w'=>e=.returned (.bool (Ha s))/\w=w':=by
 unfold Ha
 by_cases F:s.size=0
 ·have A:(s.size:Int)=0:=by omega
  go_enter Tryz.func86,Tryz.ntmps86;go_wp2;go_ret;exact⟨ak (pq _ _ _ F).symm,rfl⟩
 by_cases E:32<(s.size:Int)
 ·go_enter Tryz.func86,Tryz.ntmps86;go_wp2;go_ret;exact⟨ak (pn _ _ _ E).symm,rfl⟩
 go_enter Tryz.func86,Tryz.ntmps86;go_wp2
 go_loop [3] (fun i=>∃k:Nat,k<=s.size/\i=.int .i64 k/\∀j,j<k->CK ((ints s).getD j 0)=true) (fun i=>s.size - (intOf i).toNat)
 case atStart=>exact⟨0,Nat.zero_le _,rfl,fun j m=>by omega⟩
 case round=>
  obtain⟨k,H,rfl,x⟩:=hrel;have d:Hid (∀j,j<k->CK ((ints s).getD j 0)=true):=x;clear x
  by_cases u:k<s.size
  ·have h:Hid ((ints s).getD k 0=(s[k].toNat:Int)):=dS s k u;have G:(s[k].toNat:Int)<=255:=by have:=s[k].toNat_lt;omega
   by_cases h0:small (s[k].toNat:Int)=true
   ·have c:Hid (CK ((ints s).getD k 0)=true):=by rw[h.out];unfold CK;simp[h0];exact trivial
    go_wp2_with(go_at_call 84;refine(jC _ _).mono ?_;rintro e w' ⟨rfl,rfl⟩)
    go_round
    case rel=>exact⟨k+1,by omega,by go_num,fun j m=>by
                          by_cases e:j=k
                          ·rw[e];exact c.out
                          ·exact d.out j (by omega)⟩
    case measure=>simp[intOf];omega
   have f:small (s[k].toNat:Int)=false:=by simpa using h0
   clear h0
   by_cases z:(s[k].toNat:Int)=45
   ·have c:Hid (CK ((ints s).getD k 0)=true):=by rw[h.out];unfold CK;simp[z];exact trivial
    go_wp2_with(go_at_call 84;refine(jC _ _).mono ?_;rintro e w' ⟨rfl,rfl⟩)
    go_round
    case rel=>exact⟨k+1,by omega,by go_num,fun j m=>by
                          by_cases e:j=k
                          ·rw[e];exact c.out
                          ·exact d.out j (by omega)⟩
    case measure=>simp[intOf];omega
   have c:Hid (CK ((ints s).getD k 0)=false):=by rw[h.out];unfold CK;simp[f,z];exact trivial
   go_wp2_with(go_at_call 84;refine(jC _ _).mono ?_;rintro e w' ⟨rfl,rfl⟩);go_ret;exact⟨ak (sw _ _ _ k u c.out).symm,rfl⟩
  ·obtain rfl:k=s.size:=by omega
   go_wp2;go_ret;exact⟨ak (sj _ _ _ (by omega) (by omega) d.out).symm,rfl⟩
theorem sG(s:ByteArray)(w:World)(S:s.size<=140737488351232):
    Calls Tryz.prog 114 #[.string s] w fun e w'=>e=.returned (.bool (loc s))/\w=w':=by
 unfold loc
 by_cases I:s.size=0
 ·have F:(s.size:Int)=0:=by omega
  go_enter Tryz.func114,Tryz.ntmps114;go_wp2;go_ret;exact⟨ak (pq _ _ _ I).symm,rfl⟩
 by_cases H:32<(s.size:Int)
 ·go_enter Tryz.func114,Tryz.ntmps114;go_wp2;go_ret;exact⟨ak (pn _ _ _ H).symm,rfl⟩
 go_enter Tryz.func114,Tryz.ntmps114;go_wp2
 go_loop [3] (fun i=>∃k:Nat,k<=s.size/\i=.int .i64 k/\∀j,j<k->ze ((ints s).getD j 0)=true) (fun i=>s.size - (intOf i).toNat)
 case atStart=>exact⟨0,Nat.zero_le _,rfl,fun j m=>by omega⟩
 case round=>
  obtain⟨k,N,rfl,A⟩:=hrel;have f:Hid (∀j,j<k->ze ((ints s).getD j 0)=true):=A;clear A
  by_cases z:k<s.size
  ·have h:Hid ((ints s).getD k 0=(s[k].toNat:Int)):=dS s k z;have K:(s[k].toNat:Int)<=255:=by have:=s[k].toNat_lt;omega
   by_cases h0:small (s[k].toNat:Int)=true
   ·have d:Hid (ze ((ints s).getD k 0)=true):=by rw[h.out];unfold ze;simp[h0];exact trivial
    go_wp2_with(go_at_call 84;refine(jC _ _).mono ?_;rintro e w' ⟨rfl,rfl⟩)
    go_round
    case rel=>exact⟨k+1,by omega,by go_num,fun j m=>by
                          by_cases e:j=k
                          ·rw[e];exact d.out
                          ·exact f.out j (by omega)⟩
    case measure=>simp[intOf];omega
   have u:small (s[k].toNat:Int)=false:=by simpa using h0
   clear h0
   by_cases x:(s[k].toNat:Int)=45
   ·have d:Hid (ze ((ints s).getD k 0)=true):=by rw[h.out];unfold ze;simp[x];exact trivial
    go_wp2_with(go_at_call 84;refine(jC _ _).mono ?_;rintro e w' ⟨rfl,rfl⟩)
    go_round
    case rel=>exact⟨k+1,by omega,by go_num,fun j m=>by
                          by_cases e:j=k
                          ·rw[e];exact d.out
                          ·exact f.out j (by omega)⟩
    case measure=>simp[intOf];omega
   by_cases c:(s[k].toNat:Int)=95
   ·have d:Hid (ze ((ints s).getD k 0)=true):=by rw[h.out];unfold ze;simp[c];exact trivial
    go_wp2_with(go_at_call 84;refine(jC _ _).mono ?_;rintro e w' ⟨rfl,rfl⟩)
    go_round
    case rel=>exact⟨k+1,by omega,by go_num,fun j m=>by
                          by_cases e:j=k
                          ·rw[e];exact d.out
                          ·exact f.out j (by omega)⟩
    case measure=>simp[intOf];omega
   have d:Hid (ze ((ints s).getD k 0)=false):=by rw[h.out];unfold ze;simp[u,x,c];exact trivial
   have G:((s[k].toNat:Int) !=45)=true:=by simp[x]
   have E:((s[k].toNat:Int) !=95)=true:=by simp[c]
   go_wp2_with(go_at_call 84;refine(jC _ _).mono ?_;rintro e w' ⟨rfl,rfl⟩);go_ret;exact⟨ak (sw _ _ _ k z d.out).symm,rfl⟩
  ·obtain rfl:k=s.size:=by omega
   go_wp2;go_ret;exact⟨ak (sj _ _ _ (by omega) (by omega) f.out).symm,rfl⟩
theorem JW(s:ByteArray)(w:World)(I:s.size<=140737488351232):
    Calls Tryz.prog 44 #[.string s] w fun e w'=>e=.returned (.bool (aU s))/\w=w':=by
 unfold aU
 by_cases F:s.size=0
 ·have A:(s.size:Int)=0:=by omega
  go_enter Tryz.func44,Tryz.ntmps44;go_wp2;go_ret;exact⟨ak (pq _ _ _ F).symm,rfl⟩
 by_cases E:64<(s.size:Int)
 ·go_enter Tryz.func44,Tryz.ntmps44;go_wp2;go_ret;exact⟨ak (pn _ _ _ E).symm,rfl⟩
 go_enter Tryz.func44,Tryz.ntmps44;go_wp2
 go_loop [3] (fun i=>∃k:Nat,k<=s.size/\i=.int .i64 k/\∀j,j<k->CL ((ints s).getD j 0)=true) (fun i=>s.size - (intOf i).toNat)
 case atStart=>exact⟨0,Nat.zero_le _,rfl,fun j u=>by omega⟩
 case round=>
  obtain⟨k,H,rfl,z⟩:=hrel;have f:Hid (∀j,j<k->CL ((ints s).getD j 0)=true):=z;clear z
  by_cases x:k<s.size
  ·have m:Hid ((ints s).getD k 0=(s[k].toNat:Int)):=dS s k x;have G:(s[k].toNat:Int)<=255:=by have:=s[k].toNat_lt;omega
   by_cases h0:small (s[k].toNat:Int)=true
   ·have d:Hid (CL ((ints s).getD k 0)=true):=by rw[m.out];unfold CL;simp[h0];exact trivial
    go_wp2_with(go_at_call 84;refine(jC _ _).mono ?_;rintro e w' ⟨rfl,rfl⟩)
    go_round
    case rel=>exact⟨k+1,by omega,by go_num,fun j u=>by
                          by_cases e:j=k
                          ·rw[e];exact d.out
                          ·exact f.out j (by omega)⟩
    case measure=>simp[intOf];omega
   have h:small (s[k].toNat:Int)=false:=by simpa using h0
   clear h0
   by_cases c:(s[k].toNat:Int)=95
   ·have d:Hid (CL ((ints s).getD k 0)=true):=by rw[m.out];unfold CL;simp[c];exact trivial
    go_wp2_with(go_at_call 84;refine(jC _ _).mono ?_;rintro e w' ⟨rfl,rfl⟩)
    go_round
    case rel=>exact⟨k+1,by omega,by go_num,fun j u=>by
                          by_cases e:j=k
                          ·rw[e];exact d.out
                          ·exact f.out j (by omega)⟩
    case measure=>simp[intOf];omega
   have d:Hid (CL ((ints s).getD k 0)=false):=by rw[m.out];unfold CL;simp[h,c];exact trivial
   go_wp2_with(go_at_call 84;refine(jC _ _).mono ?_;rintro e w' ⟨rfl,rfl⟩);go_ret;exact⟨ak (sw _ _ _ k x d.out).symm,rfl⟩
  ·obtain rfl:k=s.size:=by omega
   go_wp2;go_ret;exact⟨ak (sj _ _ _ (by omega) (by omega) f.out).symm,rfl⟩
theorem x_(s:ByteArray)(c:Int)(w:World)(U:s.size<=1000000000):
    Calls Tryz.prog 83 #[.int .u8 c,.string s] w fun e w'=>e=.returned (told (parts c s))/\Below w.heap.size w w':=by
 go_enter Tryz.func83,Tryz.ntmps83;go_wp2
 go_loop [7] (fun i=>∃k:Nat,1<=k/\(k<=s.size\/ k=1)/\i=.int .i64 k/\∀j,1<=j->j<k->(ints s).getD j 0≠58) (fun i=>s.size - (intOf i).toNat)
 case atStart=>exact⟨1,Nat.le_refl _,.inr rfl,rfl,fun j h1 h2=>by omega⟩
 case round=>
  obtain⟨k,h1,T,rfl,K⟩:=hrel;have u:Hid (∀j,1<=j->j<k->(ints s).getD j 0≠58):=K;clear K
  by_cases H:k<s.size
  ·have h0:0<s.size:=by omega
   have h:Hid ((ints s).getD 0 0=(s[0].toNat:Int)):=dS s 0 h0
   by_cases F:(s[0].toNat:Int)=c
   ·have I:Hid ((ints s).getD k 0=(s[k].toNat:Int)):=dS s k H
    by_cases f:(s[k].toNat:Int)=58
    ·have x:Hid (parts c s=if loc (s.extract 1 k)=true/\Ha (s.extract (k+1) s.size)=true then(s.extract 1 k,s.extract (k+1) s.size,true)else(aH,aH,false)):=
       FD c s k (by rw[h.out];exact F) h1 H (by rw[I.out];exact f) u.out
     have z:(s.extract 1 k).size<=140737488351232:=by simp;omega
     have d:(s.extract (k+1) s.size).size<=140737488351232:=by simp;omega
     by_cases G:loc (s.extract 1 k)=true
     ·by_cases N:Ha (s.extract (k+1) s.size)=true
      ·go_wp2_with(first
         | (go_at_call 114;refine(sG _ _ z).mono ?_;rintro e w' ⟨rfl,rfl⟩)
         | (go_at_call 86;refine(pU _ _ d).mono ?_;rintro e w' ⟨rfl,rfl⟩))
       go_quiet (fail);go_wp2
       go_ret3
       exact⟨kJ (by rw[x.out,if_pos ⟨G,N⟩]),below_drewN _ _⟩
      ·have E:Ha (s.extract (k+1) s.size)=false:=by simpa using N
       go_wp2_with(first
        | (go_at_call 114;refine(sG _ _ z).mono ?_;rintro e w' ⟨rfl,rfl⟩)
        | (go_at_call 86;refine(pU _ _ d).mono ?_;rintro e w' ⟨rfl,rfl⟩))
       go_ret3
       exact⟨kJ (by rw[x.out,if_neg (by simp[E])];rfl),Below.refl _ _⟩
     ·have m:loc (s.extract 1 k)=false:=by simpa using G
      go_wp2_with(go_at_call 114;refine(sG _ _ z).mono ?_;rintro e w' ⟨rfl,rfl⟩)
      go_ret3
      exact⟨kJ (by rw[x.out,if_neg (by simp[m])];rfl),Below.refl _ _⟩
    ·go_wp2
     go_round
     case rel=>exact⟨k+1,by omega,.inl (by omega),by go_num,fun j A S=>by
                           by_cases e:j=k
                           ·rw[e,I.out];exact f
                           ·exact u.out j A (by omega)⟩
     case measure=>simp[intOf];omega
   ·go_wp2
    go_ret3
    exact⟨kJ (pE c s (.inr (.inl (by rw[h.out];exact F)))),Below.refl _ _⟩
  ·go_wp2
   go_ret3
   refine⟨kJ (pE c s ?_),Below.refl _ _⟩;exact .inr (.inr fun j A S=>u.out j A (by omega))
theorem JX(s:ByteArray)(w:World)(d:s.size<=1000000000):
    Calls Tryz.prog 85 #[.string s] w fun e w'=>e=.returned (told (parts 64 s))/\Below w.heap.size w w':=by
 go_enter Tryz.func85,Tryz.ntmps85;go_wp2_with(go_at_call 83;refine(x_ s 64 _ d).mono ?_;rintro e f ⟨rfl,c⟩;unfold told)
 go_ret3
 exact⟨rfl,c⟩
theorem JY(s:ByteArray)(w:World)(d:s.size<=1000000000):
    Calls Tryz.prog 43 #[.string s] w fun e w'=>e=.returned (told (parts 33 s))/\Below w.heap.size w w':=by
 go_enter Tryz.func43,Tryz.ntmps43;go_wp2_with(go_at_call 83;refine(x_ s 33 _ d).mono ?_;rintro e f ⟨rfl,c⟩;unfold told)
 go_ret3
 exact⟨rfl,c⟩
theorem wraps_u32(n:Int)(c:0<=n)(d:n<2 ^ 32):IntKind.u32.wrap n=n:=by rw[IntKind.wrap_u32];omega
theorem Bp(i:Nat)(x y:Int)(c:0<=x)(f:x % 2 ^ i=0)(h:x<4294967296)(d:0<=y)(k:y<2 ^ i)(j:y<4294967296):bits .or .u32 x y=x+y:=
 bits_join .u32 32 (by decide) wraps_u32 i x y c f (by omega) d k (by omega)
theorem zbP:∀i:Fin 64,(((⟨#[65,66,67,68,69,70,71,72,73,74,75,76,77,78,79,80,81,82,83,84,85,86,87,88,89,90,97,98,99,100,101,102,103,104,105,106,107,108,109,110,111,112,113,114,115,116,117,118,119,120,121,122,48,49,50,51,52,53,54,55,56,57,43,47]⟩:ByteArray)[i.val]'(by exact i.isLt)).toNat:Int)=Qp i.val:=by decide
theorem ZQ(k:IntKind)(i:Int)(h0:0<=i)(h1:i<=63)(w:World):
    (Instr.index 9 (.string ⟨#[65,66,67,68,69,70,71,72,73,74,75,76,77,78,79,80,81,82,83,84,85,86,87,88,89,90,97,98,99,100,101,102,103,104,105,106,107,108,109,110,111,112,113,114,115,116,117,118,119,120,121,122,48,49,50,51,52,53,54,55,56,57,43,47]⟩) (.int k i)).run Tryz.prog w=.ok (.int .u8 (Qp i)) w:=by
 obtain⟨n,rfl⟩:=Int.eq_ofNat_of_zero_le h0;rw[run_index_string w 9 _ k (n:Int) Tryz.underlying9,dif_pos ⟨by omega,by show(n:Int)<((64:Nat):Int);omega⟩];rw[<-zbP ⟨n,by omega⟩]
 rfl
theorem NQ(a b c d:Int)(w:World)(f:0<=a)(T:a<=255)(S:0<=b)(m:b<=255)(I:0<=c)(h:c<=255)(E:0<=d)(k:d<=255):
    Calls Tryz.prog 156 #[.agg #[.int .u8 a,.int .u8 b,.int .u8 c,.int .u8 d]] w fun e w'=>e=.returned (.agg #[.int .u8 (cZ a*4+cZ b / 16),.int .u8 (cZ b % 16*16+cZ c / 4),.int .u8 (cZ c % 4*64+cZ d)])/\Below w.heap.size w w':=by
 have H:=ft a;have U:=ft b;have V:=ft c;have nd:=ft d;have F:=fq a;have j:=fq b;have G:=fq c;have md:=fq d;have u:bits .or .u32 0 (cZ a)=cZ a:=by rw[Bp 6 _ _ (by omega) (by omega) (by omega) (by omega) (by omega) (by omega)];omega
 have o1:bits .or .u32 (cZ a*64) (cZ b)=cZ a*64+cZ b:=Bp 6 _ _ (by omega) (by omega) (by omega) (by omega) (by omega) (by omega);have o2:bits .or .u32 ((cZ a*64+cZ b)*64) (cZ c)=(cZ a*64+cZ b)*64+cZ c:=Bp 6 _ _ (by omega) (by omega) (by omega) (by omega) (by omega) (by omega);have x:bits .or .u32 (((cZ a*64+cZ b)*64+cZ c)*64) (cZ d)=((cZ a*64+cZ b)*64+cZ c)*64+cZ d:=Bp 6 _ _ (by omega) (by omega) (by omega) (by omega) (by omega) (by omega);have z:(((cZ a*64+cZ b)*64+cZ c)*64+cZ d) / 65536=cZ a*4+cZ b / 16:=by omega
 have N:(((cZ a*64+cZ b)*64+cZ c)*64+cZ d) / 256 % 256=cZ b % 16*16+cZ c / 4:=by omega
 have K:(((cZ a*64+cZ b)*64+cZ c)*64+cZ d) % 256=cZ c % 4*64+cZ d:=by omega
 have i0:∀w,(Instr.index 157 (.agg #[.int .u8 a,.int .u8 b,.int .u8 c,.int .u8 d]) (.int .i64 0)).run Tryz.prog w=.ok (.int .u8 a) w:=fun _=>by kernel_rfl
 have A:∀w,(Instr.index 157 (.agg #[.int .u8 a,.int .u8 b,.int .u8 c,.int .u8 d]) (.int .i64 1)).run Tryz.prog w=.ok (.int .u8 b) w:=fun _=>by kernel_rfl
 have i2:∀w,(Instr.index 157 (.agg #[.int .u8 a,.int .u8 b,.int .u8 c,.int .u8 d]) (.int .i64 2)).run Tryz.prog w=.ok (.int .u8 c) w:=fun _=>by kernel_rfl
 have i3:∀w,(Instr.index 157 (.agg #[.int .u8 a,.int .u8 b,.int .u8 c,.int .u8 d]) (.int .i64 3)).run Tryz.prog w=.ok (.int .u8 d) w:=fun _=>by kernel_rfl
 go_enter Tryz.func156,Tryz.ntmps156;go_wp2;refine wp_loop_rounds 5 ?_
 iterate 5 (rw[rounds_succ];go_wp2_with(go_at_call 168;refine(kU _ _ (by omega) (by omega)).mono ?_;rintro e w' ⟨rfl,rfl⟩))
 exact bodyPost_ret (v:=.agg #[.int .u8 (cZ a*4+cZ b / 16),.int .u8 (cZ b % 16*16+cZ c / 4),.int .u8 (cZ c % 4*64+cZ d)]) (by simp[results,Tryz.results156,go_sem]) rfl ⟨rfl,((Below.refl _ _).alloc (Nat.le_refl _) _).alloc (by simp) _⟩
theorem zdZ(x:Int)(c:0<=x)(d:x<4294967296):bits .and .u32 x 15=x % 16:=
 bits_mask .u32 32 (by decide) wraps_u32 4 (by decide) x c (by omega)
theorem zga(x:Int)(c:0<=x)(d:x<4294967296):bits .and .u32 x 3=x % 4:=
 bits_mask .u32 32 (by decide) wraps_u32 2 (by decide) x c (by omega)
theorem FH(s:ByteArray)(w:World)(x:s.size<=140737488351232)(h4:s.size % 4≠1):
    Calls Tryz.prog 169 #[.string s] w fun e w'=>e=.returned (.int .u32 (tX (ints s)))/\w=w':=by
 have d:Hid ((ints s).length=s.size):=ax s
 by_cases h0:s.size % 4=0
 ·have k:(s.size:Int) % 4=0:=by omega
  go_enter Tryz.func169,Tryz.ntmps169;go_wp2;go_ret;exact⟨mW (by unfold tX;rw[d.out,if_neg (by omega),if_neg (by omega)]),rfl⟩
 have f:=dS s (s.size - 1) (by omega);have u:(0:Int)<=(s[s.size - 1].toNat:Int):=by omega
 have m:(s[s.size - 1].toNat:Int)<=255:=by have:=s[s.size - 1].toNat_lt;omega
 have h:=fq (s[s.size - 1].toNat:Int);have n1:=ft (s[s.size - 1].toNat:Int);have j:Hid ((ints s).getD (s.size - 1) 0=(s[s.size - 1].toNat:Int)):=f;clear f
 by_cases h2:s.size % 4=2
 ·have c:(s.size:Int) % 4=2:=by omega
  go_enter Tryz.func169,Tryz.ntmps169;go_wp2_with(go_at_call 168;refine(kU _ _ (by omega) (by omega)).mono ?_;rintro e w' ⟨rfl,rfl⟩);go_ret;exact⟨mW (by unfold tX;rw[d.out,if_pos h2,j.out];exact zdZ _ h (by omega)),rfl⟩
 ·have c:(s.size:Int) % 4=3:=by omega
  go_enter Tryz.func169,Tryz.ntmps169;go_wp2_with(go_at_call 168;refine(kU _ _ (by omega) (by omega)).mono ?_;rintro e w' ⟨rfl,rfl⟩);go_ret;exact⟨mW (by unfold tX;rw[d.out,if_neg h2,if_pos (by omega),j.out];exact zga _ h (by omega)),rfl⟩
theorem Bq{a b c d:Int}(h:a=c)(f:b=d):Ending.returned (.tuple #[.int .i64 a,.int .i64 b])=.returned (.tuple #[.int .i64 c,.int .i64 d]):=by rw[h,f]
theorem FI(s:ByteArray)(w:World)(F:s.size<=140737488351232):
    Calls Tryz.prog 154 #[.string s] w fun e w'=>e=.returned (.tuple #[.int .i64 (pR (ints s)).1,.int .i64 (pR (ints s)).2])/\w=w':=by
 have c:Hid ((ints s).length=s.size):=ax s;go_enter Tryz.func154,Tryz.ntmps154;go_wp2
 go_loop [9] (fun i=>∃k:Nat,k<=s.size/\i=.int .i64 k/\∀j,j<k->isLet ((ints s).getD j 0)=true) (fun i=>s.size - (intOf i).toNat)
 case atStart=>exact⟨0,Nat.zero_le _,rfl,fun j G=>by omega⟩
 case round=>
  obtain⟨k,K,rfl,E⟩:=hrel;have h:Hid (∀j,j<k->isLet ((ints s).getD j 0)=true):=E;clear E
  by_cases f:k<s.size
  ·have A:Hid ((ints s).getD k 0=(s[k].toNat:Int)):=dS s k f;have I:(s[k].toNat:Int)<=255:=by have:=s[k].toNat_lt;omega
   by_cases m:isLet (s[k].toNat:Int)=true
   ·go_wp2_with(go_at_call 168;refine(kU _ _ (by omega) (by omega)).mono ?_;rintro e w' ⟨rfl,rfl⟩)
    go_round
    case rel=>exact⟨k+1,by omega,by go_num,fun j G=>by
                          by_cases e:j=k
                          ·rw[e,A.out];exact m
                          ·exact h.out j (by omega)⟩
    case measure=>simp[intOf];omega
   ·have H:isLet (s[k].toNat:Int)=false:=by simpa using m
    clear m;go_wp2_with(go_at_call 168;refine(kU _ _ (by omega) (by omega)).mono ?_;rintro e w' ⟨rfl,rfl⟩);go_ret2;have d:=Qq (ints s) k (by rw[c.out];exact f) h.out (by rw[A.out];exact H);exact⟨Bq (by unfold pR;rw[d,c.out,if_pos f]) (by unfold pR;rw[d,c.out,if_pos f]),rfl⟩
  ·obtain rfl:k=s.size:=by omega
   have d:Hid (CF (ints s)=s.size):=(JQ (ints s) (by rw[c.out];exact h.out)).trans c.out
   by_cases h1:s.size % 4=1
   ·have u:(s.size:Int) % 4=1:=by omega
    go_wp2;go_ret2;exact⟨Bq (by unfold pR;rw[d.out,c.out,if_neg (by omega),if_pos h1]) (by unfold pR;rw[d.out,c.out,if_neg (by omega),if_pos h1]),rfl⟩
   ·have u:¬(s.size:Int) % 4=1:=by omega
    by_cases x:tX (ints s)=0
    ·have z:Hid (tX (ints s)=0):=x;go_wp2_with(go_at_call 169;refine(FH s _ F (by omega)).mono ?_;rintro e w' ⟨rfl,rfl⟩);go_ret2;exact⟨Bq (by unfold pR;rw[d.out,c.out,if_neg (by omega),if_neg h1,if_neg (by simp[z.out])]) (by unfold pR;rw[d.out,c.out,if_neg (by omega),if_neg h1,if_neg (by simp[z.out])]),rfl⟩
    ·go_wp2_with(go_at_call 169;refine(FH s _ F (by omega)).mono ?_;rintro e w' ⟨rfl,rfl⟩);go_ret2;exact⟨Bq (by unfold pR;rw[d.out,c.out,if_neg (by omega),if_neg h1,if_pos x]) (by unfold pR;rw[d.out,c.out,if_neg (by omega),if_neg h1,if_pos x]),rfl⟩
theorem Tryz.IX:(Tryz.prog.info? 5).map (fun i=>(i.zero,i.size,i.bytes))=some (some (.int .u8 0),1,1):=by kernel_rfl
theorem Tryz.zaZ:(Tryz.prog.info? 5).map (·.size)=some 1:=by kernel_rfl
def Rd(B:Nat)(w:World)(p:Option Addr)(c:Nat)(rs:List Int):Prop:=
 rs.length<=c/\(∀x∈rs,0<=x/\x<=255)/\∀j,j<rs.length->∃a,p=some a/\a.block<B/\w.cell? (a.add j)=some (.int .u8 (rs.getD j 0))
theorem CP(l:List Int):∀v∈l.map (Value.int .u8),v.oneCell'=true:=by
 intro v c;simp only[List.mem_map]at c;obtain⟨x,_,rfl⟩:=c
 rfl
theorem V8(c:List Int):splice [Value.int .u8 0,.int .u8 0,.int .u8 0,.int .u8 0] 0 ((c.take 4).map (Value.int .u8))= [.int .u8 (c.getD 0 0),.int .u8 (c.getD 1 0),.int .u8 (c.getD 2 0),.int .u8 (c.getD 3 0)]:=by
 match c with
 | []=>rfl
 | [_]=>rfl
 | [_,_]=>rfl
 | [_,_,_]=>rfl
 | _::_::_::_::_=>simp[splice]
theorem Br{c:List Int}(h:∀x∈c,0<=x/\x<=255)(j:Nat):0<=c.getD j 0/\c.getD j 0<=255:=by
 rw[List.getD_eq_getElem?_getD]
 rcases Nat.lt_or_ge j c.length with d| d
 ·rw[List.getElem?_eq_getElem d];exact h _ (List.getElem_mem d)
 ·rw[List.getElem?_eq_none d];simp
theorem aQ{w:World}{g t:Nat}{c:Nat×Nat}{cur:List Value}(h:w.heap[g]?=some (.cells cur.toArray t c))(j:Nat)(v:Value)(d:cur[j]?=some v):w.cell? ⟨g,j,none⟩=some v:=by
 simp[World.cell?,h,d]
theorem sizeOf5(w:World):(sizeOf 5).run Tryz.prog w=.ok 1 w:=by kernel_rfl
theorem V9:Tryz.prog.elem 36=5:=by kernel_rfl
theorem NR:Tryz.prog.arrayLen 158=3:=by kernel_rfl
theorem Qr:Tryz.prog.elem 158=5:=by kernel_rfl
theorem NS(m:Nat)(d:m<=3)(a:Addr)(c:World):(Instr.sliceAt 158 (.pointer (some a)) none (some (.int .i64 (m:Int))) none).run Tryz.prog c=.ok (.slice (some a) m 3) c:=by
 rw[run_sliceAt_array_h c 158 a (by rw[NR,Qr];exact Tryz.underlying158) .i64 (m:Int) (by omega) (by rw[NR];omega),Qr,sizeOf5,NR];simp[Result.andThen,slicedAt,Addr.add]
theorem oz{w:World}{B e size n:Nat}{v:Value}{xs:List Value}(h:w.ownsRow B e size v n xs):∀k,v.ownBlock=some k->B<=k:=by
 intro k c
 rcases h.2 with⟨rfl,_⟩| ⟨g,cap,cur,rfl,d,_⟩
 ·cases c
 ·cases c;exact d
theorem mP(w:World)(L:List Int)(t n j:Nat)(u:Value)(h:((L.take n).map (Value.int .u8))[j]?=some u):
    (w.alloc (.cells (L.map (Value.int .u8)).toArray t)).cell? ((⟨w.heap.size,0,none⟩:Addr).add j)=some u:=by
 have e:(⟨w.heap.size,0,none⟩:Addr).add j=⟨w.heap.size,j,none⟩:=by unfold Addr.add;split<;>simp_all
 rw[e];refine aQ (heap_alloc_new _ _) j u ?_;rw[List.getElem?_map,List.getElem?_take]at h
 split at h
 ·rw[List.getElem?_map];exact h
 ·cases h
def lenOf:Value->Nat
 | .slice _ n _=>n
 | _=>0
theorem He(w:World)(k g d A:Nat)(s:ByteArray)(cur:List Value)(t n:Nat)(m:w.heap[g]?=some (.cells cur.toArray t (0,0)))(x:n=min s.size d)(u:n<=cur.length):
    (Builtin.copy_ #[36,9] k #[.slice (some ⟨g,0,none⟩) d A,.string s]).run Tryz.prog w=
     .ok (goInt n) (w.setRow g (splice cur 0 (((ints s).take n).map (Value.int .u8))).toArray):=by
 have j:(((ints s).take n).map (Value.int .u8)).length=n:=by simp[ax];omega
 have c:=run_storeCells_at Tryz.prog g 0 t (((ints s).take n).map (Value.int .u8)) 0 cur.toArray w m (by rw[j];simpa using u) (CP _);have f:Nat.min s.size d=n:=x.symm;have h:List.take n (List.map (fun b:UInt8=>Value.int IntKind.u8 (b.toNat:Int)) s.data.toList)=((ints s).take n).map (Value.int .u8):=by
  simp[ints,List.map_take]
  rfl
 rw[j]at c;simp only[Nat.add_zero]at c
 cases hq:Tryz.prog.info? 5 with
 | none=>have:=Tryz.zaZ;simp[hq]at this
 | some i=>
  simp[Builtin.copy_,run_underlying Tryz.underlying36,Builtin.lenOf,Builtin.firstCells,sizeOf,typeInfo,hq,f];rw[h,c];have z:min n (ints s).length=n:=by rw[ax];omega
  simp[Result.andThen,splice,z]
theorem AP{w:World}{dQ:Array Oper}{rest:List Oper}{o:Oper}{a:Act}{Q:Exit->Act->World->Prop}(I:o.guard=none)(d s:Operand)
    (E:o.op=.call {callee:=.builtin .copy,args:=#[d,s],argTypes:=#[36,9]})
    (g f m:Nat) (x:ByteArray) (u:a.eval d=.slice (some ⟨g,0,none⟩) f m) (N:a.eval s=.string x)
    (cur:List Value) (t:Nat) (j:w.heap[g]?=some (.cells cur.toArray t (0,0))) (n:Nat) (G:n=min x.size f) (A:n<=cur.length) (B:Nat) (k:World) (z:Below B k w) (c:B<=g)
    (h:∀w',Hid (w'.heap[g]?=some (.cells (splice cur 0 (((ints x).take n).map (Value.int .u8))).toArray t (0,0)))->Below B k w'->wpList Tryz.prog dQ Q rest (a.put o.dst (goInt n)) w'):
    wpList Tryz.prog dQ Q (o::rest) a w:=by
 refine wpList_plain I fun K H=> ?_;have F:=He w o.type g f m x cur t n j G A;unfold Oper.wp;simp[execOp,E,resolve,invoke,builtin,u,N,F,Result.andThen];exact H _ _ (h _ (show _=_ by rw[List.map_take];exact setRow_heap w g _ _ t _ j) (below_setRow z c _))
theorem vG{a b c d:Int}{v:Value}(h:a=c)(f:b=d):Ending.returned (.tuple #[v,.int .i64 a,.int .i64 b])=.returned (.tuple #[v,.int .i64 c,.int .i64 d]):=by rw[h,f]
theorem NU(s:ByteArray)(w:World)(c:s.size<=140737488351232)(d:(pR (ints s)).1≠0):
    Calls Tryz.prog 131 #[.string s] w fun e w'=>e=.returned (.tuple #[.slice none 0 0,.int .i64 (pR (ints s)).1,.int .i64 (pR (ints s)).2])/\Below w.heap.size w w':=by
 go_enter Tryz.func131,Tryz.ntmps131;go_wp2_with(go_at_call 154;refine(FI s _ c).mono ?_;rintro e w' ⟨rfl,rfl⟩)
 go_ret3
 exact⟨vG rfl rfl,Below.refl _ _⟩
theorem Rest.cut(q:Option Addr)(l m g d:Nat)(k:m<=l)(j:0<l->q=some ⟨g,d,none⟩):
    ∃f,(∀c,(Instr.slice 36 (.slice q l l) (some (.int .i64 (m:Int))) none none).run Tryz.prog c=.ok (.slice f (l - m) (l - m)) c)/\(0<l - m->f=some ⟨g,d+m,none⟩):=by
 refine⟨if l=m then q else q.map (·.add (m*1)),fun c=> ?_,fun h=> ?_⟩
 ·rw[run_slice_l c 36 q l l (by rw[V9];exact Tryz.underlying36) .i64 (m:Int) (by omega) (by omega),V9,sizeOf5];simp only[Result.andThen,Int.toNat_natCast,sliced]
 ·rw[if_neg (by omega),j (by omega)];simp[Addr.add]
theorem Bf{w:World}{B g n:Nat}{xs:List Value}(h:w.ownsRow B 5 1 (.slice (some ⟨g,0,none⟩) n n) n xs):w.heap[g]?=some (.cells xs.toArray 5 (0,0)):=by
 rcases h.2 with⟨c,_⟩| ⟨k,cap,cur,f,j,d,h1,h2,h3,h4⟩
 ·cases c
 ·cases f
  rw[d];have e:xs=cur.toList:=by rw[<-h4,List.take_of_length_le (by simp;omega)]
  rw[e]
theorem SA(n:Nat):(madeCells #[Value.int .u8 0] n).toList=(List.replicate n (0:Int)).map (Value.int .u8):=by
 rw[toList_madeCells_one];simp
theorem JZ(done news:List Int)(l:Nat):
    splice ((done++List.replicate l (0:Int)).map (Value.int .u8)) done.length (news.map (Value.int .u8))=((done++news)++List.replicate (l - news.length) (0:Int)).map (Value.int .u8):=by
 simp only[splice,List.map_append,List.length_map,List.append_assoc];rw[List.take_append_of_le_length (by simp),List.take_of_length_le (by simp),List.drop_append,List.drop_eq_nil_of_le (by simp),List.map_replicate,List.drop_replicate];simp
theorem J2(s:ByteArray)(w:World)(hs:s.size<=140737488351232)(hf:(pR (ints s)).1=0):
    Calls Tryz.prog 131 #[.string s] w fun e w'=>e=.returned (.tuple #[.slice (some ⟨w.heap.size,0,none⟩) (dec (ints s)).length (dec (ints s)).length,.int .i64 0,.int .i64 0])∧
     w'.heap[w.heap.size]?=some (.cells ((dec (ints s)).map (Value.int .u8)).toArray 5 (0,0))/\Below w.heap.size w w':=by
 obtain⟨i0,hi,xG,zU,Bd⟩:=info_parts Tryz.IX;have h4:s.size % 4≠1:=by have:=(VT _ hf).2.1;rw[ax]at this;exact this
 obtain⟨L,K⟩:∃L,L=(dec (ints s)).length:=⟨_,rfl⟩;have E:((L:Nat):Int)=(s.size:Int) / 4*3+v_ ((s.size:Int) % 4):=by rw[K,xg,ax]
 have IC:=ZL ((s.size:Int) % 4) (by omega);have HL:Hid (L=(dec (ints s)).length):=K;have H:Hid (((L:Nat):Int)=(s.size:Int) / 4*3+v_ ((s.size:Int) % 4)):=E;have Eg:L<=140737488351232:=by omega
 rw[<-K];clear E K;go_enter Tryz.func131,Tryz.ntmps131;go_wp2_with(first
  | (go_at_call 154;refine(FI s _ hs).mono ?_;rintro e w' ⟨rfl,rfl⟩)
  | (go_at_call 155;refine(Aj _ _ (by omega) (by omega)).mono ?_;rintro e w' ⟨rfl,rfl⟩)
  | (at_make;refine wpList_make_full _ rfl _ _ 36 rfl w.heap.size 5 i0 (.int .u8 0) 1 Tryz.underlying36 hi xG zU _ _ _ _ L rfl rfl ?b0 ?b1 ?b2 ?b3 (Nat.le_refl _) ?_))
 case b0=>exact H.out.symm
 case b1=>exact H.out.symm
 case b2=>rw[Bd];omega
 case b3=>unfold maxLen;omega
 intro w1 aV tK;have bK:Below w.heap.size w w1:=(Below.refl _ _).grown tK (Nat.le_refl _) (by simp);have Uu:Hid (w1.heap[w.heap.size]?=some (.cells ((([]:List Int)++List.replicate L (0:Int)).map (Value.int .u8)).toArray 5 (0,0))):=by
  have:=Bf aV;rw[SA]at this;exact this
 clear aV tK;go_wp2
 go_loopw [0,8] (fun sv rv wr=>∃(t:ByteArray) (done:List Int) (q:Option Addr) (l:Nat),sv=.string t/\t.size<=s.size/\t.size % 4≠1/\dec (ints s)=done++dec (ints t)/\l=(dec (ints t)).length∧
     rv=.slice q l l/\(0<l->q=some ⟨w.heap.size,done.length,none⟩)/\wr.heap[w.heap.size]?=some (.cells ((done++List.replicate l (0:Int)).map (Value.int .u8)).toArray 5 (0,0))/\Below w.heap.size w wr)
  (fun _ rv _=>lenOf rv)
 case atStart=>exact⟨s, [],_,L,rfl,Nat.le_refl _,h4,rfl,HL.out,rfl,fun _=>rfl,Uu.out,bK⟩
 case round=>
  clear Uu bK;obtain⟨t,done,q,l,rfl,ht,ht4,tT,E,rfl,hq,c,hb⟩:=hrel;have HD:Hid (dec (ints s)=done++dec (ints t)):=tT;have D_:Hid (l=(dec (ints t)).length):=E;have Z:Hid (wr.heap[w.heap.size]?=some (.cells ((done++List.replicate l (0:Int)).map (Value.int .u8)).toArray 5 (0,0))):=c;have HQ:Hid (0<l->q=some ⟨w.heap.size,done.length,none⟩):=hq;have SB:0<l↔0<t.size:=by rw[E,<-ax];exact ZM _ (by rw[ax];exact ht4)
  clear tT E c hq
  by_cases bQ:0<l
  ·have YI:0<t.size:=SB.1 bQ;obtain⟨m,N⟩:∃m,m+1=min t.size 4:=⟨min t.size 4 - 1,by omega⟩;have FC:1<=m:=by omega
   have hm3:m<=3:=by omega
   obtain⟨a0,f⟩:∃a,(ints t).getD 0 0=a:=⟨_,rfl⟩;obtain⟨a1,d⟩:∃a,(ints t).getD 1 0=a:=⟨_,rfl⟩;obtain⟨a2,j⟩:∃a,(ints t).getD 2 0=a:=⟨_,rfl⟩;obtain⟨a3,k⟩:∃a,(ints t).getD 3 0=a:=⟨_,rfl⟩;have b0:0<=a0/\a0<=255:=f ▸ Br (nR t) 0;have b1:0<=a1/\a1<=255:=d ▸ Br (nR t) 1;have b2:0<=a2/\a2<=255:=j ▸ Br (nR t) 2;have b3:0<=a3/\a3<=255:=k ▸ Br (nR t) 3;have S:=VU (ints t) m a0 a1 a2 a3 FC (by rw[ax];exact N) f d j k;obtain⟨news,T⟩:∃news,news= [cZ a0*4+cZ a1 / 16,cZ a1 % 16*16+cZ a2 / 4,cZ a2 % 4*64+cZ a3].take m:=⟨_,rfl⟩;have mo:news.length=m:=by rw[T];simp;omega
   rw[<-T]at S;have rM:l=m+(dec ((ints t).drop (m+1))).length:=by rw[D_.out,S];simp[mo]
   have lG:m<=l:=by omega
   have hS:splice [Value.int .u8 0,.int .u8 0,.int .u8 0,.int .u8 0] 0 (((ints t).take (m+1)).map (Value.int .u8))= [.int .u8 a0,.int .u8 a1,.int .u8 a2,.int .u8 a3]:=by
    have e3:(ints t).take (m+1)=(ints t).take 4:=by rw[N];exact(List.take_eq_take_iff.2 (by rw[ax];omega))
    rw[e3,V8,f,d,j,k]
   have HS:Hid (splice [Value.int .u8 0,.int .u8 0,.int .u8 0,.int .u8 0] 0 (((ints t).take (m+1)).map (Value.int .u8))= [.int .u8 a0,.int .u8 a1,.int .u8 a2,.int .u8 a3]):=hS;have vv:Hid (dec (ints t)=news++dec ((ints t).drop (m+1))):=S;have HN:Hid (news= [cZ a0*4+cZ a1 / 16,cZ a1 % 16*16+cZ a2 / 4,cZ a2 % 4*64+cZ a3].take m):=T;have nH:Hid (news.length=m):=mo;have HM:Hid (m+1=min t.size 4):=N;have HLM:Hid (l=m+(dec ((ints t).drop (m+1))).length):=rM;obtain⟨x,A⟩:∃x,x=t.extract (m+1) t.size:=⟨_,rfl⟩;have lM:∀U,(Instr.slice 9 (.string t) (some (.int .i64 ((m:Int)+1))) none none).run Tryz.prog U=.ok (.string x) U:=by
    intro U;rw[run_slice_string_l U 9 t Tryz.underlying9 .i64 ((m:Int)+1) (by omega) (by omega),A]
    rfl
   have HT:Hid (ints x=(ints t).drop (m+1)):=by
    have:=lH t (m+1);rw[<-A]at this;exact this
   have SC:x.size=t.size - (m+1):=by rw[<-ax,HT.out,List.length_drop,ax]
   have IP:Hid (x.size=t.size - (m+1)):=SC;obtain⟨q',hsl,I⟩:=Rest.cut q l m w.heap.size done.length lG HQ.out;have V:Hid (0<l - m->q'=some ⟨w.heap.size,done.length+m,none⟩):=I;have zhm:=NS m hm3;clear N f d j k S T mo rM hS A SC I;have hwb:Below wr.heap.size wr (wr.alloc (.cells #[.int .u8 0,.int .u8 0,.int .u8 0,.int .u8 0] 157)):=(Below.refl _ _).alloc (Nat.le_refl _) _;go_wp2_with(refine AP rfl (.tmp 35) (.tmp 36) rfl wr.heap.size _ _ t rfl rfl [.int .u8 0,.int .u8 0,.int .u8 0,.int .u8 0] 157 ?c1 (m+1) ?c2 ?c3 wr.heap.size wr ?c4 ?c5 ?_)
   case c1=>exact heap_alloc_new _ _
   case c2=>exact HM.out
   case c3=>simp;omega
   case c4=>exact hwb
   case c5=>exact Nat.le_refl _
   intro w2 HG F;have c:=HG.out;rw[<-List.map_take,HS.out]at c;have zhn:=aQ c 0 _ rfl;have zho:=aQ c 1 _ rfl;have zhp:=aQ c 2 _ rfl;have zhq:=aQ c 3 _ rfl;clear c HG;obtain⟨cs,Qg⟩:∃cs,cs=news.map (Value.int .u8):=⟨_,rfl⟩;have Ed:cs.length=m:=by rw[Qg,List.length_map,nH.out]
   have z:Hid (cs=news.map (Value.int .u8)):=Qg;clear Qg;obtain⟨cur,G⟩:∃cur,cur=(done++List.replicate l (0:Int)).map (Value.int .u8):=⟨_,rfl⟩;have u:Hid (cur=(done++List.replicate l (0:Int)).map (Value.int .u8)):=G;clear G;have RI:Hid (cs.length=m):=Ed;go_wp2_with(first
    | (go_at_call 156;refine(NQ a0 a1 a2 a3 _ b0.1 b0.2 b1.1 b1.2 b2.1 b2.2 b3.1 b3.2).mono ?_;rintro e w3 ⟨rfl,UB⟩)
    | (go_at_call 155;refine(JR _ _ (by omega) (by omega)).mono ?_;rintro e w4 ⟨rfl,rfl⟩)
    | (refine wpList_copy_splice rfl (.tmp 41) (.tmp 44) 36 36 rfl 5 Tryz.underlying36 Tryz.zaZ _ _ _ _ _ _ rfl rfl w.heap.size done.length cur 5 ?d1 cs ?d2 ?d3 ?d4 ?d5 w.heap.size w ?d6 ?d7 ?_))
   case d1=>
    have Y:w.heap.size<wr.heap.size:=(Array.getElem?_eq_some_iff.1 Z.out).1;have gV:Below wr.heap.size wr w3:=F.trans (UB.mono F.size);rw[heap_alloc_old _ _ (by have:=gV.size;omega),gV.block _ Y,Z.out,u.out]
   case d2=>rw[RI.out];exact(Nat.min_eq_left lG).symm
   case d3=>
    intro _;refine⟨HQ.out bQ,_,rfl, ?_⟩;rw[z.out,HN.out];exact mP w3 [cZ a0*4+cZ a1 / 16,cZ a1 % 16*16+cZ a2 / 4,cZ a2 % 4*64+cZ a3] 158 m
   case d4=>rw[RI.out,u.out];simp;omega
   case d5=>rw[z.out];exact CP _
   case d6=>
    have dh:Below w.heap.size w w3:=hb.trans ((F.trans (UB.mono F.size)).mono hb.size);exact dh.alloc dh.size _
   case d7=>exact Nat.le_refl _
   intro w5 HG5 oP;clear F UB;go_wp2;go_roundw
   case rel=>
    refine⟨x,done++news,q',l - m,rfl,by rw[IP.out];omega,by rw[IP.out];have:=HM.out;omega, ?_, ?_,rfl, ?_, ?_,oP⟩
    ·rw[HD.out,vv.out,HT.out];simp
    ·rw[HT.out];have:=HLM.out;omega
    ·intro h;rw[V.out h,List.length_append,nH.out]
    ·rw[HG5.out,u.out,z.out,JZ,nH.out]
   case measure=>simp[lenOf];omega
  ·obtain rfl:l=0:=by omega
   have En:dec (ints t)= []:=List.eq_nil_of_length_eq_zero D_.out.symm;have X:Hid (dec (ints s)=done):=by
    have:=HD.out;rw[En,List.append_nil]at this;exact this
   clear En;go_wp2
   go_ret3
   refine⟨rfl, ?_,hb⟩;have:=Z.out;rw[X.out];simpa using this
end Go.Proofs.YtldkblgclochjaaGreatDoor.Id
namespace Go.Proofs.YtldkblgclochjaaGreatDoor.Id
theorem NV(a b c d:Int)(r:List Int):tX (a::b::c::d::r)=tX r:=by
 unfold tX
 cases r with
 | nil=>simp
 | cons x y=>
  have e:(a::b::c::d::x::y).length % 4=(x::y).length % 4:=by simp only[List.length_cons];omega
  have f:(a::b::c::d::x::y).getD ((a::b::c::d::x::y).length - 1) 0=(x::y).getD ((x::y).length - 1) 0:=by simp[List.getD_eq_getElem?_getD]
  rw[e,f]
end Go.Proofs.YtldkblgclochjaaGreatDoor.Id
namespace Go.Proofs.YtldkblgclochjaaGreatDoor.Id
open Go.RowKit
theorem M3{w:World}{B:Nat}{v:Value}{L:List Int}(h:w.ownsRow B 5 1 v L.length (L.map (Value.int .u8)))(f:∀x∈L,0<=x/\x<=255):∃q d,v=.slice q L.length d/\Rd w.heap.size w q d L:=by
 rcases h.2 with⟨rfl,m⟩| ⟨g,cap,cur,rfl,u,k,h1,h2,h3,h4⟩
 ·obtain rfl:L= []:=List.eq_nil_of_length_eq_zero m;exact⟨none,0,rfl,Nat.le_refl _,f,fun j c=>by simp at c⟩
 ·refine⟨_,cap,rfl,h1,f,fun j c=>⟨_,rfl,(Array.getElem?_eq_some_iff.1 k).1, ?_⟩⟩;have e:(⟨g,0,none⟩:Addr).add j=⟨g,j,none⟩:=by unfold Addr.add;split<;>simp_all
  rw[e,h.cellAt j (by omega),List.getElem?_map,List.getElem?_eq_getElem c,List.getD_eq_getElem?_getD,List.getElem?_eq_getElem c]
  rfl
end Go.Proofs.YtldkblgclochjaaGreatDoor.Id
namespace Go.Proofs.YtldkblgclochjaaGreatDoor.Id
def qP(n:Int)(k:Nat):Int:=n / 2 ^ k % 2
def b6(n:Int):List Int:= [n / 32 % 2,n / 16 % 2,n / 8 % 2,n / 4 % 2,n / 2 % 2,n % 2]
theorem Wd(n:Int)(k:Nat):0<=qP n k/\qP n k<=1:=by unfold qP;omega
theorem zbS(z:Int)(u:Nat)(h:0<=z):0<=z / 2 ^ u/\z / 2 ^ u<=z:=by
 have c:(0:Int)<2 ^ u:=Int.pow_pos (by decide);exact⟨Int.ediv_nonneg h (by omega),Int.ediv_le_self _ h⟩
theorem SE(n:Int)(c:0<=n)(d:n<2 ^ 63):IntKind.i64.wrap n=n:=by rw[IntKind.wrap_i64];omega
theorem ZU(z:Int)(u:Nat)(h0:0<=z)(h1:z<=255):bits .and .i64 (z / 2 ^ u) 1=qP z u:=by
 have h:=zbS z u h0;exact bits_mask .i64 63 (by decide) SE 1 (by decide) (z / 2 ^ u) h.1 (by omega)
theorem ZV(z:Int)(j:Nat)(h:j<6):(b6 z).take (j+1)=(b6 z).take j++ [qP z (5 - j)]:=by
 match j,h with
 | 0,_=>simp[b6,qP]
 | 1,_=>simp[b6,qP]
 | 2,_=>simp[b6,qP]
 | 3,_=>simp[b6,qP]
 | 4,_=>simp[b6,qP]
 | 5,_=>simp[b6,qP]
theorem iA(c:List Int)(k:Nat)(h:k<c.length):c.take (k+1)=c.take k++ [c.getD k 0]:=by
 rw[List.take_succ_eq_append_getElem h,List.getD_eq_getElem?_getD,List.getElem?_eq_getElem h]
 rfl
theorem ny{P:List Int}(h:∀x∈P,0<=x/\x<=1)(j:Nat):0<=P.getD j 0/\P.getD j 0<=1:=by
 rw[List.getD_eq_getElem?_getD]
 rcases Nat.lt_or_ge j P.length with c| c
 ·rw[List.getElem?_eq_getElem c];exact h _ (List.getElem_mem c)
 ·rw[List.getElem?_eq_none c];simp
def eight:List Int->List Int
 | x0::x1::x2::x3::x4::x5::x6::x7::r=>(2*(2*(2*(2*(2*(2*(2*x0+x1)+x2)+x3)+x4)+x5)+x6)+x7)::eight r
 | _=> []
def jy(zs:List Int):List Int:=zs.flatMap fun z=>b6 (cZ z)
theorem yc(c:List Int):(jy c).length=6*c.length:=by
 induction c with
 | nil=>rfl
 | cons z r ih=>simp only[jy,List.flatMap_cons,List.length_append,List.length_cons]at ih ⊢;rw[ih];simp[b6];omega
theorem NW(l:List Int)(z:Int):jy (l++ [z])=jy l++b6 (cZ z):=by simp[jy]
theorem We(d:List Int):∀x∈jy d,0<=x/\x<=1:=by
 intro x c;simp only[jy,List.mem_flatMap]at c;obtain⟨z,_,f⟩:=c;simp only[b6,List.mem_cons,List.not_mem_nil,or_false]at f;omega
theorem NY(P:List Int)(m:Nat)(f k j u z d x c:Int)(h:m+8<=P.length)(h0:P.getD m 0=f)(h1:P.getD (m+1) 0=k)(h2:P.getD (m+2) 0=j)(h3:P.getD (m+3) 0=u)(h4:P.getD (m+4) 0=z)(h5:P.getD (m+5) 0=d)(h6:P.getD (m+6) 0=x)(h7:P.getD (m+7) 0=c):
    eight (P.drop m)=(2*(2*(2*(2*(2*(2*(2*f+k)+j)+u)+z)+d)+x)+c)::eight (P.drop (m+8)):=by
 have e:P.drop m=f::k::j::u::z::d::x::c::P.drop (m+8):=by
  rw[List.drop_eq_getElem_cons (by omega),List.drop_eq_getElem_cons (by omega),List.drop_eq_getElem_cons (by omega),List.drop_eq_getElem_cons (by omega),List.drop_eq_getElem_cons (by omega),List.drop_eq_getElem_cons (by omega),List.drop_eq_getElem_cons (by omega),List.drop_eq_getElem_cons (by omega)];rw[List.getD_eq_getElem?_getD,List.getElem?_eq_getElem (by omega)]at h0 h1 h2 h3 h4 h5 h6 h7;simp only[Option.getD_some]at h0 h1 h2 h3 h4 h5 h6 h7;rw[h0,h1,h2,h3,h4,h5,h6,h7]
 rw[e,eight]
theorem J3(P:List Int)(h:P.length<8):eight P= []:=by
 unfold eight
 split
 ·simp at h;omega
 ·rfl
theorem SF(h:List Int)(h4:h.length % 4≠1):eight (jy h)=dec h:=by
 induction h using dec.induct with
 | case1=>rfl
 | case2 a=>simp at h4
 | case3 a b=>
  have:=fq a;have:=ft a;have:=fq b;have:=ft b;simp only[jy,List.flatMap_cons,List.flatMap_nil,b6,List.append_nil,List.cons_append,List.nil_append,eight,dec]
  congr 1;omega
 | case4 a b c=>
  have:=fq a;have:=ft a;have:=fq b;have:=ft b;have:=fq c;have:=ft c;simp only[jy,List.flatMap_cons,List.flatMap_nil,b6,List.append_nil,List.cons_append,List.nil_append,eight,dec]
  congr 1
  ·omega
  ·congr 1;omega
 | case5 a b c d r ih=>
  have:=fq a;have:=ft a;have:=fq b;have:=ft b;have:=fq c;have:=ft c;have:=fq d;have:=ft d;have f:=ih (by simp only[List.length_cons]at h4;omega);simp only[jy,List.flatMap_cons,b6,dec]at f ⊢;simp only[List.cons_append,List.nil_append,eight];rw[f]
  congr 1
  ·omega
  ·congr 1
   ·omega
   ·congr 1;omega
theorem SH(f:List Int)(h4:f.length % 4≠1):(∀x∈(jy f).drop (8*(dec f).length),x=0)↔tX f=0:=by
 induction f using dec.induct with
 | case1=>simp[jy,tX]
 | case2 a=>simp at h4
 | case3 a b=>
  have:=fq b;have:=ft b;simp only[jy,List.flatMap_cons,List.flatMap_nil,b6,List.append_nil,List.cons_append,List.nil_append,dec,List.length_cons,List.length_nil,Nat.zero_add,Nat.mul_one,List.drop_succ_cons,List.drop_zero];simp[tX];omega
 | case4 a b c=>
  have:=fq c;have:=ft c;simp only[jy,List.flatMap_cons,List.flatMap_nil,b6,List.append_nil,List.cons_append,List.nil_append,dec,List.length_cons,List.length_nil,Nat.zero_add,Nat.reduceAdd,Nat.reduceMul,List.drop_succ_cons,List.drop_zero];simp[tX];omega
 | case5 a b c d r ih=>
  have h:=ih (by simp only[List.length_cons]at h4;omega);rw[NV,<-h];have e:(jy (a::b::c::d::r)).drop (8*(dec (a::b::c::d::r)).length)=(jy r).drop (8*(dec r).length):=by
   simp only[jy,List.flatMap_cons,b6,dec,List.length_cons,List.cons_append,List.nil_append];rw[show 8*((dec r).length+1+1+1)=8*(dec r).length+24 by omega];simp only[List.drop_succ_cons]
  rw[e]
end Go.Proofs.YtldkblgclochjaaGreatDoor.Id
namespace Go.Proofs.YtldkblgclochjaaGreatDoor.Id
open Go.RowKit
theorem Tryz.PX:(Tryz.prog.info? 3).map (fun i=>(i.zero,i.size,i.bytes))=some (some (.int .i64 0),1,8):=by kernel_rfl
theorem mM(n:Int)(w:World)(h0:0<=n)(h1:n<=63):
    Calls Tryz.prog 140 #[.int .i64 n] w fun e w'=>e=.returned (.int .u8 (Qp n))/\w=w':=by
 have c:=ZQ .i64 n h0 h1;go_enter Tryz.func140,Tryz.ntmps140;go_wp2;go_ret;exact⟨rfl,rfl⟩
theorem o5{w:World}{dQ:Array Oper}{rest:List Oper}{o:Oper}{a:Act}{Q:Exit->Act->World->Prop}(X:o.guard=none)(s x:Operand)(t e:TypeId)(k:IntKind)(bytes:Nat)
    (H:o.op=.call {callee:=.builtin .append,args:=#[s,x],argTypes:=#[t,t]}) (F:Tryz.prog.underlying t=some (.slice e))
    (I:(Tryz.prog.info? e).map (fun i=>(i.zero,i.size,i.bytes))=some (some (.int k 0),1,bytes)) (S:bytes<=8)
    (base:Nat) (v:Value) (L:List Int) (Z:a.eval s=v) (z:w.ownsRow base e 1 v L.length (L.map (Value.int k)))
    (f:Addr) (y:Int) (Y:a.eval x=.slice (some f) 1 1) (E:w.cell? f=some (.int k y)) (cB:L.length<=1000000000) (m:base<=w.heap.size)
    (h:∀c w',w'.ownsRow base e 1 c (L++ [y]).length ((L++ [y]).map (Value.int k))->Below base w w'->wpList Tryz.prog dQ Q rest (a.put o.dst c) w'):wpList Tryz.prog dQ Q (o::rest) a w:=by
 obtain⟨i0,V,G,U,T⟩:=info_parts I;refine wpList_append_own w X s x t H base e i0 (.int k 0) 1 bytes F V G U T rfl (by decide) v L.length (L.map (Value.int k)) Z z f 1 1 [.int k y] Y rfl (fun j u d=> ?_) (fun u A=> ?_) (by unfold maxLen;omega) ?_ m ?_
 ·match j,d with
  | 0,d=>simp at d;subst d;simpa [Addr.add]using E
 ·simp at A;subst A;rfl
 ·have:(L.length+1)*bytes<=(L.length+1)*8:=Nat.mul_le_mul_left _ S;omega
 ·intro c w' K N _;exact h c w' (by rw[List.length_append,List.map_append];exact K) ((Below.refl _ _).grown N m (oz z))
def RdI(w:World)(p:Option Addr)(P:List Int):Prop:=∀j,j<P.length->∃g,p=some ⟨g,0,none⟩/\g<w.heap.size/\w.cell? ⟨g,j,none⟩=some (.int .i64 (P.getD j 0))
theorem ZW{w:World}{B:Nat}{v:Value}{L:List Int}(h:w.ownsRow B 3 1 v L.length (L.map (Value.int .i64))):∃q f,v=.slice q L.length f/\RdI w q L:=by
 rcases h.2 with⟨rfl,k⟩| ⟨g,cap,cur,rfl,m,d,h1,h2,h3,h4⟩
 ·obtain rfl:L= []:=List.eq_nil_of_length_eq_zero k;exact⟨none,0,rfl,fun j c=>by simp at c⟩
 ·refine⟨_,cap,rfl,fun j c=>⟨g,rfl,(Array.getElem?_eq_some_iff.1 d).1, ?_⟩⟩;rw[h.cellAt j (by omega),List.getElem?_map,List.getElem?_eq_getElem c,List.getD_eq_getElem?_getD,List.getElem?_eq_getElem c]
  rfl
theorem RdI.at{w w':World}{q:Option Addr}{P:List Int}(h:RdI w q P)(k:Below w.heap.size w w')(m:Nat)(z:m<P.length):∃g,q=some ⟨g,0,none⟩/\∀j x,m+j<P.length->P.getD (m+j) 0=x->w'.cell? ⟨g,m+j,none⟩=some (.int .i64 x):=by
 obtain⟨g,c,_,_⟩:=h m z;refine⟨g,c,fun j x u E=> ?_⟩;obtain⟨F,d,A,f⟩:=h (m+j) u;obtain rfl:g=F:=by rw[c]at d;cases d;rfl
 rw[k.cell (by exact A),f,E]
theorem Wh(c:Int)(h:∀j:Nat,j<64->Qp j≠c):num c= -1:=by
 have h1:=zbM c;have h2:=NM c
 by_cases d:0<=num c
 ·have:=h (num c).toNat (by omega);rw[show((num c).toNat:Int)=num c by omega]at this;exact absurd (ZJ c d) this
 ·omega
theorem wz(c:Int)(w:World):
    Calls Tryz.prog 115 #[.int .u8 c] w fun e w'=>e=.returned (.int .i64 (num c))/\w=w':=by
 go_enter Tryz.func115,Tryz.ntmps115;go_wp2
 go_loop [3] (fun i=>∃k:Nat,k<=64/\i=.int .i64 k/\∀j:Nat,j<k->Qp j≠c) (fun i=>64 - (intOf i).toNat)
 case atStart=>exact⟨0,by omega,rfl,fun j x=>by omega⟩
 case round=>
  obtain⟨k,A,rfl,m⟩:=hrel;have h:Hid (∀j:Nat,j<k->Qp j≠c):=m;clear m
  by_cases E:k<64
  ·by_cases d:Qp k=c
   ·have f:Hid (num c=k):=by
      have:num c=k:=by rw[<-d];exact ZK k (by omega) (by omega)
      exact this
    have z:(Qp k==c)=true:=by simp[d]
    clear d;go_wp2_with(go_at_call 140;refine(mM _ _ (by omega) (by omega)).mono ?_;rintro e w' ⟨rfl,rfl⟩);go_ret;exact⟨mW f.out.symm,rfl⟩
   ·have z:(Qp k==c)=false:=by simp[d]
    have u:Hid (Qp k≠c):=d;clear d;go_wp2_with(go_at_call 140;refine(mM _ _ (by omega) (by omega)).mono ?_;rintro e w' ⟨rfl,rfl⟩)
    go_round
    case rel=>exact⟨k+1,by omega,by go_num,fun j x=>by
                          by_cases e:j=k
                          ·rw[e];exact u.out
                          ·exact h.out j (by omega)⟩
    case measure=>simp[intOf];omega
  ·obtain rfl:k=64:=by omega
   have f:Hid (num c= -1):=Wh c h.out;go_wp2;go_ret;exact⟨mW f.out.symm,rfl⟩
theorem SI(c:Int):(isLet c=true/\0<=num c/\cZ c=num c)\/ (isLet c=false/\num c<0):=by
 unfold isLet cZ
 by_cases h:0<=num c
 ·left;simp[h]
 ·right;simp[h];omega
theorem wC(s:ByteArray)(w:World)(hs:s.size<=5000):
    Calls Tryz.prog 87 #[.string s] w fun e w'=>((pR (ints s)).1≠0/\e=.returned (.tuple #[.slice none 0 0,.int .i64 (pR (ints s)).1,.int .i64 (pR (ints s)).2])∨
     (pR (ints s)).1=0/\∃q cq,e=.returned (.tuple #[.slice q (dec (ints s)).length cq,.int .i64 0,.int .i64 0])/\Rd w'.heap.size w' q cq (dec (ints s)))/\Below w.heap.size w w':=by
 have A:Hid ((ints s).length=s.size):=ax s;go_enter Tryz.func87,Tryz.ntmps87;go_wp2
 go_loopw [5,6] (fun v i wr=>∃k:Nat,k<=s.size/\i=.int .i64 k/\(∀j,j<k->isLet ((ints s).getD j 0)=true)/\wr.ownsRow w.heap.size 3 1 v (jy ((ints s).take k)).length ((jy ((ints s).take k)).map (Value.int .i64))/\Below w.heap.size w wr)
  (fun _ i _=>s.size - (intOf i).toNat)
 case atStart=>exact⟨0,Nat.zero_le _,rfl,fun j hj=>by omega,World.ownsRow_nil _ _ _ _,Below.refl _ _⟩
 case round=>
  obtain⟨k,hk,rfl,eT,c,d⟩:=hrel;have HA:Hid (∀j,j<k->isLet ((ints s).getD j 0)=true):=eT;clear eT
  by_cases bQ:k<s.size
  ·have HG:Hid ((ints s).getD k 0=(s[k].toNat:Int)):=dS s k bQ;obtain⟨z,hz⟩:∃z,num (s[k].toNat:Int)=z:=⟨_,rfl⟩;have zhr:z<=63:=by rw[<-hz];exact NM _
   rcases SI (s[k].toNat:Int)with⟨hl,hn,h0⟩| ⟨hl,hn⟩
   ·have xG:0<=z:=by rw[<-hz];exact hn
    have HL:Hid (isLet (s[k].toNat:Int)=true):=hl;have HN0:Hid (cZ (s[k].toNat:Int)=z):=by
     have:cZ (s[k].toNat:Int)=z:=h0.trans hz;exact this
    obtain⟨D,hD⟩:∃D,D=jy ((ints s).take k):=⟨_,rfl⟩;rw[<-hD]at c;have HD:Hid (D=jy ((ints s).take k)):=hD;have hDl:D.length<=6*k:=by rw[hD,yc];simp;omega
    have HDL:Hid (D.length<=6*k):=hDl;clear hl hn h0 hD hDl;go_wp2_with(go_at_call 115;refine(wz _ _).mono ?_;rintro e w' ⟨rfl,rfl⟩)
    go_loopw [5,8] (fun v i wx=>∃t:Nat,t<=6/\i=.int .i64 ((t:Int) - 1)/\wx.ownsRow w.heap.size 3 1 v (D++(b6 z).take (6 - t)).length ((D++(b6 z).take (6 - t)).map (Value.int .i64))/\Below w.heap.size w wx)
     (fun _ i _=>(intOf i+1).toNat)
    case atStart=>exact⟨6,Nat.le_refl _,rfl,by simpa using c,d⟩
    case round=>
     clear c d;obtain⟨t,ht,rfl,c,d⟩:=hrel
     by_cases htp:0<t
     ·obtain⟨u,rfl⟩:∃u,t=u+1:=⟨t - 1,by omega⟩;have zhs:=ZU z u xG (by omega);have ui:=Wd z u;have HT:Hid ((b6 z).take (6 - u)=(b6 z).take (6 - (u+1))++ [qP z u]):=by
       have:=ZV z (6 - (u+1)) (by omega);rw[show 6 - (u+1)+1=6 - u by omega,show 5 - (6 - (u+1))=u by omega]at this;exact this
      go_wp2_with(at_builtin;refine o5 rfl (.tmp 31) (.tmp 36) 124 3 .i64 8 rfl Tryz.underlying124 Tryz.PX (by decide) w.heap.size _ (D++(b6 z).take (6 - (u+1))) rfl ?a0 _ (qP z u) rfl ?a1 ?a2 ?a3 ?_)
      case a0=>exact c.alloc _
      case a1=>exact aQ (cur:= [_]) (heap_alloc_new _ _) 0 _ rfl
      case a2=>have:=HDL.out;rw[List.length_append,List.length_take];omega
      case a3=>have:=d.size;simp;omega
      intro v' w' BO Bh;have Y:Below w.heap.size w w':=(d.alloc d.size _).trans Bh;clear c d Bh;go_wp2;go_roundw
      case rel=>exact⟨u,by omega,by go_num,by rw[HT.out,<-List.append_assoc];simpa using BO,Y⟩
      case measure=>simp[intOf]
     ·obtain rfl:t=0:=by omega
      go_wp2;go_roundw
      case rel=>
       refine⟨k+1,by omega,by go_num, ?_, ?_,d⟩
       ·intro j hj
        by_cases e:j=k
        ·rw[e,HG.out];exact HL.out
        ·exact HA.out j (by omega)
       ·have e:jy ((ints s).take (k+1))=D++b6 z:=by rw[iA (ints s) k (by rw[A.out];exact bQ),NW,HG.out,HN0.out,HD.out]
        rw[e];have e6:(b6 z).take (6 - 0)=b6 z:=rfl;rw[e6]at c;exact c
      case measure=>simp[intOf];omega
   ·have xG:z<0:=by rw[<-hz];exact hn
    have nt:=Qq (ints s) k (by rw[A.out];exact bQ) HA.out (by rw[HG.out];exact hl);have E:Hid (pR (ints s)=(20,(k:Int))):=by
     have:pR (ints s)=(20,(k:Int)):=by unfold pR;rw[nt,A.out,if_pos bQ]
     exact this
    clear hl hn nt;go_wp2_with(go_at_call 115;refine(wz _ _).mono ?_;rintro e w' ⟨rfl,rfl⟩)
    go_ret3
    refine⟨.inl ⟨by rw[E.out];simp, ?_⟩,d⟩;rw[E.out];exact vG rfl rfl
  ·obtain rfl:k=s.size:=by omega
   have nt:Hid (CF (ints s)=s.size):=(JQ (ints s) (by rw[A.out];exact HA.out)).trans A.out
   rename World=>wb
   have za0:(ints s).take s.size=ints s:=List.take_of_length_le (by rw[A.out];exact Nat.le_refl _);rw[za0]at c;obtain⟨L,hL⟩:∃L,L=jy (ints s):=⟨_,rfl⟩;rw[<-hL]at c;have HL:Hid (L=jy (ints s)):=hL;have hLl:L.length=6*s.size:=by rw[hL,yc,A.out]
   have D_:Hid (L.length=6*s.size):=hLl;have zht:L.length<=30000:=by omega
   clear za0 hL hLl
   by_cases h1:s.size % 4=1
   ·have h1':(s.size:Int) % 4=1:=by omega
    have S:pR (ints s)=(22,(s.size:Int)):=by unfold pR;rw[nt.out,A.out,if_neg (by omega),if_pos h1]
    have E:Hid (pR (ints s)=(22,(s.size:Int))):=S;clear S;go_wp2
    go_ret3
    refine⟨.inl ⟨by rw[E.out];simp, ?_⟩,d⟩;rw[E.out];exact vG rfl rfl
   ·have h1b:((s.size:Int) % 4==1)=false:=by simp;omega
    have HED:Hid (eight L=dec (ints s)):=by
     have:=SF (ints s) (by rw[A.out];exact h1);rw[<-HL.out]at this;exact this
    have IP:Hid ((∀x∈L.drop (8*(dec (ints s)).length),x=0)↔tX (ints s)=0):=by
     have:=SH (ints s) (by rw[A.out];exact h1);rw[<-HL.out]at this;exact this
    have hLb:∀x∈L,0<=x/\x<=1:=by rw[HL.out];exact We (ints s)
    have N:Hid (∀x∈L,0<=x/\x<=1):=hLb;obtain⟨q,cq,rfl,zd1⟩:=ZW c;clear hLb c;go_wp2
    go_loopw [9,10] (fun v i wx=>∃(m:Nat) (done:List Int),m<=L.length/\m=8*done.length/\i=.int .i64 m/\eight L=done++eight (L.drop m)∧
        wx.ownsRow wb.heap.size 5 1 v done.length (done.map (Value.int .u8))/\Below wb.heap.size wb wx)
     (fun _ i _=>L.length - (intOf i).toNat)
    case atStart=>exact⟨0, [],Nat.zero_le _,rfl,rfl,rfl,World.ownsRow_nil _ _ _ _,Below.refl _ _⟩
    case round=>
     obtain⟨m,done,hm,H,rfl,zd2,c,K⟩:=hrel;have HSX:Hid (eight L=done++eight (L.drop m)):=zd2;have HM8:Hid (m=8*done.length):=H;have hdl:done.length<=30000:=by omega
     clear zd2 H
     by_cases bQ:m+8<=L.length
     ·obtain⟨g,rfl,f⟩:=zd1.at K m (by omega);obtain⟨x0,F⟩:∃x,L.getD m 0=x:=⟨_,rfl⟩;obtain⟨V,Bt⟩:∃x,L.getD (m+1) 0=x:=⟨_,rfl⟩;obtain⟨U,xi⟩:∃x,L.getD (m+2) 0=x:=⟨_,rfl⟩;obtain⟨T,ZX⟩:∃x,L.getD (m+3) 0=x:=⟨_,rfl⟩;obtain⟨x4,oK⟩:∃x,L.getD (m+4) 0=x:=⟨_,rfl⟩;obtain⟨x5,YO⟩:∃x,L.getD (m+5) 0=x:=⟨_,rfl⟩;obtain⟨x6,G⟩:∃x,L.getD (m+6) 0=x:=⟨_,rfl⟩;obtain⟨x7,I⟩:∃x,L.getD (m+7) 0=x:=⟨_,rfl⟩;have b0:0<=x0/\x0<=1:=F ▸ ny N.out m;have b1:0<=V/\V<=1:=Bt ▸ ny N.out (m+1);have b2:0<=U/\U<=1:=xi ▸ ny N.out (m+2);have b3:0<=T/\T<=1:=ZX ▸ ny N.out (m+3);have b4:0<=x4/\x4<=1:=oK ▸ ny N.out (m+4);have b5:0<=x5/\x5<=1:=YO ▸ ny N.out (m+5);have b6:0<=x6/\x6<=1:=G ▸ ny N.out (m+6);have b7:0<=x7/\x7<=1:=I ▸ ny N.out (m+7);have c0:=f 0 x0 (by omega) F;rw[Nat.add_zero]at c0;have c1:=f 1 V (by omega) Bt;have c2:=f 2 U (by omega) xi;have c3:=f 3 T (by omega) ZX;have c4:=f 4 x4 (by omega) oK;have c5:=f 5 x5 (by omega) YO;have c6:=f 6 x6 (by omega) G;have c7:=f 7 x7 (by omega) I;have vv:Hid (eight (L.drop m)=(2*(2*(2*(2*(2*(2*(2*x0+V)+U)+T)+x4)+x5)+x6)+x7)::eight (L.drop (m+8))):=NY L m x0 V U T x4 x5 x6 x7 bQ F Bt xi ZX oK YO G I;clear F Bt xi ZX oK YO G I f;go_wp2;refine wp_loop_rounds 9 ?_
      iterate 8 (rw[rounds_succ];go_wp2)
      rw[rounds_succ];go_wp2_with(at_builtin;refine o5 rfl (.tmp 64) (.tmp 67) 36 5 .u8 1 rfl Tryz.underlying36 Tryz.IX (by decide) wb.heap.size _ done rfl ?a0 _ (2*(2*(2*(2*(2*(2*(2*x0+V)+U)+T)+x4)+x5)+x6)+x7) rfl ?a1 ?a2 ?a3 ?_)
      case a0=>exact c.alloc _
      case a1=>exact aQ (cur:= [_]) (heap_alloc_new _ _) 0 _ rfl
      case a2=>omega
      case a3=>have:=K.size;simp;omega
      intro v' w' BO Bh;have Y:Below wb.heap.size wb w':=(K.alloc K.size _).trans Bh;clear c K Bh c0 c1 c2 c3 c4 c5 c6 c7;go_wp2;go_roundw
      case rel=>
       have R:∃(m':Nat) (Qu:List Int),m'<=L.length/\m'=8*Qu.length/\Value.int .i64 ((m:Int)+8)=.int .i64 m'/\eight L=Qu++eight (L.drop m')∧
           w'.ownsRow wb.heap.size 5 1 v' Qu.length (Qu.map (Value.int .u8))/\Below wb.heap.size wb w':=by
        refine⟨m+8,done++ [2*(2*(2*(2*(2*(2*(2*x0+V)+U)+T)+x4)+x5)+x6)+x7],by omega,by have:=HM8.out;simp;omega,by go_num, ?_,by simpa using BO,Y⟩;rw[HSX.out,vv.out];simp
       first| exact R| ((repeat apply Exists.intro);exact⟨R,rfl⟩)
      case measure=>simp[intOf];omega
     ·have X:done=dec (ints s):=by
        have:=HSX.out;rw[HED.out,J3 (L.drop m) (by simp;omega)]at this;simpa using this.symm
      have Z:Hid (done=dec (ints s)):=X;have H:=HM8.out;obtain⟨q2,cq2,rfl,yQ⟩:=M3 c (by rw[X];exact zbN _);have h8:8*(done.length:Int)=m:=by omega
      clear X c H;have hdb:decide ((m:Int)+8<=(L.length:Int))=false:=by simp;omega
      go_wp2
      go_loop [13] (fun i=>∃k:Nat,m<=k/\k<=L.length/\i=.int .i64 k/\∀j,m<=j->j<k->L.getD j 0=0) (fun i=>L.length - (intOf i).toNat)
      case atStart=>exact⟨m,Nat.le_refl _,hm,rfl,fun j h1 h2=>by omega⟩
      case round=>
       obtain⟨k,uN,gZ,rfl,eT⟩:=hrel;have HZ:Hid (∀j,m<=j->j<k->L.getD j 0=0):=eT;have HD8:Hid (8*(dec (ints s)).length=m):=by
        have:=HM8.out;rw[Z.out]at this;exact this.symm
       clear eT
       by_cases Cu:k<L.length
       ·obtain⟨g,rfl,f⟩:=zd1.at K k Cu;obtain⟨x,hx⟩:∃x,L.getD k 0=x:=⟨_,rfl⟩;have c0:=f 0 x (by omega) hx;rw[Nat.add_zero]at c0;have HX:Hid (L.getD k 0=x):=hx;clear hx f
        by_cases F:x=0
        ·subst F;go_wp2
         go_round
         case rel=>exact⟨k+1,by omega,by omega,by go_num,fun j h1 h2=>by
                               by_cases e:j=k
                               ·rw[e];exact HX.out
                               ·exact HZ.out j h1 (by omega)⟩
         case measure=>simp[intOf];omega
        ·have hxb:(x !=0)=true:=by simp[F]
         have S:pR (ints s)=(21,(s.size:Int) - 1):=by
          have ZR:tX (ints s)≠0:=by
           intro h;have:=IP.out.2 h (L.getD k 0) (by
            rw[HD8.out,List.getD_eq_getElem?_getD,List.getElem?_eq_getElem Cu];simp only[Option.getD_some];have e:L[k]=(L.drop m)[k - m]'(by simp;omega):=by simp[Nat.add_sub_cancel' uN]
            rw[e];exact List.getElem_mem _)
           rw[HX.out]at this;exact F this
          unfold pR;rw[nt.out,A.out,if_neg (by omega),if_neg h1,if_pos ZR]
         have E:Hid (pR (ints s)=(21,(s.size:Int) - 1)):=S;clear S F;go_wp2
         go_ret3
         refine⟨.inl ⟨by rw[E.out];simp, ?_⟩,d.trans (K.mono d.size)⟩;rw[E.out];exact vG rfl rfl
       ·have S:pR (ints s)=(0,0):=by
          have ZR:tX (ints s)=0:=by
           refine IP.out.1 fun x hx=> ?_;rw[HD8.out]at hx;obtain⟨i,hi,rfl⟩:=List.mem_iff_getElem.1 hx;have hi':m+i<L.length:=by simp at hi;omega
           have:=HZ.out (m+i) (by omega) (by omega);rw[List.getD_eq_getElem?_getD,List.getElem?_eq_getElem hi']at this;simpa using this
          unfold pR;rw[nt.out,A.out,if_neg (by omega),if_neg h1,if_neg (by simp[ZR])]
        have E:Hid (pR (ints s)=(0,0)):=S;clear S;go_wp2
        go_ret3
        refine⟨.inr ⟨by rw[E.out],q2,cq2, ?_, ?_⟩,d.trans (K.mono d.size)⟩
        ·rw[<-Z.out];rfl
        ·rw[<-Z.out];exact yQ
theorem Ez(s:ByteArray)(w:World)(d:s.size<=5000)(c:(pR (ints s)).1≠0):
    Calls Tryz.prog 87 #[.string s] w fun e w'=>e=.returned (.tuple #[.slice none 0 0,.int .i64 (pR (ints s)).1,.int .i64 (pR (ints s)).2])/\Below w.heap.size w w':=by
 refine(wC s w d).mono fun e w' ⟨h,hb⟩=> ?_
 rcases h with⟨_,h⟩| ⟨h,_⟩
 ·exact⟨h,hb⟩
 ·exact absurd h c
theorem CQ(s:ByteArray)(w:World)(f:s.size<=5000)(d:(pR (ints s)).1=0):
    Calls Tryz.prog 87 #[.string s] w fun e w'=>∃q c,e=.returned (.tuple #[.slice q (dec (ints s)).length c,.int .i64 0,.int .i64 0])/\Rd w'.heap.size w' q c (dec (ints s))/\Below w.heap.size w w':=by
 refine(wC s w f).mono fun e w' ⟨h,hb⟩=> ?_
 rcases h with⟨h,_⟩| ⟨_,q,c,h1,h2⟩
 ·exact absurd d h
 ·exact⟨q,c,h1,h2,hb⟩
def vH(s:ByteArray):Bool:=decide (s.size=12)&&decide ((ints s).getD 0 0=36)&&decide ((pR (ints (s.extract 1 s.size))).1=0)
theorem CR(s:ByteArray)(h:s.size≠12):vH s=false:=by unfold vH;simp[h]
theorem J4(s:ByteArray)(h:(ints s).getD 0 0≠36):vH s=false:=by
 unfold vH;have:decide ((ints s).getD 0 0=36)=false:=decide_eq_false h;rw[this];simp
theorem Qv(s:ByteArray)(h:(pR (ints (s.extract 1 s.size))).1≠0):vH s=false:=by
 unfold vH;rw[decide_eq_false h];simp
theorem J5(s:ByteArray)(h1:s.size=12)(h2:(ints s).getD 0 0=36)(h3:(pR (ints (s.extract 1 s.size))).1=0):vH s=true:=by
 unfold vH;rw[decide_eq_true h1,decide_eq_true h2,decide_eq_true h3];rfl
theorem SK(t:ByteArray)(h:t.size=11):(dec (ints t)).length=8:=by
 have:=xg (ints t);rw[ax,h]at this;have e:((11:Nat):Int) / 4*3+v_ (((11:Nat):Int) % 4)=8:=by decide
 omega
theorem FJ(s:ByteArray)(w:World)(z:s.size<=140737488351232):
    Calls Tryz.prog 98 #[.string s] w fun e w'=>e=.returned (.bool (vH s))/\Below w.heap.size w w':=by
 by_cases f:∀h:0<s.size,s[0]≠36
 ·have c:Hid (vH s=false):=by
    by_cases h0:s.size=0
    ·exact CR s (by omega)
    ·refine J4 s ?_;rw[dS s 0 (by omega)];intro h;exact f (by omega) ((V5 s[0] 36).1 h)
  go_enter Tryz.func98,Tryz.ntmps98;go_wp2_with(go_at_call 130;refine(x9 s 36 _ z f).mono ?_;rintro e w' ⟨rfl,rfl⟩);go_ret;exact⟨ak c.out.symm,Below.refl _ _⟩
 ·obtain⟨h0,m⟩:∃h:0<s.size,s[0]=36:=by simpa using f
  clear f;have I:Hid ((ints s).getD 0 0=36):=by rw[dS s 0 h0,m];rfl
  have E:(s.extract 1 s.size).size=s.size - 1:=by simp
  obtain⟨t,k⟩:∃t,t=s.extract 1 s.size:=⟨_,rfl⟩;have hcut:=fun H:World=>kI s 36 H z h0 m;rw[<-k]at E hcut;have x:Hid (t=s.extract 1 s.size):=k;clear k
  by_cases u:s.size=12
  ·have N:t.size=11:=by omega
   have A:(t.size:Int)=11:=by omega
   by_cases d:(pR (ints t)).1=0
   ·have c:Hid (vH s=true):=J5 s u I.out (by rw[<-x.out];exact d);go_enter Tryz.func98,Tryz.ntmps98;go_wp2_with(first
     | (go_at_call 130;refine(hcut _).mono ?_;rintro e w' ⟨rfl,rfl⟩)
     | (go_at_call 131;refine(J2 t _ (by omega) d).mono ?_;rintro e S ⟨rfl,_,j⟩))
    go_ret;exact⟨ak c.out.symm,j⟩
   ·have c:Hid (vH s=false):=Qv s (by rw[<-x.out];exact d);have K:((pR (ints t)).1==0)=false:=by simp[d]
    go_enter Tryz.func98,Tryz.ntmps98;go_wp2_with(first
     | (go_at_call 130;refine(hcut _).mono ?_;rintro e w' ⟨rfl,rfl⟩)
     | (go_at_call 131;refine(NU t _ (by omega) d).mono ?_;rintro e S ⟨rfl,j⟩))
    go_ret;exact⟨ak c.out.symm,j⟩
  ·have c:Hid (vH s=false):=CR s u;have F:¬(t.size:Int)=11:=by omega
   have G:((t.size:Int) !=11)=true:=by simp[F]
   go_enter Tryz.func98,Tryz.ntmps98;go_wp2_with(go_at_call 130;refine(hcut _).mono ?_;rintro e w' ⟨rfl,rfl⟩);go_ret;exact⟨ak c.out.symm,Below.refl _ _⟩
theorem sH(s:ByteArray)(w:World):
    Calls Tryz.prog 49 #[.string s] w fun e w'=>e=.returned (.bool (vH s))/\Below w.heap.size w w':=by
 by_cases u:s.size=12
 ·have G:(s.size:Int)=12:=by omega
  have h0:0<s.size:=by omega
  have E:Hid ((ints s).getD 0 0=(s[0].toNat:Int)):=dS s 0 h0
  by_cases j:(s[0].toNat:Int)=36
  ·have z:(s.extract 1 s.size).size=11:=by simp;omega
   have m:∀c:World,(Instr.slice 9 (.string s) (some (.int .i64 1)) none none).run Tryz.prog c=.ok (.string (s.extract 1 s.size)) c:=
    fun c=>run_slice_string_l c 9 s Tryz.underlying9 .i64 1 (by omega) (by omega)
   obtain⟨t,k⟩:∃t,t=s.extract 1 s.size:=⟨_,rfl⟩;rw[<-k]at z m;have A:Hid (t=s.extract 1 s.size):=k;clear k;have F:=SK t z
   by_cases f:(pR (ints t)).1=0
   ·have d:Hid (vH s=true):=J5 s u (by rw[E.out];exact j) (by rw[<-A.out];exact f);have x:=fun c:World=>CQ t c (by omega) f;rw[F]at x;go_enter Tryz.func49,Tryz.ntmps49;go_wp2_with(go_at_call 87;refine(x _).mono ?_;rintro e N ⟨q,S,rfl,_,h⟩);go_ret;exact⟨ak d.out.symm,h⟩
   ·have d:Hid (vH s=false):=Qv s (by rw[<-A.out];exact f);have K:((pR (ints t)).1==0)=false:=by simp[f]
    have x:=fun c:World=>Ez t c (by omega) f;go_enter Tryz.func49,Tryz.ntmps49;go_wp2_with(go_at_call 87;refine(x _).mono ?_;rintro e N ⟨rfl,h⟩);go_ret;exact⟨ak d.out.symm,h⟩
  ·have d:Hid (vH s=false):=J4 s (by rw[E.out];exact j);have T:((s[0].toNat:Int) !=36)=true:=by simp[j]
   go_enter Tryz.func49,Tryz.ntmps49;go_wp2;go_ret;exact⟨ak d.out.symm,Below.refl _ _⟩
 ·have d:Hid (vH s=false):=CR s u;have H:¬(s.size:Int)=12:=by omega
  have I:((s.size:Int) !=12)=true:=by simp[H]
  go_enter Tryz.func49,Tryz.ntmps49;go_wp2;go_ret;exact⟨ak d.out.symm,Below.refl _ _⟩
end Go.Proofs.YtldkblgclochjaaGreatDoor.Id
namespace Go.Proofs.YtldkblgclochjaaGreatDoor
open Go.RowKit
structure Ev where
 room:ByteArray
 aU:ByteArray
 ai:ByteArray
 st:Bool
 key:ByteArray
 content:J
 prev:List ByteArray
 aA:List ByteArray
 depth:Int
 ts:Int
 hash:ByteArray
 sigs:List (ByteArray×ByteArray)
structure Pt where
 pk:Option Addr
 ck:Nat
 pl:Option Addr
 cl:Nat
 pp:Option Addr
 cp:Nat
 pa:Option Addr
 ca:Nat
 ps:Option Addr
 cs:Nat
def Ev.zero:Ev:=⟨aH,aH,aH,false,aH,J.zero, [], [],0,0,aH, []⟩
def Pt.zero:Pt:=⟨none,0,none,0,none,0,none,0,none,0⟩
def qC(j:J)(p:Pt):List Value:= [.int .i64 j.kind,.int .i64 j.int,.string j.text,.slice p.pk j.keys.length p.ck,.slice p.pl j.list.length p.cl]
def iN(e:Ev)(p:Pt):List Value:= [.string e.room,.string e.aU,.string e.ai,.bool e.st,.string e.key,.int .i64 e.content.kind,.int .i64 e.content.int,.string e.content.text,.slice p.pk e.content.keys.length p.ck,.slice p.pl e.content.list.length p.cl,.slice p.pp e.prev.length p.cp,.slice p.pa e.aA.length p.ca,.int .i64 e.depth,.int .i64 e.ts,.string e.hash,.slice p.ps e.sigs.length p.cs]
def fA(e:Ev)(p:Pt):Value:=.agg (iN e p).toArray
def FK(O:Nat->Prop)(w:World)(p:Option Addr)(c:Nat)(l:List (ByteArray×ByteArray)):Prop:=
 l.length<=c/\∀j,j<l.length->∃b o,p=some ⟨b,o,none⟩/\O b/\w.cell? ⟨b,o+j*2,none⟩=some (.string (l.getD j (aH,aH)).1)/\w.cell? ⟨b,o+j*2+1,none⟩=some (.string (l.getD j (aH,aH)).2)
theorem FK.nil(O:Nat->Prop)(w:World)(c:Nat)(p:Option Addr):FK O w p c []:=⟨Nat.zero_le _,fun j d=>absurd d (by simp)⟩
theorem FK.carry{O O':Nat->Prop}{w w':World}{p:Option Addr}{c:Nat}{l:List (ByteArray×ByteArray)}(h:FK O w p c l)(f:∀k,O k->O' k/\w'.heap[k]?=w.heap[k]?):FK O' w' p c l:=
 ⟨h.1,fun j u=>by
  obtain⟨b,o,m,d,h1,h2⟩:=h.2 j u;exact⟨b,o,m,(f _ d).1,(World.cell?_of_block (a:=⟨b,o+j*2,none⟩) (f _ d).2).trans h1,(World.cell?_of_block (a:=⟨b,o+j*2+1,none⟩) (f _ d).2).trans h2⟩⟩
structure mY(O:Nat->Prop)(w:World)(e:Ev)(p:Pt):Prop where
 cont:isJ O w e.content (qC e.content p)
 prev:j5 O w p.pp p.cp e.prev
 aA:j5 O w p.pa p.ca e.aA
 sigs:FK O w p.ps p.cs e.sigs
theorem mY.carry{O O':Nat->Prop}{w w':World}{e:Ev}{p:Pt}(h:mY O w e p)(c:∀k,O k->O' k/\w'.heap[k]?=w.heap[k]?):mY O' w' e p:=
 ⟨h.cont.carry c,h.prev.carry c,h.aA.carry c,h.sigs.carry c⟩
theorem mY.below{O:Nat->Prop}{w w':World}{e:Ev}{p:Pt}(h:mY O w e p)(d:∀k,O k->k<w.heap.size)(f:Below w.heap.size w w'):mY O w' e p:=h.carry fun k c=>⟨c,f.block k (d k c)⟩
theorem yf(O:Nat->Prop)(w:World):mY O w Ev.zero Pt.zero:=⟨uz _ _,j5.nil _ _,j5.nil _ _,FK.nil _ _ _ _⟩
def SL(s:ByteArray):ByteArray:=⟨#[36]⟩++s
def gu(e:Ev):Bool:=(Id.parts 33 e.room).2.2&&(Id.parts 64 e.ai).2.2&&Id.aU e.aU
def iO(e:Ev):Bool:=if e.st=true then decide (e.key.size<=128)&&Lib.validD e.key.data.toList else decide (e.key.size=0)
def fG(c:J):Bool:=decide (c.kind=5)&&goodJ 12 (.mk 4 0 aH [] [c])
def bZ(most:Nat)(l:List ByteArray):Bool:=decide (l.length<=most)&&noKeyTwice l&&l.all Id.vH
def eG(n most:Int):Bool:=decide (0<=n)&&decide (n<=most)
def iX(s:ByteArray):Bool:=Id.vH (SL s)
def riseS:List (ByteArray×ByteArray)->Bool
 | a::b::r=>pQ a.1 b.1&&riseS (b::r)
 | _=>true
def dE(l:List (ByteArray×ByteArray)):Bool:=decide (l.length<=4)&&l.all (fun s=>Id.Ha s.1&&iX s.2)&&riseS l
def aO(e:Ev):Bool:=gu e&&iO e&&fG e.content&&bZ 20 e.prev&&bZ 10 e.aA&&eG e.depth 1099511627776&&eG e.ts bI&&(decide (e.hash.size=0) || iX e.hash)&&dE e.sigs
def aR(s:ByteArray):J:=.mk 3 0 s [] []
def kg(n:Int):J:=.mk 2 n aH [] []
def dH(l:List ByteArray):J:=.mk 4 0 aH [] (l.map aR)
def fH(l:List (ByteArray×ByteArray)):J:=.mk 5 0 aH (l.map (·.1)) (l.map fun s=>aR s.2)
def dG:ByteArray:=⟨#[97,117,116,104]⟩
def aS:ByteArray:=⟨#[99,111,110,116,101,110,116]⟩
def dw:ByteArray:=⟨#[100,101,112,116,104]⟩
def ed:ByteArray:=⟨#[104,97,115,104]⟩
def kK:ByteArray:=⟨#[107,101,121]⟩
def dL:ByteArray:=⟨#[112,114,101,118]⟩
def eu:ByteArray:=⟨#[114,111,111,109]⟩
def bN:ByteArray:=⟨#[115,101,110,100,101,114]⟩
def dV:ByteArray:=⟨#[115,105,103,115]⟩
def qQ:ByteArray:=⟨#[116,115]⟩
def fE:ByteArray:=⟨#[116,121,112,101]⟩
def gW(e:Ev):List (ByteArray×J):= [(dG,dH e.aA),(aS,e.content),(dw,kg e.depth),(ed,aR e.hash)]++(if e.st=true then [(kK,aR e.key)]else [])++ [(dL,dH e.prev),(eu,aR e.room),(bN,aR e.ai),(dV,fH e.sigs),(qQ,kg e.ts),(fE,aR e.aU)]
def dW(e:Ev):J:=.mk 5 0 aH ((gW e).map (·.1)) ((gW e).map (·.2))
end Go.Proofs.YtldkblgclochjaaGreatDoor

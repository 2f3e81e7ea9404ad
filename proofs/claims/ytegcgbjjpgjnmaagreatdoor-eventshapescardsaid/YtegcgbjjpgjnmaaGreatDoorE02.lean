/- A part. -/
import Derived.Test.YtegcgbjjpgjnmaaGreatDoorE01
import Derived.BigRegion
import Derived.RegionTactic
import Derived.Laws.CopyOwn
import Derived.Laws.AppendOwnNone
set_option maxRecDepth 100000
set_option maxHeartbeats 16000000
namespace Go.Proofs.YtegcgbjjpgjnmaaGreatDoor.Id
open Go.RowKit
def told(p:ByteArray×ByteArray×Bool):Value:=.tuple #[.string p.1,.string p.2.1,.bool p.2.2]
theorem ku{a b:ByteArray}{t:Bool}{p:ByteArray×ByteArray×Bool}(h:p=(a,b,t)):Ending.returned (.tuple #[.string a,.string b,.bool t])=.returned (told p):=by rw[h];rfl
theorem Rt(a c:UInt8):(a.toNat:Int)=(c.toNat:Int)↔a=c:=by
 constructor
 ·intro h;exact UInt8.toNat_inj.1 (by omega)
 ·intro h;rw[h]
theorem Dg(s:ByteArray)(c:UInt8)(w:World)(hs:s.size<=140737488351232):
    Calls Tryz.prog 121 #[.string s,.string ⟨#[c]⟩] w fun e w'=>e=.returned (told (parts (c.toNat:Int) s))/\Below w.heap.size w w':=by
 by_cases hp:∀h:0<s.size,s[0]≠c
 ·have HP:Hid (parts (c.toNat:Int) s=(aH,aH,false)):=by
    refine oU _ _ ?_
    by_cases h0:s.size=0
    ·exact .inl h0
    ·refine .inr (.inl ?_);rw[dH s 0 (by omega),ne_eq,Rt];exact hp (by omega)
  go_enter Tryz.func121,Tryz.ntmps121;go_wp2_with(go_at_call 125;refine(vX s c _ hs hp).mono ?_;rintro e w' ⟨rfl,rfl⟩)
  go_ret3
  exact⟨ku HP.out,Below.refl _ _⟩
 ·obtain⟨h0,hc⟩:∃h:0<s.size,s[0]=c:=by simpa using hp
  clear hp;have hg:(ints s).getD 0 0=(c.toNat:Int):=by rw[dH s 0 h0,hc]
  have fI:(s.extract 1 s.size).size<=140737488351232:=by simp;omega
  have hii:(s.extract 1 s.size).data.toList.map (fun c=>(c.toNat:Int))=(ints s).drop 1:=lq s 1
  rcases Gf s with⟨k,h1,hk,Gi,Ru⟩| hno
  ·have hi:Lib.indexByte (s.extract 1 s.size).data.toList 58=((k - 1:Nat):Int):=by
     refine Vv _ _ ?_ ?_ fun j hj=> ?_
     ·rw[<-Lib.size_eq];simp;omega
     ·rw[hii,lT,Nat.sub_add_cancel h1];exact Gi
     ·rw[hii,lT];exact Ru (j+1) (by omega) (by omega)
   have iD:=fun wx:World=>Vw (s.extract 1 s.size) (k - 1) wx fI (by simp;omega) hi;rw[Rs s k h1 (by omega),Nat.sub_add_cancel h1,Ke s k]at iD;have HP:Hid (parts (c.toNat:Int) s=if loc (s.extract 1 k)=true/\EH (s.extract (k+1) s.size)=true then(s.extract 1 k,s.extract (k+1) s.size,true)else(aH,aH,false)):=Df _ s k hg h1 hk Gi Ru;have Ns:(s.extract 1 k).size<=140737488351232:=by simp;omega
   have OP:(s.extract (k+1) s.size).size<=140737488351232:=by simp;omega
   obtain⟨t1,ht1⟩:∃t,t=s.extract 1 k:=⟨_,rfl⟩;obtain⟨t2,ht2⟩:∃t,t=s.extract (k+1) s.size:=⟨_,rfl⟩;rw[<-ht1,<-ht2]at HP iD;rw[<-ht1]at Ns;rw[<-ht2]at OP;clear ht1 ht2 hi hii Ru Gi
   by_cases hL:loc t1=true
   ·by_cases hS:EH t2=true
    ·go_enter Tryz.func121,Tryz.ntmps121;go_wp2_with(first
      | (go_at_call 125;refine(ko s c _ hs h0 hc).mono ?_;rintro e w' ⟨rfl,rfl⟩)
      | (go_at_call 147;refine(iD _).mono ?_;rintro e w1 ⟨rfl,bI⟩)
      | (go_at_call 148;refine(xu t1 _ Ns).mono ?_;rintro e w2 ⟨rfl,bM⟩)
      | (go_at_call 102;refine(ve t2 _ OP).mono ?_;rintro e w3 ⟨rfl,a_⟩))
     go_ret3
     have c2:=bI.trans (bM.mono bI.size);exact⟨ku (by rw[HP.out,if_pos ⟨hL,hS⟩]),c2.trans (a_.mono c2.size)⟩
    ·have hS':EH t2=false:=by simpa using hS
     go_enter Tryz.func121,Tryz.ntmps121;go_wp2_with(first
      | (go_at_call 125;refine(ko s c _ hs h0 hc).mono ?_;rintro e w' ⟨rfl,rfl⟩)
      | (go_at_call 147;refine(iD _).mono ?_;rintro e w1 ⟨rfl,bI⟩)
      | (go_at_call 148;refine(xu t1 _ Ns).mono ?_;rintro e w2 ⟨rfl,bM⟩)
      | (go_at_call 102;refine(ve t2 _ OP).mono ?_;rintro e w3 ⟨rfl,a_⟩))
     go_ret3
     have c2:=bI.trans (bM.mono bI.size);exact⟨ku (by rw[HP.out,if_neg (by simp[hS'])];rfl),c2.trans (a_.mono c2.size)⟩
   ·have hL':loc t1=false:=by simpa using hL
    clear hL;go_enter Tryz.func121,Tryz.ntmps121;go_wp2_with(first
     | (go_at_call 125;refine(ko s c _ hs h0 hc).mono ?_;rintro e w' ⟨rfl,rfl⟩)
     | (go_at_call 147;refine(iD _).mono ?_;rintro e w1 ⟨rfl,bI⟩)
     | (go_at_call 148;refine(xu t1 _ Ns).mono ?_;rintro e w2 ⟨rfl,bM⟩))
    go_ret3
    exact⟨ku (by rw[HP.out,if_neg (by simp[hL'])];rfl),bI.trans (bM.mono bI.size)⟩
  ·have hi:Lib.indexByte (s.extract 1 s.size).data.toList 58= -1:=by
     refine Rq _ fun j hj=> ?_;rw[<-Lib.size_eq]at hj;simp at hj;rw[hii,lT];exact hno (j+1) (by omega) (by omega)
   have HP:Hid (parts (c.toNat:Int) s=(aH,aH,false)):=oU _ _ (.inr (.inr hno));have iD:=fun wx:World=>Yu (s.extract 1 s.size) wx hi;go_enter Tryz.func121,Tryz.ntmps121;go_wp2_with(first
    | (go_at_call 125;refine(ko s c _ hs h0 hc).mono ?_;rintro e w' ⟨rfl,rfl⟩)
    | (go_at_call 147;refine(iD _).mono ?_;rintro e w1 ⟨rfl,bI⟩))
   go_ret3
   exact⟨ku HP.out,bI⟩
theorem Rv(s:ByteArray)(w:World)(hs:s.size<=140737488351232):
    Calls Tryz.prog 97 #[.string s] w fun e w'=>e=.returned (told (parts 64 s))/\Below w.heap.size w w':=by
 go_enter Tryz.func97,Tryz.ntmps97;go_wp2_with(go_at_call 121;refine(Dg s 64 _ hs).mono ?_;rintro e w1 ⟨rfl,bI⟩;unfold told)
 go_ret3
 exact⟨rfl,bI⟩
theorem Rw(s:ByteArray)(w:World)(hs:s.size<=140737488351232):
    Calls Tryz.prog 96 #[.string s] w fun e w'=>e=.returned (told (parts 33 s))/\Below w.heap.size w w':=by
 go_enter Tryz.func96,Tryz.ntmps96;go_wp2_with(go_at_call 121;refine(Dg s 33 _ hs).mono ?_;rintro e w1 ⟨rfl,bI⟩;unfold told)
 go_ret3
 exact⟨rfl,bI⟩
theorem pG(s:ByteArray)(w:World)(hs:s.size<=140737488351232):
    Calls Tryz.prog 92 #[.string s] w fun e w'=>e=.returned (.bool (EH s))/\w=w':=by
 unfold EH
 by_cases he:s.size=0
 ·have he':(s.size:Int)=0:=by omega
  go_enter Tryz.func92,Tryz.ntmps92;go_wp2;go_ret;exact⟨av (oQ _ _ _ he).symm,rfl⟩
 by_cases hm:32<(s.size:Int)
 ·go_enter Tryz.func92,Tryz.ntmps92;go_wp2;go_ret;exact⟨av (oP _ _ _ hm).symm,rfl⟩
 go_enter Tryz.func92,Tryz.ntmps92;go_wp2
 go_loop [3] (fun i=>∃k:Nat,k<=s.size/\i=.int .i64 k/\∀j,j<k->zS ((ints s).getD j 0)=true) (fun i=>s.size - (intOf i).toNat)
 case atStart=>exact⟨0,Nat.zero_le _,rfl,fun j hj=>by omega⟩
 case round=>
  obtain⟨k,hk,rfl,eO⟩:=hrel;have HA:Hid (∀j,j<k->zS ((ints s).getD j 0)=true):=eO;clear eO
  by_cases bJ:k<s.size
  ·have HG:Hid ((ints s).getD k 0=(s[k].toNat:Int)):=dH s k bJ;have bI:(s[k].toNat:Int)<=255:=by have:=s[k].toNat_lt;omega
   by_cases h0:small (s[k].toNat:Int)=true
   ·have HB:Hid (zS ((ints s).getD k 0)=true):=by rw[HG.out];unfold zS;simp[h0];exact trivial
    go_wp2_with(go_at_call 90;refine(jh _ _).mono ?_;rintro e w' ⟨rfl,rfl⟩)
    go_round
    case rel=>exact⟨k+1,by omega,by go_num,fun j hj=>by
                          by_cases e:j=k
                          ·rw[e];exact HB.out
                          ·exact HA.out j (by omega)⟩
    case measure=>simp[intOf];omega
   have h0':small (s[k].toNat:Int)=false:=by simpa using h0
   clear h0
   by_cases Dh:(s[k].toNat:Int)=45
   ·have HB:Hid (zS ((ints s).getD k 0)=true):=by rw[HG.out];unfold zS;simp[Dh];exact trivial
    go_wp2_with(go_at_call 90;refine(jh _ _).mono ?_;rintro e w' ⟨rfl,rfl⟩)
    go_round
    case rel=>exact⟨k+1,by omega,by go_num,fun j hj=>by
                          by_cases e:j=k
                          ·rw[e];exact HB.out
                          ·exact HA.out j (by omega)⟩
    case measure=>simp[intOf];omega
   have HB:Hid (zS ((ints s).getD k 0)=false):=by rw[HG.out];unfold zS;simp[h0',Dh];exact trivial
   go_wp2_with(go_at_call 90;refine(jh _ _).mono ?_;rintro e w' ⟨rfl,rfl⟩);go_ret;exact⟨av (qK _ _ _ k bJ HB.out).symm,rfl⟩
  ·obtain rfl:k=s.size:=by omega
   go_wp2;go_ret;exact⟨av (qJ _ _ _ (by omega) (by omega) HA.out).symm,rfl⟩
theorem qN(s:ByteArray)(w:World)(hs:s.size<=140737488351232):
    Calls Tryz.prog 119 #[.string s] w fun e w'=>e=.returned (.bool (loc s))/\w=w':=by
 unfold loc
 by_cases he:s.size=0
 ·have he':(s.size:Int)=0:=by omega
  go_enter Tryz.func119,Tryz.ntmps119;go_wp2;go_ret;exact⟨av (oQ _ _ _ he).symm,rfl⟩
 by_cases hm:32<(s.size:Int)
 ·go_enter Tryz.func119,Tryz.ntmps119;go_wp2;go_ret;exact⟨av (oP _ _ _ hm).symm,rfl⟩
 go_enter Tryz.func119,Tryz.ntmps119;go_wp2
 go_loop [3] (fun i=>∃k:Nat,k<=s.size/\i=.int .i64 k/\∀j,j<k->xt ((ints s).getD j 0)=true) (fun i=>s.size - (intOf i).toNat)
 case atStart=>exact⟨0,Nat.zero_le _,rfl,fun j hj=>by omega⟩
 case round=>
  obtain⟨k,hk,rfl,eO⟩:=hrel;have HA:Hid (∀j,j<k->xt ((ints s).getD j 0)=true):=eO;clear eO
  by_cases bJ:k<s.size
  ·have HG:Hid ((ints s).getD k 0=(s[k].toNat:Int)):=dH s k bJ;have bI:(s[k].toNat:Int)<=255:=by have:=s[k].toNat_lt;omega
   by_cases h0:small (s[k].toNat:Int)=true
   ·have HB:Hid (xt ((ints s).getD k 0)=true):=by rw[HG.out];unfold xt;simp[h0];exact trivial
    go_wp2_with(go_at_call 90;refine(jh _ _).mono ?_;rintro e w' ⟨rfl,rfl⟩)
    go_round
    case rel=>exact⟨k+1,by omega,by go_num,fun j hj=>by
                          by_cases e:j=k
                          ·rw[e];exact HB.out
                          ·exact HA.out j (by omega)⟩
    case measure=>simp[intOf];omega
   have h0':small (s[k].toNat:Int)=false:=by simpa using h0
   clear h0
   by_cases Dh:(s[k].toNat:Int)=45
   ·have HB:Hid (xt ((ints s).getD k 0)=true):=by rw[HG.out];unfold xt;simp[Dh];exact trivial
    go_wp2_with(go_at_call 90;refine(jh _ _).mono ?_;rintro e w' ⟨rfl,rfl⟩)
    go_round
    case rel=>exact⟨k+1,by omega,by go_num,fun j hj=>by
                          by_cases e:j=k
                          ·rw[e];exact HB.out
                          ·exact HA.out j (by omega)⟩
    case measure=>simp[intOf];omega
   by_cases h95:(s[k].toNat:Int)=95
   ·have HB:Hid (xt ((ints s).getD k 0)=true):=by rw[HG.out];unfold xt;simp[h95];exact trivial
    go_wp2_with(go_at_call 90;refine(jh _ _).mono ?_;rintro e w' ⟨rfl,rfl⟩)
    go_round
    case rel=>exact⟨k+1,by omega,by go_num,fun j hj=>by
                          by_cases e:j=k
                          ·rw[e];exact HB.out
                          ·exact HA.out j (by omega)⟩
    case measure=>simp[intOf];omega
   have HB:Hid (xt ((ints s).getD k 0)=false):=by rw[HG.out];unfold xt;simp[h0',Dh,h95];exact trivial
   have b45:((s[k].toNat:Int) !=45)=true:=by simp[Dh]
   have b95:((s[k].toNat:Int) !=95)=true:=by simp[h95]
   go_wp2_with(go_at_call 90;refine(jh _ _).mono ?_;rintro e w' ⟨rfl,rfl⟩);go_ret;exact⟨av (qK _ _ _ k bJ HB.out).symm,rfl⟩
  ·obtain rfl:k=s.size:=by omega
   go_wp2;go_ret;exact⟨av (qJ _ _ _ (by omega) (by omega) HA.out).symm,rfl⟩
theorem Gj(s:ByteArray)(w:World)(hs:s.size<=140737488351232):
    Calls Tryz.prog 47 #[.string s] w fun e w'=>e=.returned (.bool (aQ s))/\w=w':=by
 unfold aQ
 by_cases he:s.size=0
 ·have he':(s.size:Int)=0:=by omega
  go_enter Tryz.func47,Tryz.ntmps47;go_wp2;go_ret;exact⟨av (oQ _ _ _ he).symm,rfl⟩
 by_cases hm:64<(s.size:Int)
 ·go_enter Tryz.func47,Tryz.ntmps47;go_wp2;go_ret;exact⟨av (oP _ _ _ hm).symm,rfl⟩
 go_enter Tryz.func47,Tryz.ntmps47;go_wp2
 go_loop [3] (fun i=>∃k:Nat,k<=s.size/\i=.int .i64 k/\∀j,j<k->zT ((ints s).getD j 0)=true) (fun i=>s.size - (intOf i).toNat)
 case atStart=>exact⟨0,Nat.zero_le _,rfl,fun j hj=>by omega⟩
 case round=>
  obtain⟨k,hk,rfl,eO⟩:=hrel;have HA:Hid (∀j,j<k->zT ((ints s).getD j 0)=true):=eO;clear eO
  by_cases bJ:k<s.size
  ·have HG:Hid ((ints s).getD k 0=(s[k].toNat:Int)):=dH s k bJ;have bI:(s[k].toNat:Int)<=255:=by have:=s[k].toNat_lt;omega
   by_cases h0:small (s[k].toNat:Int)=true
   ·have HB:Hid (zT ((ints s).getD k 0)=true):=by rw[HG.out];unfold zT;simp[h0];exact trivial
    go_wp2_with(go_at_call 90;refine(jh _ _).mono ?_;rintro e w' ⟨rfl,rfl⟩)
    go_round
    case rel=>exact⟨k+1,by omega,by go_num,fun j hj=>by
                          by_cases e:j=k
                          ·rw[e];exact HB.out
                          ·exact HA.out j (by omega)⟩
    case measure=>simp[intOf];omega
   have h0':small (s[k].toNat:Int)=false:=by simpa using h0
   clear h0
   by_cases h95:(s[k].toNat:Int)=95
   ·have HB:Hid (zT ((ints s).getD k 0)=true):=by rw[HG.out];unfold zT;simp[h95];exact trivial
    go_wp2_with(go_at_call 90;refine(jh _ _).mono ?_;rintro e w' ⟨rfl,rfl⟩)
    go_round
    case rel=>exact⟨k+1,by omega,by go_num,fun j hj=>by
                          by_cases e:j=k
                          ·rw[e];exact HB.out
                          ·exact HA.out j (by omega)⟩
    case measure=>simp[intOf];omega
   have HB:Hid (zT ((ints s).getD k 0)=false):=by rw[HG.out];unfold zT;simp[h0',h95];exact trivial
   go_wp2_with(go_at_call 90;refine(jh _ _).mono ?_;rintro e w' ⟨rfl,rfl⟩);go_ret;exact⟨av (qK _ _ _ k bJ HB.out).symm,rfl⟩
  ·obtain rfl:k=s.size:=by omega
   go_wp2;go_ret;exact⟨av (qJ _ _ _ (by omega) (by omega) HA.out).symm,rfl⟩
theorem vY(s:ByteArray)(c:Int)(w:World)(hs:s.size<=1000000):
    Calls Tryz.prog 89 #[.int .u8 c,.string s] w fun e w'=>e=.returned (told (parts c s))/\Below w.heap.size w w':=by
 go_enter Tryz.func89,Tryz.ntmps89;go_wp2
 go_loop [7] (fun i=>∃k:Nat,1<=k/\(k<=s.size\/ k=1)/\i=.int .i64 k/\∀j,1<=j->j<k->(ints s).getD j 0≠58) (fun i=>s.size - (intOf i).toNat)
 case atStart=>exact⟨1,Nat.le_refl _,.inr rfl,rfl,fun j h1 h2=>by omega⟩
 case round=>
  obtain⟨k,h1,hk,rfl,eO⟩:=hrel;have HA:Hid (∀j,1<=j->j<k->(ints s).getD j 0≠58):=eO;clear eO
  by_cases bJ:k<s.size
  ·have h0:0<s.size:=by omega
   have HG0:Hid ((ints s).getD 0 0=(s[0].toNat:Int)):=dH s 0 h0
   by_cases hc:(s[0].toNat:Int)=c
   ·have HG:Hid ((ints s).getD k 0=(s[k].toNat:Int)):=dH s k bJ
    by_cases h58:(s[k].toNat:Int)=58
    ·have HP:Hid (parts c s=if loc (s.extract 1 k)=true/\EH (s.extract (k+1) s.size)=true then(s.extract 1 k,s.extract (k+1) s.size,true)else(aH,aH,false)):=
       Df c s k (by rw[HG0.out];exact hc) h1 bJ (by rw[HG.out];exact h58) HA.out
     have Ns:(s.extract 1 k).size<=140737488351232:=by simp;omega
     have OP:(s.extract (k+1) s.size).size<=140737488351232:=by simp;omega
     by_cases hL:loc (s.extract 1 k)=true
     ·by_cases hS:EH (s.extract (k+1) s.size)=true
      ·go_wp2_with(first
         | (go_at_call 119;refine(qN _ _ Ns).mono ?_;rintro e w' ⟨rfl,rfl⟩)
         | (go_at_call 92;refine(pG _ _ OP).mono ?_;rintro e w' ⟨rfl,rfl⟩))
       go_quiet (fail);go_wp2
       go_ret3
       exact⟨ku (by rw[HP.out,if_pos ⟨hL,hS⟩]),below_drewN _ _⟩
      ·have hS':EH (s.extract (k+1) s.size)=false:=by simpa using hS
       go_wp2_with(first
        | (go_at_call 119;refine(qN _ _ Ns).mono ?_;rintro e w' ⟨rfl,rfl⟩)
        | (go_at_call 92;refine(pG _ _ OP).mono ?_;rintro e w' ⟨rfl,rfl⟩))
       go_ret3
       exact⟨ku (by rw[HP.out,if_neg (by simp[hS'])];rfl),Below.refl _ _⟩
     ·have hL':loc (s.extract 1 k)=false:=by simpa using hL
      go_wp2_with(go_at_call 119;refine(qN _ _ Ns).mono ?_;rintro e w' ⟨rfl,rfl⟩)
      go_ret3
      exact⟨ku (by rw[HP.out,if_neg (by simp[hL'])];rfl),Below.refl _ _⟩
    ·go_wp2
     go_round
     case rel=>exact⟨k+1,by omega,.inl (by omega),by go_num,fun j hj zQ=>by
                           by_cases e:j=k
                           ·rw[e,HG.out];exact h58
                           ·exact HA.out j hj (by omega)⟩
     case measure=>simp[intOf];omega
   ·go_wp2
    go_ret3
    exact⟨ku (oU c s (.inr (.inl (by rw[HG0.out];exact hc)))),Below.refl _ _⟩
  ·go_wp2
   go_ret3
   refine⟨ku (oU c s ?_),Below.refl _ _⟩;exact .inr (.inr fun j hj zQ=>HA.out j hj (by omega))
theorem Gl(s:ByteArray)(w:World)(hs:s.size<=1000000):
    Calls Tryz.prog 91 #[.string s] w fun e w'=>e=.returned (told (parts 64 s))/\Below w.heap.size w w':=by
 go_enter Tryz.func91,Tryz.ntmps91;go_wp2_with(go_at_call 89;refine(vY s 64 _ hs).mono ?_;rintro e w1 ⟨rfl,bI⟩;unfold told)
 go_ret3
 exact⟨rfl,bI⟩
theorem Gm(s:ByteArray)(w:World)(hs:s.size<=1000000):
    Calls Tryz.prog 46 #[.string s] w fun e w'=>e=.returned (told (parts 33 s))/\Below w.heap.size w w':=by
 go_enter Tryz.func46,Tryz.ntmps46;go_wp2_with(go_at_call 89;refine(vY s 33 _ hs).mono ?_;rintro e w1 ⟨rfl,bI⟩;unfold told)
 go_ret3
 exact⟨rfl,bI⟩
theorem wraps_u32(n:Int)(h₀:0<=n)(h₁:n<2 ^ 32):IntKind.u32.wrap n=n:=by rw[IntKind.wrap_u32];omega
theorem zl(i:Nat)(x y:Int)(hx₀:0<=x)(hx:x % 2 ^ i=0)(hx₁:x<4294967296)(hy₀:0<=y)(hy:y<2 ^ i)(hy₁:y<4294967296):bits .or .u32 x y=x+y:=
 bits_join .u32 32 (by decide) wraps_u32 i x y hx₀ hx (by omega) hy₀ hy (by omega)
theorem Yv:∀i:Fin 64,(((⟨#[65,66,67,68,69,70,71,72,73,74,75,76,77,78,79,80,81,82,83,84,85,86,87,88,89,90,97,98,99,100,101,102,103,104,105,106,107,108,109,110,111,112,113,114,115,116,117,118,119,120,121,122,48,49,50,51,52,53,54,55,56,57,43,47]⟩:ByteArray)[i.val]'(by exact i.isLt)).toNat:Int)=Nq i.val:=by decide
theorem Vx(k:IntKind)(i:Int)(h0:0<=i)(h1:i<=63)(w:World):
    (Instr.index 9 (.string ⟨#[65,66,67,68,69,70,71,72,73,74,75,76,77,78,79,80,81,82,83,84,85,86,87,88,89,90,97,98,99,100,101,102,103,104,105,106,107,108,109,110,111,112,113,114,115,116,117,118,119,120,121,122,48,49,50,51,52,53,54,55,56,57,43,47]⟩) (.int k i)).run Tryz.prog w=.ok (.int .u8 (Nq i)) w:=by
 obtain⟨n,rfl⟩:=Int.eq_ofNat_of_zero_le h0;rw[run_index_string w 9 _ k (n:Int) Tryz.underlying9,dif_pos ⟨by omega,by show(n:Int)<((64:Nat):Int);omega⟩];rw[<-Yv ⟨n,by omega⟩]
 rfl
theorem Kh(a b c d:Int)(w:World)(ha0:0<=a)(ha:a<=255)(qO:0<=b)(hb:b<=255)(Q5:0<=c)(hc:c<=255)(Cm:0<=d)(hd:d<=255):
    Calls Tryz.prog 154 #[.agg #[.int .u8 a,.int .u8 b,.int .u8 c,.int .u8 d]] w fun e w'=>e=.returned (.agg #[.int .u8 (bV a*4+bV b / 16),.int .u8 (bV b % 16*16+bV c / 4),.int .u8 (bV c % 4*64+bV d)])/\Below w.heap.size w w':=by
 have na:=eF a;have nb:=eF b;have nc:=eF c;have nd:=eF d;have ma:=eD a;have mb:=eD b;have mc:=eD c;have md:=eD d;have o0:bits .or .u32 0 (bV a)=bV a:=by rw[zl 6 _ _ (by omega) (by omega) (by omega) (by omega) (by omega) (by omega)];omega
 have o1:bits .or .u32 (bV a*64) (bV b)=bV a*64+bV b:=zl 6 _ _ (by omega) (by omega) (by omega) (by omega) (by omega) (by omega);have o2:bits .or .u32 ((bV a*64+bV b)*64) (bV c)=(bV a*64+bV b)*64+bV c:=zl 6 _ _ (by omega) (by omega) (by omega) (by omega) (by omega) (by omega);have o3:bits .or .u32 (((bV a*64+bV b)*64+bV c)*64) (bV d)=((bV a*64+bV b)*64+bV c)*64+bV d:=zl 6 _ _ (by omega) (by omega) (by omega) (by omega) (by omega) (by omega);have r1:(((bV a*64+bV b)*64+bV c)*64+bV d) / 65536=bV a*4+bV b / 16:=by omega
 have r2:(((bV a*64+bV b)*64+bV c)*64+bV d) / 256 % 256=bV b % 16*16+bV c / 4:=by omega
 have r3:(((bV a*64+bV b)*64+bV c)*64+bV d) % 256=bV c % 4*64+bV d:=by omega
 have i0:∀w,(Instr.index 153 (.agg #[.int .u8 a,.int .u8 b,.int .u8 c,.int .u8 d]) (.int .i64 0)).run Tryz.prog w=.ok (.int .u8 a) w:=fun _=>by kernel_rfl
 have i1:∀w,(Instr.index 153 (.agg #[.int .u8 a,.int .u8 b,.int .u8 c,.int .u8 d]) (.int .i64 1)).run Tryz.prog w=.ok (.int .u8 b) w:=fun _=>by kernel_rfl
 have i2:∀w,(Instr.index 153 (.agg #[.int .u8 a,.int .u8 b,.int .u8 c,.int .u8 d]) (.int .i64 2)).run Tryz.prog w=.ok (.int .u8 c) w:=fun _=>by kernel_rfl
 have i3:∀w,(Instr.index 153 (.agg #[.int .u8 a,.int .u8 b,.int .u8 c,.int .u8 d]) (.int .i64 3)).run Tryz.prog w=.ok (.int .u8 d) w:=fun _=>by kernel_rfl
 go_enter Tryz.func154,Tryz.ntmps154;go_wp2;refine wp_loop_rounds 5 ?_
 iterate 5 (rw[rounds_succ];go_wp2_with(go_at_call 172;refine(kK _ _ (by omega) (by omega)).mono ?_;rintro e w' ⟨rfl,rfl⟩))
 exact bodyPost_ret (v:=.agg #[.int .u8 (bV a*4+bV b / 16),.int .u8 (bV b % 16*16+bV c / 4),.int .u8 (bV c % 4*64+bV d)]) (by simp[results,Tryz.results154,go_sem]) rfl ⟨rfl,((Below.refl _ _).alloc (Nat.le_refl _) _).alloc (by simp) _⟩
theorem zaI(x:Int)(h₀:0<=x)(h₁:x<4294967296):bits .and .u32 x 15=x % 16:=
 bits_mask .u32 32 (by decide) wraps_u32 4 (by decide) x h₀ (by omega)
theorem zcV(x:Int)(h₀:0<=x)(h₁:x<4294967296):bits .and .u32 x 3=x % 4:=
 bits_mask .u32 32 (by decide) wraps_u32 2 (by decide) x h₀ (by omega)
theorem Di(s:ByteArray)(w:World)(hs:s.size<=140737488351232)(h4:s.size % 4≠1):
    Calls Tryz.prog 173 #[.string s] w fun e w'=>e=.returned (.int .u32 (rW (ints s)))/\w=w':=by
 have HL:Hid ((ints s).length=s.size):=ax s
 by_cases h0:s.size % 4=0
 ·have h0':(s.size:Int) % 4=0:=by omega
  go_enter Tryz.func173,Tryz.ntmps173;go_wp2;go_ret;exact⟨mE (by unfold rW;rw[HL.out,if_neg (by omega),if_neg (by omega)]),rfl⟩
 have hg:=dH s (s.size - 1) (by omega);have qO:(0:Int)<=(s[s.size - 1].toNat:Int):=by omega
 have bI:(s[s.size - 1].toNat:Int)<=255:=by have:=s[s.size - 1].toNat_lt;omega
 have n0:=eD (s[s.size - 1].toNat:Int);have n1:=eF (s[s.size - 1].toNat:Int);have HG:Hid ((ints s).getD (s.size - 1) 0=(s[s.size - 1].toNat:Int)):=hg;clear hg
 by_cases h2:s.size % 4=2
 ·have h2':(s.size:Int) % 4=2:=by omega
  go_enter Tryz.func173,Tryz.ntmps173;go_wp2_with(go_at_call 172;refine(kK _ _ (by omega) (by omega)).mono ?_;rintro e w' ⟨rfl,rfl⟩);go_ret;exact⟨mE (by unfold rW;rw[HL.out,if_pos h2,HG.out];exact zaI _ n0 (by omega)),rfl⟩
 ·have h2':(s.size:Int) % 4=3:=by omega
  go_enter Tryz.func173,Tryz.ntmps173;go_wp2_with(go_at_call 172;refine(kK _ _ (by omega) (by omega)).mono ?_;rintro e w' ⟨rfl,rfl⟩);go_ret;exact⟨mE (by unfold rW;rw[HL.out,if_neg h2,if_pos (by omega),HG.out];exact zcV _ n0 (by omega)),rfl⟩
theorem zm{a b c d:Int}(h:a=c)(hp:b=d):Ending.returned (.tuple #[.int .i64 a,.int .i64 b])=.returned (.tuple #[.int .i64 c,.int .i64 d]):=by rw[h,hp]
theorem Dj(s:ByteArray)(w:World)(hs:s.size<=140737488351232):
    Calls Tryz.prog 152 #[.string s] w fun e w'=>e=.returned (.tuple #[.int .i64 (pF (ints s)).1,.int .i64 (pF (ints s)).2])/\w=w':=by
 have HL:Hid ((ints s).length=s.size):=ax s;go_enter Tryz.func152,Tryz.ntmps152;go_wp2
 go_loop [9] (fun i=>∃k:Nat,k<=s.size/\i=.int .i64 k/\∀j,j<k->isLet ((ints s).getD j 0)=true) (fun i=>s.size - (intOf i).toNat)
 case atStart=>exact⟨0,Nat.zero_le _,rfl,fun j hj=>by omega⟩
 case round=>
  obtain⟨k,hk,rfl,eO⟩:=hrel;have HA:Hid (∀j,j<k->isLet ((ints s).getD j 0)=true):=eO;clear eO
  by_cases bJ:k<s.size
  ·have HG:Hid ((ints s).getD k 0=(s[k].toNat:Int)):=dH s k bJ;have bI:(s[k].toNat:Int)<=255:=by have:=s[k].toNat_lt;omega
   by_cases hb:isLet (s[k].toNat:Int)=true
   ·go_wp2_with(go_at_call 172;refine(kK _ _ (by omega) (by omega)).mono ?_;rintro e w' ⟨rfl,rfl⟩)
    go_round
    case rel=>exact⟨k+1,by omega,by go_num,fun j hj=>by
                          by_cases e:j=k
                          ·rw[e,HG.out];exact hb
                          ·exact HA.out j (by omega)⟩
    case measure=>simp[intOf];omega
   ·have zk:isLet (s[k].toNat:Int)=false:=by simpa using hb
    clear hb;go_wp2_with(go_at_call 172;refine(kK _ _ (by omega) (by omega)).mono ?_;rintro e w' ⟨rfl,rfl⟩);go_ret2;have mJ:=Nr (ints s) k (by rw[HL.out];exact bJ) HA.out (by rw[HG.out];exact zk);exact⟨zm (by unfold pF;rw[mJ,HL.out,if_pos bJ]) (by unfold pF;rw[mJ,HL.out,if_pos bJ]),rfl⟩
  ·obtain rfl:k=s.size:=by omega
   have mJ:Hid (zO (ints s)=s.size):=(Gc (ints s) (by rw[HL.out];exact HA.out)).trans HL.out
   by_cases h1:s.size % 4=1
   ·have h1':(s.size:Int) % 4=1:=by omega
    go_wp2;go_ret2;exact⟨zm (by unfold pF;rw[mJ.out,HL.out,if_neg (by omega),if_pos h1]) (by unfold pF;rw[mJ.out,HL.out,if_neg (by omega),if_pos h1]),rfl⟩
   ·have h1':¬(s.size:Int) % 4=1:=by omega
    by_cases Rx:rW (ints s)=0
    ·have hp:Hid (rW (ints s)=0):=Rx;go_wp2_with(go_at_call 173;refine(Di s _ hs (by omega)).mono ?_;rintro e w' ⟨rfl,rfl⟩);go_ret2;exact⟨zm (by unfold pF;rw[mJ.out,HL.out,if_neg (by omega),if_neg h1,if_neg (by simp[hp.out])]) (by unfold pF;rw[mJ.out,HL.out,if_neg (by omega),if_neg h1,if_neg (by simp[hp.out])]),rfl⟩
    ·go_wp2_with(go_at_call 173;refine(Di s _ hs (by omega)).mono ?_;rintro e w' ⟨rfl,rfl⟩);go_ret2;exact⟨zm (by unfold pF;rw[mJ.out,HL.out,if_neg (by omega),if_neg h1,if_pos Rx]) (by unfold pF;rw[mJ.out,HL.out,if_neg (by omega),if_neg h1,if_pos Rx]),rfl⟩
theorem Tryz.Gn:(Tryz.prog.info? 5).map (fun i=>(i.zero,i.size,i.bytes))=some (some (.int .u8 0),1,1):=by kernel_rfl
theorem Tryz.XB:(Tryz.prog.info? 5).map (·.size)=some 1:=by kernel_rfl
def Rd(B:Nat)(w:World)(p:Option Addr)(c:Nat)(rs:List Int):Prop:=
 rs.length<=c/\(∀x∈rs,0<=x/\x<=255)/\∀j,j<rs.length->∃a,p=some a/\a.block<B/\w.cell? (a.add j)=some (.int .u8 (rs.getD j 0))
theorem zV(l:List Int):∀v∈l.map (Value.int .u8),v.oneCell'=true:=by
 intro v hv;simp only[List.mem_map]at hv;obtain⟨x,_,rfl⟩:=hv
 rfl
theorem Ry(rs:List Int):splice [Value.int .u8 0,.int .u8 0,.int .u8 0,.int .u8 0] 0 ((rs.take 4).map (Value.int .u8))= [.int .u8 (rs.getD 0 0),.int .u8 (rs.getD 1 0),.int .u8 (rs.getD 2 0),.int .u8 (rs.getD 3 0)]:=by
 match rs with
 | []=>rfl
 | [_]=>rfl
 | [_,_]=>rfl
 | [_,_,_]=>rfl
 | _::_::_::_::_=>simp[splice]
theorem zn{rs:List Int}(h:∀x∈rs,0<=x/\x<=255)(j:Nat):0<=rs.getD j 0/\rs.getD j 0<=255:=by
 rw[List.getD_eq_getElem?_getD]
 rcases Nat.lt_or_ge j rs.length with hj| hj
 ·rw[List.getElem?_eq_getElem hj];exact h _ (List.getElem_mem hj)
 ·rw[List.getElem?_eq_none hj];simp
theorem aR{w:World}{g t:Nat}{fr:Nat×Nat}{cur:List Value}(h:w.heap[g]?=some (.cells cur.toArray t fr))(j:Nat)(v:Value)(hj:cur[j]?=some v):w.cell? ⟨g,j,none⟩=some v:=by
 simp[World.cell?,h,hj]
theorem sizeOf5(w:World):(sizeOf 5).run Tryz.prog w=.ok 1 w:=by kernel_rfl
theorem Rz:Tryz.prog.elem 40=5:=by kernel_rfl
theorem Ki:Tryz.prog.arrayLen 154=3:=by kernel_rfl
theorem Nt:Tryz.prog.elem 154=5:=by kernel_rfl
theorem Kj(m:Nat)(hm:m<=3)(a:Addr)(wx:World):(Instr.sliceAt 154 (.pointer (some a)) none (some (.int .i64 (m:Int))) none).run Tryz.prog wx=.ok (.slice (some a) m 3) wx:=by
 rw[run_sliceAt_array_h wx 154 a (by rw[Ki,Nt];exact Tryz.underlying154) .i64 (m:Int) (by omega) (by rw[Ki];omega),Nt,sizeOf5,Ki];simp[Result.andThen,slicedAt,Addr.add]
theorem nT{w:World}{B e size n:Nat}{v:Value}{xs:List Value}(h:w.ownsRow B e size v n xs):∀k,v.ownBlock=some k->B<=k:=by
 intro k hk
 rcases h.2 with⟨rfl,_⟩| ⟨g,cap,cur,rfl,hg,_⟩
 ·cases hk
 ·cases hk;exact hg
theorem lU(w:World)(L:List Int)(t n j:Nat)(u:Value)(h:((L.take n).map (Value.int .u8))[j]?=some u):
    (w.alloc (.cells (L.map (Value.int .u8)).toArray t)).cell? ((⟨w.heap.size,0,none⟩:Addr).add j)=some u:=by
 have e:(⟨w.heap.size,0,none⟩:Addr).add j=⟨w.heap.size,j,none⟩:=by unfold Addr.add;split<;>simp_all
 rw[e];refine aR (heap_alloc_new _ _) j u ?_;rw[List.getElem?_map,List.getElem?_take]at h
 split at h
 ·rw[List.getElem?_map];exact h
 ·cases h
def lenOf:Value->Nat
 | .slice _ n _=>n
 | _=>0
theorem EJ(w:World)(ty g Kk Vy:Nat)(s:ByteArray)(cur:List Value)(t n:Nat)(hg:w.heap[g]?=some (.cells cur.toArray t (0,0)))(hn:n=min s.size Kk)(uA:n<=cur.length):
    (Builtin.copy_ #[40,9] ty #[.slice (some ⟨g,0,none⟩) Kk Vy,.string s]).run Tryz.prog w=
     .ok (goInt n) (w.setRow g (splice cur 0 (((ints s).take n).map (Value.int .u8))).toArray):=by
 have cB:(((ints s).take n).map (Value.int .u8)).length=n:=by simp[ax];omega
 have lV:=run_storeCells_at Tryz.prog g 0 t (((ints s).take n).map (Value.int .u8)) 0 cur.toArray w hg (by rw[cB];simpa using uA) (zV _);have Yw:Nat.min s.size Kk=n:=hn.symm;have htk:List.take n (List.map (fun b:UInt8=>Value.int IntKind.u8 (b.toNat:Int)) s.data.toList)=((ints s).take n).map (Value.int .u8):=by
  simp[ints,List.map_take]
  rfl
 rw[cB]at lV;simp only[Nat.add_zero]at lV
 cases hq:Tryz.prog.info? 5 with
 | none=>have:=Tryz.XB;simp[hq]at this
 | some i=>
  simp[Builtin.copy_,run_underlying Tryz.underlying40,Builtin.lenOf,Builtin.firstCells,sizeOf,typeInfo,hq,Yw];rw[htk,lV];have hm:min n (ints s).length=n:=by rw[ax];omega
  simp[Result.andThen,splice,hm]
theorem yV{w:World}{eH:Array Oper}{rest:List Oper}{o:Oper}{a:Act}{Q:Exit->Act->World->Prop}(RA:o.guard=none)(d s:Operand)
    (ho:o.op=.call {callee:=.builtin .copy,args:=#[d,s],argTypes:=#[40,9]})
    (g Kk Vy:Nat) (x:ByteArray) (hd:a.eval d=.slice (some ⟨g,0,none⟩) Kk Vy) (hs:a.eval s=.string x)
    (cur:List Value) (t:Nat) (hg:w.heap[g]?=some (.cells cur.toArray t (0,0))) (n:Nat) (hn:n=min x.size Kk) (uA:n<=cur.length) (B:Nat) (w0:World) (hb:Below B w0 w) (hBg:B<=g)
    (h:∀w',Hid (w'.heap[g]?=some (.cells (splice cur 0 (((ints x).take n).map (Value.int .u8))).toArray t (0,0)))->Below B w0 w'->wpList Tryz.prog eH Q rest (a.put o.dst (goInt n)) w'):
    wpList Tryz.prog eH Q (o::rest) a w:=by
 refine wpList_plain RA fun K hK=> ?_;have pI:=EJ w o.type g Kk Vy x cur t n hg hn uA;unfold Oper.wp;simp[execOp,ho,resolve,invoke,builtin,hd,hs,pI,Result.andThen];exact hK _ _ (h _ (show _=_ by rw[List.map_take];exact setRow_heap w g _ _ t _ hg) (below_setRow hb hBg _))
theorem tQ{a b c d:Int}{v:Value}(h:a=c)(hp:b=d):Ending.returned (.tuple #[v,.int .i64 a,.int .i64 b])=.returned (.tuple #[v,.int .i64 c,.int .i64 d]):=by rw[h,hp]
theorem Kl(s:ByteArray)(w:World)(hs:s.size<=140737488351232)(hf:(pF (ints s)).1≠0):
    Calls Tryz.prog 126 #[.string s] w fun e w'=>e=.returned (.tuple #[.slice none 0 0,.int .i64 (pF (ints s)).1,.int .i64 (pF (ints s)).2])/\Below w.heap.size w w':=by
 go_enter Tryz.func126,Tryz.ntmps126;go_wp2_with(go_at_call 152;refine(Dj s _ hs).mono ?_;rintro e w' ⟨rfl,rfl⟩)
 go_ret3
 exact⟨tQ rfl rfl,Below.refl _ _⟩
theorem Rest.cut(q:Option Addr)(l m g d:Nat)(hm:m<=l)(hq:0<l->q=some ⟨g,d,none⟩):
    ∃q',(∀wx,(Instr.slice 40 (.slice q l l) (some (.int .i64 (m:Int))) none none).run Tryz.prog wx=.ok (.slice q' (l - m) (l - m)) wx)/\(0<l - m->q'=some ⟨g,d+m,none⟩):=by
 refine⟨if l=m then q else q.map (·.add (m*1)),fun wx=> ?_,fun h=> ?_⟩
 ·rw[run_slice_l wx 40 q l l (by rw[Rz];exact Tryz.underlying40) .i64 (m:Int) (by omega) (by omega),Rz,sizeOf5];simp only[Result.andThen,Int.toNat_natCast,sliced]
 ·rw[if_neg (by omega),hq (by omega)];simp[Addr.add]
theorem zo{w:World}{B g n:Nat}{xs:List Value}(h:w.ownsRow B 5 1 (.slice (some ⟨g,0,none⟩) n n) n xs):w.heap[g]?=some (.cells xs.toArray 5 (0,0)):=by
 rcases h.2 with⟨h',_⟩| ⟨g',cap,cur,he,hg,xn,h1,h2,h3,h4⟩
 ·cases h'
 ·cases he
  rw[xn];have e:xs=cur.toList:=by rw[<-h4,List.take_of_length_le (by simp;omega)]
  rw[e]
theorem OQ(n:Nat):(madeCells #[Value.int .u8 0] n).toList=(List.replicate n (0:Int)).map (Value.int .u8):=by
 rw[toList_madeCells_one];simp
theorem Gp(done news:List Int)(l:Nat):
    splice ((done++List.replicate l (0:Int)).map (Value.int .u8)) done.length (news.map (Value.int .u8))=((done++news)++List.replicate (l - news.length) (0:Int)).map (Value.int .u8):=by
 simp only[splice,List.map_append,List.length_map,List.append_assoc];rw[List.take_append_of_le_length (by simp),List.take_of_length_le (by simp),List.drop_append,List.drop_eq_nil_of_le (by simp),List.map_replicate,List.drop_replicate];simp
theorem Gq(s:ByteArray)(w:World)(hs:s.size<=140737488351232)(hf:(pF (ints s)).1=0):
    Calls Tryz.prog 126 #[.string s] w fun e w'=>e=.returned (.tuple #[.slice (some ⟨w.heap.size,0,none⟩) (dec (ints s)).length (dec (ints s)).length,.int .i64 0,.int .i64 0])∧
     w'.heap[w.heap.size]?=some (.cells ((dec (ints s)).map (Value.int .u8)).toArray 5 (0,0))/\Below w.heap.size w w':=by
 obtain⟨i0,hi,vZ,yo,zq⟩:=info_parts Tryz.Gn;have h4:s.size % 4≠1:=by have:=(Rj _ hf).2.1;rw[ax]at this;exact this
 obtain⟨L,hL⟩:∃L,L=(dec (ints s)).length:=⟨_,rfl⟩;have hl:((L:Nat):Int)=(s.size:Int) / 4*3+uz ((s.size:Int) % 4):=by rw[hL,u_,ax]
 have FY:=Vs ((s.size:Int) % 4) (by omega);have HL:Hid (L=(dec (ints s)).length):=hL;have HL':Hid (((L:Nat):Int)=(s.size:Int) / 4*3+uz ((s.size:Int) % 4)):=hl;have Ch:L<=140737488351232:=by omega
 rw[<-hL];clear hl hL;go_enter Tryz.func126,Tryz.ntmps126;go_wp2_with(first
  | (go_at_call 152;refine(Dj s _ hs).mono ?_;rintro e w' ⟨rfl,rfl⟩)
  | (go_at_call 153;refine(yn _ _ (by omega) (by omega)).mono ?_;rintro e w' ⟨rfl,rfl⟩)
  | (at_make;refine wpList_make_full _ rfl _ _ 40 rfl w.heap.size 5 i0 (.int .u8 0) 1 Tryz.underlying40 hi vZ yo _ _ _ _ L rfl rfl ?b0 ?b1 ?b2 ?b3 (Nat.le_refl _) ?_))
 case b0=>exact HL'.out.symm
 case b1=>exact HL'.out.symm
 case b2=>rw[zq];omega
 case b3=>unfold maxLen;omega
 intro w1 aT rF;have bI:Below w.heap.size w w1:=(Below.refl _ _).grown rF (Nat.le_refl _) (by simp);have Q6:Hid (w1.heap[w.heap.size]?=some (.cells ((([]:List Int)++List.replicate L (0:Int)).map (Value.int .u8)).toArray 5 (0,0))):=by
  have:=zo aT;rw[OQ]at this;exact this
 clear aT rF;go_wp2
 go_loopw [0,8] (fun sv rv wr=>∃(t:ByteArray) (done:List Int) (q:Option Addr) (l:Nat),sv=.string t/\t.size<=s.size/\t.size % 4≠1/\dec (ints s)=done++dec (ints t)/\l=(dec (ints t)).length∧
     rv=.slice q l l/\(0<l->q=some ⟨w.heap.size,done.length,none⟩)/\wr.heap[w.heap.size]?=some (.cells ((done++List.replicate l (0:Int)).map (Value.int .u8)).toArray 5 (0,0))/\Below w.heap.size w wr)
  (fun _ rv _=>lenOf rv)
 case atStart=>exact⟨s, [],_,L,rfl,Nat.le_refl _,h4,rfl,HL.out,rfl,fun _=>rfl,Q6.out,bI⟩
 case round=>
  clear Q6 bI;obtain⟨t,done,q,l,rfl,ht,ht4,rX,hl,rfl,hq,mK,hb⟩:=hrel;have HD:Hid (dec (ints s)=done++dec (ints t)):=rX;have BU:Hid (l=(dec (ints t)).length):=hl;have RB:Hid (wr.heap[w.heap.size]?=some (.cells ((done++List.replicate l (0:Int)).map (Value.int .u8)).toArray 5 (0,0))):=mK;have HQ:Hid (0<l->q=some ⟨w.heap.size,done.length,none⟩):=hq;have OT:0<l↔0<t.size:=by rw[hl,<-ax];exact Vt _ (by rw[ax];exact ht4)
  clear rX hl mK hq
  by_cases bJ:0<l
  ·have UU:0<t.size:=OT.1 bJ;obtain⟨m,hm⟩:∃m,m+1=min t.size 4:=⟨min t.size 4 - 1,by omega⟩;have EG:1<=m:=by omega
   have hm3:m<=3:=by omega
   obtain⟨a0,ha0⟩:∃a,(ints t).getD 0 0=a:=⟨_,rfl⟩;obtain⟨a1,ha1⟩:∃a,(ints t).getD 1 0=a:=⟨_,rfl⟩;obtain⟨a2,ha2⟩:∃a,(ints t).getD 2 0=a:=⟨_,rfl⟩;obtain⟨a3,ha3⟩:∃a,(ints t).getD 3 0=a:=⟨_,rfl⟩;have b0:0<=a0/\a0<=255:=ha0 ▸ zn (nE t) 0;have b1:0<=a1/\a1<=255:=ha1 ▸ zn (nE t) 1;have b2:0<=a2/\a2<=255:=ha2 ▸ zn (nE t) 2;have b3:0<=a3/\a3<=255:=ha3 ▸ zn (nE t) 3;have Nu:=Rk (ints t) m a0 a1 a2 a3 EG (by rw[ax];exact hm) ha0 ha1 ha2 ha3;obtain⟨news,rG⟩:∃news,news= [bV a0*4+bV a1 / 16,bV a1 % 16*16+bV a2 / 4,bV a2 % 4*64+bV a3].take m:=⟨_,rfl⟩;have mV:news.length=m:=by rw[rG];simp;omega
   rw[<-rG]at Nu;have uI:l=m+(dec ((ints t).drop (m+1))).length:=by rw[BU.out,Nu];simp[mV]
   have mW:m<=l:=by omega
   have hS:splice [Value.int .u8 0,.int .u8 0,.int .u8 0,.int .u8 0] 0 (((ints t).take (m+1)).map (Value.int .u8))= [.int .u8 a0,.int .u8 a1,.int .u8 a2,.int .u8 a3]:=by
    have e3:(ints t).take (m+1)=(ints t).take 4:=by rw[hm];exact(List.take_eq_take_iff.2 (by rw[ax];omega))
    rw[e3,Ry,ha0,ha1,ha2,ha3]
   have HS:Hid (splice [Value.int .u8 0,.int .u8 0,.int .u8 0,.int .u8 0] 0 (((ints t).take (m+1)).map (Value.int .u8))= [.int .u8 a0,.int .u8 a1,.int .u8 a2,.int .u8 a3]):=hS;have yX:Hid (dec (ints t)=news++dec ((ints t).drop (m+1))):=Nu;have HN:Hid (news= [bV a0*4+bV a1 / 16,bV a1 % 16*16+bV a2 / 4,bV a2 % 4*64+bV a3].take m):=rG;have qP:Hid (news.length=m):=mV;have HM:Hid (m+1=min t.size 4):=hm;have HLM:Hid (l=m+(dec ((ints t).drop (m+1))).length):=uI;obtain⟨t',ht'⟩:∃t',t'=t.extract (m+1) t.size:=⟨_,rfl⟩;have lV:∀wx,(Instr.slice 9 (.string t) (some (.int .i64 ((m:Int)+1))) none none).run Tryz.prog wx=.ok (.string t') wx:=by
    intro wx;rw[run_slice_string_l wx 9 t Tryz.underlying9 .i64 ((m:Int)+1) (by omega) (by omega),ht']
    rfl
   have HT:Hid (ints t'=(ints t).drop (m+1)):=by
    have:=lq t (m+1);rw[<-ht']at this;exact this
   have RD:t'.size=t.size - (m+1):=by rw[<-ax,HT.out,List.length_drop,ax]
   have Cn:Hid (t'.size=t.size - (m+1)):=RD;obtain⟨q',hsl,hq'⟩:=Rest.cut q l m w.heap.size done.length mW HQ.out;have HQ':Hid (0<l - m->q'=some ⟨w.heap.size,done.length+m,none⟩):=hq';have zfH:=Kj m hm3;clear hm ha0 ha1 ha2 ha3 Nu rG mV uI hS ht' RD hq';have hwb:Below wr.heap.size wr (wr.alloc (.cells #[.int .u8 0,.int .u8 0,.int .u8 0,.int .u8 0] 153)):=(Below.refl _ _).alloc (Nat.le_refl _) _;go_wp2_with(refine yV rfl (.tmp 35) (.tmp 36) rfl wr.heap.size _ _ t rfl rfl [.int .u8 0,.int .u8 0,.int .u8 0,.int .u8 0] 153 ?c1 (m+1) ?c2 ?c3 wr.heap.size wr ?c4 ?c5 ?_)
   case c1=>exact heap_alloc_new _ _
   case c2=>exact HM.out
   case c3=>simp;omega
   case c4=>exact hwb
   case c5=>exact Nat.le_refl _
   intro w2 HG XC;have mK:=HG.out;rw[<-List.map_take,HS.out]at mK;have zfI:=aR mK 0 _ rfl;have zfJ:=aR mK 1 _ rfl;have zfK:=aR mK 2 _ rfl;have zfL:=aR mK 3 _ rfl;clear mK HG;obtain⟨cs,Gr⟩:∃cs,cs=news.map (Value.int .u8):=⟨_,rfl⟩;have EK:cs.length=m:=by rw[Gr,List.length_map,qP.out]
   have HCS:Hid (cs=news.map (Value.int .u8)):=Gr;clear Gr;obtain⟨cur,zaJ⟩:∃cur,cur=(done++List.replicate l (0:Int)).map (Value.int .u8):=⟨_,rfl⟩;have Yx:Hid (cur=(done++List.replicate l (0:Int)).map (Value.int .u8)):=zaJ;clear zaJ;have OU:Hid (cs.length=m):=EK;go_wp2_with(first
    | (go_at_call 154;refine(Kh a0 a1 a2 a3 _ b0.1 b0.2 b1.1 b1.2 b2.1 b2.2 b3.1 b3.2).mono ?_;rintro e w3 ⟨rfl,Yy⟩)
    | (go_at_call 153;refine(Gd _ _ (by omega) (by omega)).mono ?_;rintro e w4 ⟨rfl,rfl⟩)
    | (refine wpList_copy_splice rfl (.tmp 41) (.tmp 44) 40 40 rfl 5 Tryz.underlying40 Tryz.XB _ _ _ _ _ _ rfl rfl w.heap.size done.length cur 5 ?d1 cs ?d2 ?d3 ?d4 ?d5 w.heap.size w ?d6 ?d7 ?_))
   case d1=>
    have hlr:w.heap.size<wr.heap.size:=(Array.getElem?_eq_some_iff.1 RB.out).1;have iB:Below wr.heap.size wr w3:=XC.trans (Yy.mono XC.size);rw[heap_alloc_old _ _ (by have:=iB.size;omega),iB.block _ hlr,RB.out,Yx.out]
   case d2=>rw[OU.out];exact(Nat.min_eq_left mW).symm
   case d3=>
    intro _;refine⟨HQ.out bJ,_,rfl, ?_⟩;rw[HCS.out,HN.out];exact lU w3 [bV a0*4+bV a1 / 16,bV a1 % 16*16+bV a2 / 4,bV a2 % 4*64+bV a3] 154 m
   case d4=>rw[OU.out,Yx.out];simp;omega
   case d5=>rw[HCS.out];exact zV _
   case d6=>
    have a_:Below w.heap.size w w3:=hb.trans ((XC.trans (Yy.mono XC.size)).mono hb.size);exact a_.alloc a_.size _
   case d7=>exact Nat.le_refl _
   intro w5 HG5 nu;clear XC Yy;go_wp2;go_roundw
   case rel=>
    refine⟨t',done++news,q',l - m,rfl,by rw[Cn.out];omega,by rw[Cn.out];have:=HM.out;omega, ?_, ?_,rfl, ?_, ?_,nu⟩
    ·rw[HD.out,yX.out,HT.out];simp
    ·rw[HT.out];have:=HLM.out;omega
    ·intro h;rw[HQ'.out h,List.length_append,qP.out]
    ·rw[HG5.out,Yx.out,HCS.out,Gp,qP.out]
   case measure=>simp[lenOf];omega
  ·obtain rfl:l=0:=by omega
   have Cm:dec (ints t)= []:=List.eq_nil_of_length_eq_zero BU.out.symm;have HDD:Hid (dec (ints s)=done):=by
    have:=HD.out;rw[Cm,List.append_nil]at this;exact this
   clear Cm;go_wp2
   go_ret3
   refine⟨rfl, ?_,hb⟩;have:=RB.out;rw[HDD.out];simpa using this
end Go.Proofs.YtegcgbjjpgjnmaaGreatDoor.Id
namespace Go.Proofs.YtegcgbjjpgjnmaaGreatDoor.Id
theorem Km(a b c d:Int)(r:List Int):rW (a::b::c::d::r)=rW r:=by
 unfold rW
 cases r with
 | nil=>simp
 | cons x y=>
  have e:(a::b::c::d::x::y).length % 4=(x::y).length % 4:=by simp only[List.length_cons];omega
  have e2:(a::b::c::d::x::y).getD ((a::b::c::d::x::y).length - 1) 0=(x::y).getD ((x::y).length - 1) 0:=by simp[List.getD_eq_getElem?_getD]
  rw[e,e2]
end Go.Proofs.YtegcgbjjpgjnmaaGreatDoor.Id
namespace Go.Proofs.YtegcgbjjpgjnmaaGreatDoor.Id
open Go.RowKit
theorem Kn{w:World}{B:Nat}{v:Value}{L:List Int}(h:w.ownsRow B 5 1 v L.length (L.map (Value.int .u8)))(hL:∀x∈L,0<=x/\x<=255):∃q cq,v=.slice q L.length cq/\Rd w.heap.size w q cq L:=by
 rcases h.2 with⟨rfl,hn⟩| ⟨g,cap,cur,rfl,hg,xn,h1,h2,h3,h4⟩
 ·obtain rfl:L= []:=List.eq_nil_of_length_eq_zero hn;exact⟨none,0,rfl,Nat.le_refl _,hL,fun j hj=>by simp at hj⟩
 ·refine⟨_,cap,rfl,h1,hL,fun j hj=>⟨_,rfl,(Array.getElem?_eq_some_iff.1 xn).1, ?_⟩⟩;have e:(⟨g,0,none⟩:Addr).add j=⟨g,j,none⟩:=by unfold Addr.add;split<;>simp_all
  rw[e,h.cellAt j (by omega),List.getElem?_map,List.getElem?_eq_getElem hj,List.getD_eq_getElem?_getD,List.getElem?_eq_getElem hj]
  rfl
end Go.Proofs.YtegcgbjjpgjnmaaGreatDoor.Id
namespace Go.Proofs.YtegcgbjjpgjnmaaGreatDoor.Id
def pV(n:Int)(k:Nat):Int:=n / 2 ^ k % 2
def b6(n:Int):List Int:= [n / 32 % 2,n / 16 % 2,n / 8 % 2,n / 4 % 2,n / 2 % 2,n % 2]
theorem RF(n:Int)(k:Nat):0<=pV n k/\pV n k<=1:=by unfold pV;omega
theorem Yz(z:Int)(u:Nat)(h:0<=z):0<=z / 2 ^ u/\z / 2 ^ u<=z:=by
 have hp:(0:Int)<2 ^ u:=Int.pow_pos (by decide);exact⟨Int.ediv_nonneg h (by omega),Int.ediv_le_self _ h⟩
theorem OV(n:Int)(h₀:0<=n)(h₁:n<2 ^ 63):IntKind.i64.wrap n=n:=by rw[IntKind.wrap_i64];omega
theorem Vz(z:Int)(u:Nat)(h0:0<=z)(h1:z<=255):bits .and .i64 (z / 2 ^ u) 1=pV z u:=by
 have h:=Yz z u h0;exact bits_mask .i64 63 (by decide) OV 1 (by decide) (z / 2 ^ u) h.1 (by omega)
theorem VA(z:Int)(j:Nat)(h:j<6):(b6 z).take (j+1)=(b6 z).take j++ [pV z (5 - j)]:=by
 match j,h with
 | 0,_=>simp[b6,pV]
 | 1,_=>simp[b6,pV]
 | 2,_=>simp[b6,pV]
 | 3,_=>simp[b6,pV]
 | 4,_=>simp[b6,pV]
 | 5,_=>simp[b6,pV]
theorem gQ(zs:List Int)(k:Nat)(h:k<zs.length):zs.take (k+1)=zs.take k++ [zs.getD k 0]:=by
 rw[List.take_succ_eq_append_getElem h,List.getD_eq_getElem?_getD,List.getElem?_eq_getElem h]
 rfl
theorem mM{P:List Int}(h:∀x∈P,0<=x/\x<=1)(j:Nat):0<=P.getD j 0/\P.getD j 0<=1:=by
 rw[List.getD_eq_getElem?_getD]
 rcases Nat.lt_or_ge j P.length with hj| hj
 ·rw[List.getElem?_eq_getElem hj];exact h _ (List.getElem_mem hj)
 ·rw[List.getElem?_eq_none hj];simp
def eight:List Int->List Int
 | x0::x1::x2::x3::x4::x5::x6::x7::r=>(2*(2*(2*(2*(2*(2*(2*x0+x1)+x2)+x3)+x4)+x5)+x6)+x7)::eight r
 | _=> []
def jc(zs:List Int):List Int:=zs.flatMap fun z=>b6 (bV z)
theorem v_(zs:List Int):(jc zs).length=6*zs.length:=by
 induction zs with
 | nil=>rfl
 | cons z r ih=>simp only[jc,List.flatMap_cons,List.length_append,List.length_cons]at ih ⊢;rw[ih];simp[b6];omega
theorem Ko(l:List Int)(z:Int):jc (l++ [z])=jc l++b6 (bV z):=by simp[jc]
theorem RG(zs:List Int):∀x∈jc zs,0<=x/\x<=1:=by
 intro x hx;simp only[jc,List.mem_flatMap]at hx;obtain⟨z,_,hz⟩:=hx;simp only[b6,List.mem_cons,List.not_mem_nil,or_false]at hz;omega
theorem Kq(P:List Int)(m:Nat)(x0 x1 x2 x3 x4 x5 x6 x7:Int)(h:m+8<=P.length)(h0:P.getD m 0=x0)(h1:P.getD (m+1) 0=x1)(h2:P.getD (m+2) 0=x2)(h3:P.getD (m+3) 0=x3)(h4:P.getD (m+4) 0=x4)(h5:P.getD (m+5) 0=x5)(h6:P.getD (m+6) 0=x6)(h7:P.getD (m+7) 0=x7):
    eight (P.drop m)=(2*(2*(2*(2*(2*(2*(2*x0+x1)+x2)+x3)+x4)+x5)+x6)+x7)::eight (P.drop (m+8)):=by
 have e:P.drop m=x0::x1::x2::x3::x4::x5::x6::x7::P.drop (m+8):=by
  rw[List.drop_eq_getElem_cons (by omega),List.drop_eq_getElem_cons (by omega),List.drop_eq_getElem_cons (by omega),List.drop_eq_getElem_cons (by omega),List.drop_eq_getElem_cons (by omega),List.drop_eq_getElem_cons (by omega),List.drop_eq_getElem_cons (by omega),List.drop_eq_getElem_cons (by omega)];rw[List.getD_eq_getElem?_getD,List.getElem?_eq_getElem (by omega)]at h0 h1 h2 h3 h4 h5 h6 h7;simp only[Option.getD_some]at h0 h1 h2 h3 h4 h5 h6 h7;rw[h0,h1,h2,h3,h4,h5,h6,h7]
 rw[e,eight]
theorem Gs(P:List Int)(h:P.length<8):eight P= []:=by
 unfold eight
 split
 ·simp at h;omega
 ·rfl
theorem OW(zs:List Int)(h4:zs.length % 4≠1):eight (jc zs)=dec zs:=by
 induction zs using dec.induct with
 | case1=>rfl
 | case2 a=>simp at h4
 | case3 a b=>
  have:=eD a;have:=eF a;have:=eD b;have:=eF b;simp only[jc,List.flatMap_cons,List.flatMap_nil,b6,List.append_nil,List.cons_append,List.nil_append,eight,dec]
  congr 1;omega
 | case4 a b c=>
  have:=eD a;have:=eF a;have:=eD b;have:=eF b;have:=eD c;have:=eF c;simp only[jc,List.flatMap_cons,List.flatMap_nil,b6,List.append_nil,List.cons_append,List.nil_append,eight,dec]
  congr 1
  ·omega
  ·congr 1;omega
 | case5 a b c d r ih=>
  have:=eD a;have:=eF a;have:=eD b;have:=eF b;have:=eD c;have:=eF c;have:=eD d;have:=eF d;have ih':=ih (by simp only[List.length_cons]at h4;omega);simp only[jc,List.flatMap_cons,b6,dec]at ih' ⊢;simp only[List.cons_append,List.nil_append,eight];rw[ih']
  congr 1
  ·omega
  ·congr 1
   ·omega
   ·congr 1;omega
theorem OX(zs:List Int)(h4:zs.length % 4≠1):(∀x∈(jc zs).drop (8*(dec zs).length),x=0)↔rW zs=0:=by
 induction zs using dec.induct with
 | case1=>simp[jc,rW]
 | case2 a=>simp at h4
 | case3 a b=>
  have:=eD b;have:=eF b;simp only[jc,List.flatMap_cons,List.flatMap_nil,b6,List.append_nil,List.cons_append,List.nil_append,dec,List.length_cons,List.length_nil,Nat.zero_add,Nat.mul_one,List.drop_succ_cons,List.drop_zero];simp[rW];omega
 | case4 a b c=>
  have:=eD c;have:=eF c;simp only[jc,List.flatMap_cons,List.flatMap_nil,b6,List.append_nil,List.cons_append,List.nil_append,dec,List.length_cons,List.length_nil,Nat.zero_add,Nat.reduceAdd,Nat.reduceMul,List.drop_succ_cons,List.drop_zero];simp[rW];omega
 | case5 a b c d r ih=>
  have ih':=ih (by simp only[List.length_cons]at h4;omega);rw[Km,<-ih'];have e:(jc (a::b::c::d::r)).drop (8*(dec (a::b::c::d::r)).length)=(jc r).drop (8*(dec r).length):=by
   simp only[jc,List.flatMap_cons,b6,dec,List.length_cons,List.cons_append,List.nil_append];rw[show 8*((dec r).length+1+1+1)=8*(dec r).length+24 by omega];simp only[List.drop_succ_cons]
  rw[e]
end Go.Proofs.YtegcgbjjpgjnmaaGreatDoor.Id
namespace Go.Proofs.YtegcgbjjpgjnmaaGreatDoor.Id
open Go.RowKit
theorem Tryz.Nv:(Tryz.prog.info? 3).map (fun i=>(i.zero,i.size,i.bytes))=some (some (.int .i64 0),1,8):=by kernel_rfl
theorem lW(n:Int)(w:World)(h0:0<=n)(h1:n<=63):
    Calls Tryz.prog 146 #[.int .i64 n] w fun e w'=>e=.returned (.int .u8 (Nq n))/\w=w':=by
 have x1:=Vx .i64 n h0 h1;go_enter Tryz.func146,Tryz.ntmps146;go_wp2;go_ret;exact⟨rfl,rfl⟩
theorem oV{w:World}{eH:Array Oper}{rest:List Oper}{o:Oper}{a:Act}{Q:Exit->Act->World->Prop}(RA:o.guard=none)(s x:Operand)(t e:TypeId)(k:IntKind)(bytes:Nat)
    (ho:o.op=.call {callee:=.builtin .append,args:=#[s,x],argTypes:=#[t,t]}) (ht:Tryz.prog.underlying t=some (.slice e))
    (sw:(Tryz.prog.info? e).map (fun i=>(i.zero,i.size,i.bytes))=some (some (.int k 0),1,bytes)) (FY:bytes<=8)
    (base:Nat) (v:Value) (L:List Int) (hs:a.eval s=v) (aT:w.ownsRow base e 1 v L.length (L.map (Value.int k)))
    (ad:Addr) (y:Int) (hx:a.eval x=.slice (some ad) 1 1) (hc:w.cell? ad=some (.int k y)) (cB:L.length<=1000000000) (rH:base<=w.heap.size)
    (h:∀v' w',w'.ownsRow base e 1 v' (L++ [y]).length ((L++ [y]).map (Value.int k))->Below base w w'->wpList Tryz.prog eH Q rest (a.put o.dst v') w'):wpList Tryz.prog eH Q (o::rest) a w:=by
 obtain⟨i0,hi,vZ,yo,zq⟩:=info_parts sw;refine wpList_append_own w RA s x t ho base e i0 (.int k 0) 1 bytes ht hi vZ yo zq rfl (by decide) v L.length (L.map (Value.int k)) hs aT ad 1 1 [.int k y] hx rfl (fun j u hj=> ?_) (fun u hu=> ?_) (by unfold maxLen;omega) ?_ rH ?_
 ·match j,hj with
  | 0,hj=>simp at hj;subst hj;simpa [Addr.add]using hc
 ·simp at hu;subst hu;rfl
 ·have:(L.length+1)*bytes<=(L.length+1)*8:=Nat.mul_le_mul_left _ FY;omega
 ·intro v' w' zW rF _;exact h v' w' (by rw[List.length_append,List.map_append];exact zW) ((Below.refl _ _).grown rF rH (nT aT))
def RdI(w:World)(p:Option Addr)(P:List Int):Prop:=∀j,j<P.length->∃g,p=some ⟨g,0,none⟩/\g<w.heap.size/\w.cell? ⟨g,j,none⟩=some (.int .i64 (P.getD j 0))
theorem VB{w:World}{B:Nat}{v:Value}{L:List Int}(h:w.ownsRow B 3 1 v L.length (L.map (Value.int .i64))):∃q cq,v=.slice q L.length cq/\RdI w q L:=by
 rcases h.2 with⟨rfl,hn⟩| ⟨g,cap,cur,rfl,hg,xn,h1,h2,h3,h4⟩
 ·obtain rfl:L= []:=List.eq_nil_of_length_eq_zero hn;exact⟨none,0,rfl,fun j hj=>by simp at hj⟩
 ·refine⟨_,cap,rfl,fun j hj=>⟨g,rfl,(Array.getElem?_eq_some_iff.1 xn).1, ?_⟩⟩;rw[h.cellAt j (by omega),List.getElem?_map,List.getElem?_eq_getElem hj,List.getD_eq_getElem?_getD,List.getElem?_eq_getElem hj]
  rfl
theorem RdI.at{w w':World}{q:Option Addr}{P:List Int}(h:RdI w q P)(hb:Below w.heap.size w w')(m:Nat)(hm:m<P.length):∃g,q=some ⟨g,0,none⟩/\∀j x,m+j<P.length->P.getD (m+j) 0=x->w'.cell? ⟨g,m+j,none⟩=some (.int .i64 x):=by
 obtain⟨g,ha,_,_⟩:=h m hm;refine⟨g,ha,fun j x hj hx=> ?_⟩;obtain⟨g',Nw,hB,hc⟩:=h (m+j) hj;obtain rfl:g=g':=by rw[ha]at Nw;cases Nw;rfl
 rw[hb.cell (by exact hB),hc,hx]
theorem RH(c:Int)(h:∀j:Nat,j<64->Nq j≠c):num c= -1:=by
 have h1:=Yr c;have h2:=Kc c
 by_cases hn:0<=num c
 ·have:=h (num c).toNat (by omega);rw[show((num c).toNat:Int)=num c by omega]at this;exact absurd (Vq c hn) this
 ·omega
theorem uJ(c:Int)(w:World):
    Calls Tryz.prog 120 #[.int .u8 c] w fun e w'=>e=.returned (.int .i64 (num c))/\w=w':=by
 go_enter Tryz.func120,Tryz.ntmps120;go_wp2
 go_loop [3] (fun i=>∃k:Nat,k<=64/\i=.int .i64 k/\∀j:Nat,j<k->Nq j≠c) (fun i=>64 - (intOf i).toNat)
 case atStart=>exact⟨0,by omega,rfl,fun j hj=>by omega⟩
 case round=>
  obtain⟨k,hk,rfl,eO⟩:=hrel;have HA:Hid (∀j:Nat,j<k->Nq j≠c):=eO;clear eO
  by_cases bJ:k<64
  ·by_cases hc:Nq k=c
   ·have HN:Hid (num c=k):=by
      have:num c=k:=by rw[<-hc];exact Vr k (by omega) (by omega)
      exact this
    have BV:(Nq k==c)=true:=by simp[hc]
    clear hc;go_wp2_with(go_at_call 146;refine(lW _ _ (by omega) (by omega)).mono ?_;rintro e w' ⟨rfl,rfl⟩);go_ret;exact⟨mE HN.out.symm,rfl⟩
   ·have BV:(Nq k==c)=false:=by simp[hc]
    have HC:Hid (Nq k≠c):=hc;clear hc;go_wp2_with(go_at_call 146;refine(lW _ _ (by omega) (by omega)).mono ?_;rintro e w' ⟨rfl,rfl⟩)
    go_round
    case rel=>exact⟨k+1,by omega,by go_num,fun j hj=>by
                          by_cases e:j=k
                          ·rw[e];exact HC.out
                          ·exact HA.out j (by omega)⟩
    case measure=>simp[intOf];omega
  ·obtain rfl:k=64:=by omega
   have HN:Hid (num c= -1):=RH c HA.out;go_wp2;go_ret;exact⟨mE HN.out.symm,rfl⟩
theorem OY(c:Int):(isLet c=true/\0<=num c/\bV c=num c)\/ (isLet c=false/\num c<0):=by
 unfold isLet bV
 by_cases h:0<=num c
 ·left;simp[h]
 ·right;simp[h];omega
theorem uK(s:ByteArray)(w:World)(hs:s.size<=5000):
    Calls Tryz.prog 93 #[.string s] w fun e w'=>((pF (ints s)).1≠0/\e=.returned (.tuple #[.slice none 0 0,.int .i64 (pF (ints s)).1,.int .i64 (pF (ints s)).2])∨
     (pF (ints s)).1=0/\∃q cq,e=.returned (.tuple #[.slice q (dec (ints s)).length cq,.int .i64 0,.int .i64 0])/\Rd w'.heap.size w' q cq (dec (ints s)))/\Below w.heap.size w w':=by
 have Kr:Hid ((ints s).length=s.size):=ax s;go_enter Tryz.func93,Tryz.ntmps93;go_wp2
 go_loopw [5,6] (fun v i wr=>∃k:Nat,k<=s.size/\i=.int .i64 k/\(∀j,j<k->isLet ((ints s).getD j 0)=true)/\wr.ownsRow w.heap.size 3 1 v (jc ((ints s).take k)).length ((jc ((ints s).take k)).map (Value.int .i64))/\Below w.heap.size w wr)
  (fun _ i _=>s.size - (intOf i).toNat)
 case atStart=>exact⟨0,Nat.zero_le _,rfl,fun j hj=>by omega,World.ownsRow_nil _ _ _ _,Below.refl _ _⟩
 case round=>
  obtain⟨k,hk,rfl,eO,aT,hb⟩:=hrel;have HA:Hid (∀j,j<k->isLet ((ints s).getD j 0)=true):=eO;clear eO
  by_cases bJ:k<s.size
  ·have HG:Hid ((ints s).getD k 0=(s[k].toNat:Int)):=dH s k bJ;obtain⟨z,hz⟩:∃z,num (s[k].toNat:Int)=z:=⟨_,rfl⟩;have zfM:z<=63:=by rw[<-hz];exact Kc _
   rcases OY (s[k].toNat:Int)with⟨hl,hn,h0⟩| ⟨hl,hn⟩
   ·have vZ:0<=z:=by rw[<-hz];exact hn
    have HL:Hid (isLet (s[k].toNat:Int)=true):=hl;have HN0:Hid (bV (s[k].toNat:Int)=z):=by
     have:bV (s[k].toNat:Int)=z:=h0.trans hz;exact this
    obtain⟨D,hD⟩:∃D,D=jc ((ints s).take k):=⟨_,rfl⟩;rw[<-hD]at aT;have HD:Hid (D=jc ((ints s).take k)):=hD;have hDl:D.length<=6*k:=by rw[hD,v_];simp;omega
    have HDL:Hid (D.length<=6*k):=hDl;clear hl hn h0 hD hDl;go_wp2_with(go_at_call 120;refine(uJ _ _).mono ?_;rintro e w' ⟨rfl,rfl⟩)
    go_loopw [5,8] (fun v i wx=>∃t:Nat,t<=6/\i=.int .i64 ((t:Int) - 1)/\wx.ownsRow w.heap.size 3 1 v (D++(b6 z).take (6 - t)).length ((D++(b6 z).take (6 - t)).map (Value.int .i64))/\Below w.heap.size w wx)
     (fun _ i _=>(intOf i+1).toNat)
    case atStart=>exact⟨6,Nat.le_refl _,rfl,by simpa using aT,hb⟩
    case round=>
     clear aT hb;obtain⟨t,ht,rfl,aT,hb⟩:=hrel
     by_cases htp:0<t
     ·obtain⟨u,rfl⟩:∃u,t=u+1:=⟨t - 1,by omega⟩;have zfN:=Vz z u vZ (by omega);have rJ:=RF z u;have HT:Hid ((b6 z).take (6 - u)=(b6 z).take (6 - (u+1))++ [pV z u]):=by
       have:=VA z (6 - (u+1)) (by omega);rw[show 6 - (u+1)+1=6 - u by omega,show 5 - (6 - (u+1))=u by omega]at this;exact this
      go_wp2_with(at_builtin;refine oV rfl (.tmp 31) (.tmp 36) 128 3 .i64 8 rfl Tryz.underlying128 Tryz.Nv (by decide) w.heap.size _ (D++(b6 z).take (6 - (u+1))) rfl ?a0 _ (pV z u) rfl ?a1 ?a2 ?a3 ?_)
      case a0=>exact aT.alloc _
      case a1=>exact aR (cur:= [_]) (heap_alloc_new _ _) 0 _ rfl
      case a2=>have:=HDL.out;rw[List.length_append,List.length_take];omega
      case a3=>have:=hb.size;simp;omega
      intro v' w' zW zk;have hB':Below w.heap.size w w':=(hb.alloc hb.size _).trans zk;clear aT hb zk;go_wp2;go_roundw
      case rel=>exact⟨u,by omega,by go_num,by rw[HT.out,<-List.append_assoc];simpa using zW,hB'⟩
      case measure=>simp[intOf]
     ·obtain rfl:t=0:=by omega
      go_wp2;go_roundw
      case rel=>
       refine⟨k+1,by omega,by go_num, ?_, ?_,hb⟩
       ·intro j hj
        by_cases e:j=k
        ·rw[e,HG.out];exact HL.out
        ·exact HA.out j (by omega)
       ·have e:jc ((ints s).take (k+1))=D++b6 z:=by rw[gQ (ints s) k (by rw[Kr.out];exact bJ),Ko,HG.out,HN0.out,HD.out]
        rw[e];have e6:(b6 z).take (6 - 0)=b6 z:=rfl;rw[e6]at aT;exact aT
      case measure=>simp[intOf];omega
   ·have vZ:z<0:=by rw[<-hz];exact hn
    have mJ:=Nr (ints s) k (by rw[Kr.out];exact bJ) HA.out (by rw[HG.out];exact hl);have HF:Hid (pF (ints s)=(20,(k:Int))):=by
     have:pF (ints s)=(20,(k:Int)):=by unfold pF;rw[mJ,Kr.out,if_pos bJ]
     exact this
    clear hl hn mJ;go_wp2_with(go_at_call 120;refine(uJ _ _).mono ?_;rintro e w' ⟨rfl,rfl⟩)
    go_ret3
    refine⟨.inl ⟨by rw[HF.out];simp, ?_⟩,hb⟩;rw[HF.out];exact tQ rfl rfl
  ·obtain rfl:k=s.size:=by omega
   have mJ:Hid (zO (ints s)=s.size):=(Gc (ints s) (by rw[Kr.out];exact HA.out)).trans Kr.out
   rename World=>wb
   have XD:(ints s).take s.size=ints s:=List.take_of_length_le (by rw[Kr.out];exact Nat.le_refl _);rw[XD]at aT;obtain⟨L,hL⟩:∃L,L=jc (ints s):=⟨_,rfl⟩;rw[<-hL]at aT;have HL:Hid (L=jc (ints s)):=hL;have hLl:L.length=6*s.size:=by rw[hL,v_,Kr.out]
   have BU:Hid (L.length=6*s.size):=hLl;have zfO:L.length<=30000:=by omega
   clear XD hL hLl
   by_cases h1:s.size % 4=1
   ·have h1':(s.size:Int) % 4=1:=by omega
    have hf:pF (ints s)=(22,(s.size:Int)):=by unfold pF;rw[mJ.out,Kr.out,if_neg (by omega),if_pos h1]
    have HF:Hid (pF (ints s)=(22,(s.size:Int))):=hf;clear hf;go_wp2
    go_ret3
    refine⟨.inl ⟨by rw[HF.out];simp, ?_⟩,hb⟩;rw[HF.out];exact tQ rfl rfl
   ·have h1b:((s.size:Int) % 4==1)=false:=by simp;omega
    have HED:Hid (eight L=dec (ints s)):=by
     have:=OW (ints s) (by rw[Kr.out];exact h1);rw[<-HL.out]at this;exact this
    have Cn:Hid ((∀x∈L.drop (8*(dec (ints s)).length),x=0)↔rW (ints s)=0):=by
     have:=OX (ints s) (by rw[Kr.out];exact h1);rw[<-HL.out]at this;exact this
    have hLb:∀x∈L,0<=x/\x<=1:=by rw[HL.out];exact RG (ints s)
    have Kt:Hid (∀x∈L,0<=x/\x<=1):=hLb;obtain⟨q,cq,rfl,zaK⟩:=VB aT;clear hLb aT;go_wp2
    go_loopw [9,10] (fun v i wx=>∃(m:Nat) (done:List Int),m<=L.length/\m=8*done.length/\i=.int .i64 m/\eight L=done++eight (L.drop m)∧
        wx.ownsRow wb.heap.size 5 1 v done.length (done.map (Value.int .u8))/\Below wb.heap.size wb wx)
     (fun _ i _=>L.length - (intOf i).toNat)
    case atStart=>exact⟨0, [],Nat.zero_le _,rfl,rfl,rfl,World.ownsRow_nil _ _ _ _,Below.refl _ _⟩
    case round=>
     obtain⟨m,done,hm,hm8,rfl,zaL,aT,vO⟩:=hrel;have HSX:Hid (eight L=done++eight (L.drop m)):=zaL;have HM8:Hid (m=8*done.length):=hm8;have hdl:done.length<=30000:=by omega
     clear zaL hm8
     by_cases bJ:m+8<=L.length
     ·obtain⟨g,rfl,gV⟩:=zaK.at vO m (by omega);obtain⟨x0,lX⟩:∃x,L.getD m 0=x:=⟨_,rfl⟩;obtain⟨x1,xg⟩:∃x,L.getD (m+1) 0=x:=⟨_,rfl⟩;obtain⟨x2,zX⟩:∃x,L.getD (m+2) 0=x:=⟨_,rfl⟩;obtain⟨x3,hx3⟩:∃x,L.getD (m+3) 0=x:=⟨_,rfl⟩;obtain⟨x4,ji⟩:∃x,L.getD (m+4) 0=x:=⟨_,rfl⟩;obtain⟨x5,JS⟩:∃x,L.getD (m+5) 0=x:=⟨_,rfl⟩;obtain⟨x6,hx6⟩:∃x,L.getD (m+6) 0=x:=⟨_,rfl⟩;obtain⟨x7,hx7⟩:∃x,L.getD (m+7) 0=x:=⟨_,rfl⟩;have b0:0<=x0/\x0<=1:=lX ▸ mM Kt.out m;have b1:0<=x1/\x1<=1:=xg ▸ mM Kt.out (m+1);have b2:0<=x2/\x2<=1:=zX ▸ mM Kt.out (m+2);have b3:0<=x3/\x3<=1:=hx3 ▸ mM Kt.out (m+3);have b4:0<=x4/\x4<=1:=ji ▸ mM Kt.out (m+4);have b5:0<=x5/\x5<=1:=JS ▸ mM Kt.out (m+5);have b6:0<=x6/\x6<=1:=hx6 ▸ mM Kt.out (m+6);have b7:0<=x7/\x7<=1:=hx7 ▸ mM Kt.out (m+7);have c0:=gV 0 x0 (by omega) lX;rw[Nat.add_zero]at c0;have c1:=gV 1 x1 (by omega) xg;have c2:=gV 2 x2 (by omega) zX;have c3:=gV 3 x3 (by omega) hx3;have c4:=gV 4 x4 (by omega) ji;have c5:=gV 5 x5 (by omega) JS;have c6:=gV 6 x6 (by omega) hx6;have c7:=gV 7 x7 (by omega) hx7;have yX:Hid (eight (L.drop m)=(2*(2*(2*(2*(2*(2*(2*x0+x1)+x2)+x3)+x4)+x5)+x6)+x7)::eight (L.drop (m+8))):=Kq L m x0 x1 x2 x3 x4 x5 x6 x7 bJ lX xg zX hx3 ji JS hx6 hx7;clear lX xg zX hx3 ji JS hx6 hx7 gV;go_wp2;refine wp_loop_rounds 9 ?_
      iterate 8 (rw[rounds_succ];go_wp2)
      rw[rounds_succ];go_wp2_with(at_builtin;refine oV rfl (.tmp 64) (.tmp 67) 40 5 .u8 1 rfl Tryz.underlying40 Tryz.Gn (by decide) wb.heap.size _ done rfl ?a0 _ (2*(2*(2*(2*(2*(2*(2*x0+x1)+x2)+x3)+x4)+x5)+x6)+x7) rfl ?a1 ?a2 ?a3 ?_)
      case a0=>exact aT.alloc _
      case a1=>exact aR (cur:= [_]) (heap_alloc_new _ _) 0 _ rfl
      case a2=>omega
      case a3=>have:=vO.size;simp;omega
      intro v' w' zW zk;have hB':Below wb.heap.size wb w':=(vO.alloc vO.size _).trans zk;clear aT vO zk c0 c1 c2 c3 c4 c5 c6 c7;go_wp2;go_roundw
      case rel=>
       have R:∃(m':Nat) (Ny:List Int),m'<=L.length/\m'=8*Ny.length/\Value.int .i64 ((m:Int)+8)=.int .i64 m'/\eight L=Ny++eight (L.drop m')∧
           w'.ownsRow wb.heap.size 5 1 v' Ny.length (Ny.map (Value.int .u8))/\Below wb.heap.size wb w':=by
        refine⟨m+8,done++ [2*(2*(2*(2*(2*(2*(2*x0+x1)+x2)+x3)+x4)+x5)+x6)+x7],by omega,by have:=HM8.out;simp;omega,by go_num, ?_,by simpa using zW,hB'⟩;rw[HSX.out,yX.out];simp
       first| exact R| ((repeat apply Exists.intro);exact⟨R,rfl⟩)
      case measure=>simp[intOf];omega
     ·have hdn:done=dec (ints s):=by
        have:=HSX.out;rw[HED.out,Gs (L.drop m) (by simp;omega)]at this;simpa using this.symm
      have HDN:Hid (done=dec (ints s)):=hdn;have hm8:=HM8.out;obtain⟨q2,cq2,rfl,xy⟩:=Kn aT (by rw[hdn];exact Yt _);have h8:8*(done.length:Int)=m:=by omega
      clear hdn aT hm8;have hdb:decide ((m:Int)+8<=(L.length:Int))=false:=by simp;omega
      go_wp2
      go_loop [13] (fun i=>∃k:Nat,m<=k/\k<=L.length/\i=.int .i64 k/\∀j,m<=j->j<k->L.getD j 0=0) (fun i=>L.length - (intOf i).toNat)
      case atStart=>exact⟨m,Nat.le_refl _,hm,rfl,fun j h1 h2=>by omega⟩
      case round=>
       obtain⟨k,sD,gM,rfl,eO⟩:=hrel;have HZ:Hid (∀j,m<=j->j<k->L.getD j 0=0):=eO;have YA:Hid (8*(dec (ints s)).length=m):=by
        have:=HM8.out;rw[HDN.out]at this;exact this.symm
       clear eO
       by_cases zY:k<L.length
       ·obtain⟨g,rfl,gV⟩:=zaK.at vO k zY;obtain⟨x,hx⟩:∃x,L.getD k 0=x:=⟨_,rfl⟩;have c0:=gV 0 x (by omega) hx;rw[Nat.add_zero]at c0;have HX:Hid (L.getD k 0=x):=hx;clear hx gV
        by_cases lX:x=0
        ·subst lX;go_wp2
         go_round
         case rel=>exact⟨k+1,by omega,by omega,by go_num,fun j h1 h2=>by
                               by_cases e:j=k
                               ·rw[e];exact HX.out
                               ·exact HZ.out j h1 (by omega)⟩
         case measure=>simp[intOf];omega
        ·have hxb:(x !=0)=true:=by simp[lX]
         have hf:pF (ints s)=(21,(s.size:Int) - 1):=by
          have Rx:rW (ints s)≠0:=by
           intro h;have:=Cn.out.2 h (L.getD k 0) (by
            rw[YA.out,List.getD_eq_getElem?_getD,List.getElem?_eq_getElem zY];simp only[Option.getD_some];have e:L[k]=(L.drop m)[k - m]'(by simp;omega):=by simp[Nat.add_sub_cancel' sD]
            rw[e];exact List.getElem_mem _)
           rw[HX.out]at this;exact lX this
          unfold pF;rw[mJ.out,Kr.out,if_neg (by omega),if_neg h1,if_pos Rx]
         have HF:Hid (pF (ints s)=(21,(s.size:Int) - 1)):=hf;clear hf lX;go_wp2
         go_ret3
         refine⟨.inl ⟨by rw[HF.out];simp, ?_⟩,hb.trans (vO.mono hb.size)⟩;rw[HF.out];exact tQ rfl rfl
       ·have hf:pF (ints s)=(0,0):=by
          have Rx:rW (ints s)=0:=by
           refine Cn.out.1 fun x hx=> ?_;rw[YA.out]at hx;obtain⟨i,hi,rfl⟩:=List.mem_iff_getElem.1 hx;have YB:m+i<L.length:=by simp at hi;omega
           have:=HZ.out (m+i) (by omega) (by omega);rw[List.getD_eq_getElem?_getD,List.getElem?_eq_getElem YB]at this;simpa using this
          unfold pF;rw[mJ.out,Kr.out,if_neg (by omega),if_neg h1,if_neg (by simp[Rx])]
        have HF:Hid (pF (ints s)=(0,0)):=hf;clear hf;go_wp2
        go_ret3
        refine⟨.inr ⟨by rw[HF.out],q2,cq2, ?_, ?_⟩,hb.trans (vO.mono hb.size)⟩
        ·rw[<-HDN.out];rfl
        ·rw[<-HDN.out];exact xy
theorem Co(s:ByteArray)(w:World)(hs:s.size<=5000)(hf:(pF (ints s)).1≠0):
    Calls Tryz.prog 93 #[.string s] w fun e w'=>e=.returned (.tuple #[.slice none 0 0,.int .i64 (pF (ints s)).1,.int .i64 (pF (ints s)).2])/\Below w.heap.size w w':=by
 refine(uK s w hs).mono fun e w' ⟨h,hb⟩=> ?_
 rcases h with⟨_,h⟩| ⟨h,_⟩
 ·exact⟨h,hb⟩
 ·exact absurd h hf
theorem zZ(s:ByteArray)(w:World)(hs:s.size<=5000)(hf:(pF (ints s)).1=0):
    Calls Tryz.prog 93 #[.string s] w fun e w'=>∃q cq,e=.returned (.tuple #[.slice q (dec (ints s)).length cq,.int .i64 0,.int .i64 0])/\Rd w'.heap.size w' q cq (dec (ints s))/\Below w.heap.size w w':=by
 refine(uK s w hs).mono fun e w' ⟨h,hb⟩=> ?_
 rcases h with⟨h,_⟩| ⟨_,q,cq,h1,h2⟩
 ·exact absurd hf h
 ·exact⟨q,cq,h1,h2,hb⟩
end Go.Proofs.YtegcgbjjpgjnmaaGreatDoor.Id

/- A part. -/
import Derived.Test.YtegcgbjjpgjnmaaGreatDoorE26
import Derived.Lib.ConvBytes
import Derived.Lib.FrozenHead
set_option maxRecDepth 100000
set_option maxHeartbeats 16000000
namespace Go.Proofs.YtegcgbjjpgjnmaaGreatDoor
open Go.RowKit
theorem Xj(c:Int):(aI c).length<=6:=by
 unfold aI
 (repeat' split);all_goals simp
theorem BN:∀l:List Int,(l.flatMap aI).length<=6*l.length
 | []=>Nat.le_refl _
 | c::r=>by
  rw[List.flatMap_cons,List.length_append,List.length_cons];have h1:=Xj c;have h2:=BN r;omega
theorem take_one{l:List Int}{i:Nat}(h:i<l.length):l.take (i+1)=l.take i++ [ag l i]:=by
 rw[List.take_add_one];unfold ag;rw[List.getD_eq_getElem?_getD,List.getElem?_eq_getElem h]
 rfl
theorem UA{l:List Int}{i:Nat}(h:i<l.length):strOfNums (34::(l.take (i+1)).flatMap aI)=strOfNums (34::(l.take i).flatMap aI)++strOfNums (aI (ag l i)):=by
 rw[take_one h,List.flatMap_append,fG];simp
theorem byte_at(s:ByteArray)(i:Nat)(h:i<s.size):ag (ints s) i=(s[i].toNat:Int):=dH s i h
theorem zax(s:ByteArray)(i:Nat)(h:i<s.size):s.extract i (i+1)=⟨#[s[i]]⟩:=by
 apply ByteArray.ext
 rw[ByteArray.data_extract]
 apply Array.ext
 ·have:s.data.size=s.size:=rfl;simp;omega
 ·intro j h1 h2;have h2':j<1:=by simpa using h2
  obtain rfl:j=0:=by omega
  simp
  rfl
theorem zeH(s:ByteArray)(i:Nat)(h:i<s.size){c:Nat}(hc:s[i].toNat=c):s.extract i (i+1)=strOfNums [(c:Int)]:=by
 rw[zax s i h,<-hc];simp[strOfNums]
theorem Xk{c:Nat}(h:32<=c)(JX:c≠34)(Cq:c≠92):aI (c:Int)= [(c:Int)]:=by
 unfold aI;rw[if_neg (by omega),if_neg (by omega),if_neg (by omega),if_neg (by omega),if_neg (by omega),if_neg (by omega),if_neg (by omega),if_neg (by omega)]
theorem JC(a b c:ByteArray):a++b++c=a++(b++c):=ByteArray.append_assoc
theorem dW{T a b c x:ByteArray}(h:a++b++c=x):T++a++b++c=T++x:=by rw[<-h,JC,JC,JC]
theorem Ez(s:ByteArray)(w:World)(hs:s.size<=100000000000):Calls Tryz.prog 95 #[.string s] w fun x w'=>x=.returned (.string (strOfNums (quote (ints s))))/\aj (fun _=>False) w w':=by
 go_enter Tryz.func95,Tryz.ntmps95;go_wp2
 go_loopw [3,4] (fun t v wr=>∃i:Nat,v=.int .i64 i/\i<=s.size/\t=.string (strOfNums (34::((ints s).take i).flatMap aI))/\aj (fun _=>False) w wr) (fun _ v _=>s.size - (intOf v).toNat)
 case atStart=>exact⟨0,rfl,Nat.zero_le _,rfl,aj.refl _ _⟩
 case round=>
  obtain⟨i,rfl,hi,rfl,hk⟩:=hrel;have hz:(strOfNums (34::((ints s).take i).flatMap aI)).size<=600000000001:=by
   rw[fF,List.length_cons];have:=BN ((ints s).take i);rw[List.length_take]at this;omega
  by_cases bJ:i<s.size
  ·have HSt:=UA (l:=ints s) (i:=i) (by rw[ax];exact bJ);obtain⟨c,hc⟩:∃c:Nat,s[i].toNat=c:=⟨_,rfl⟩;have EK:c<256:=by rw[<-hc];exact s[i].toNat_lt
   rw[byte_at s i bJ,hc]at HSt;have HE:Hid (s.extract i (i+1)=strOfNums [(c:Int)]):=zeH s i bJ hc;obtain⟨T,hT⟩:∃T,strOfNums (34::((ints s).take i).flatMap aI)=T:=⟨_,rfl⟩;rw[hT]at hz HSt ⊢;have HS:Hid (strOfNums (34::((ints s).take (i+1)).flatMap aI)=T++strOfNums (aI (c:Int))):=HSt;clear hT HSt
   by_cases zay:32<=c/\c≠34/\c≠92
   ·have g1:((c:Int)==34)=false:=by simp;omega
    have g2:((c:Int)==92)=false:=by simp;omega
    have g3:((c:Int)==8)=false:=by simp;omega
    have g4:((c:Int)==9)=false:=by simp;omega
    have g5:((c:Int)==10)=false:=by simp;omega
    have g6:((c:Int)==12)=false:=by simp;omega
    have g7:((c:Int)==13)=false:=by simp;omega
    have g8:¬(c:Int)<32:=by omega
    go_wp2;go_roundw
    case rel=>exact⟨i+1,by go_num,bJ,by rw[HS.out,HE.out,Xk zay.1 zay.2.1 zay.2.2],hk⟩
    case measure=>simp[intOf];omega
   ·have Gr:c=0\/ c=1\/ c=2\/ c=3\/ c=4\/ c=5\/ c=6\/ c=7\/ c=8\/ c=9\/ c=10\/ c=11\/ c=12\/ c=13\/ c=14\/ c=15\/ c=16\/ c=17\/ c=18\/ c=19\/ c=20\/ c=21\/ c=22\/ c=23\/ c=24\/ c=25\/ c=26\/ c=27\/ c=28\/ c=29\/ c=30\/ c=31\/ c=34\/ c=92:=by omega
    rcases Gr with rfl| rfl| rfl| rfl| rfl| rfl| rfl| rfl| rfl| rfl| rfl| rfl| rfl| rfl| rfl| rfl| rfl| rfl| rfl| rfl| rfl| rfl| rfl| rfl| rfl| rfl| rfl| rfl| rfl| rfl| rfl| rfl| rfl| rfl
    ·go_wp2;go_quiet (fail);go_wp2;go_roundw
     case rel=>exact⟨i+1,by go_num,bJ,by rw[HS.out];exact congrArg Value.string (dW (by kernel_rfl)),hk.drewN _⟩
     case measure=>simp[intOf];omega
    ·go_wp2;go_quiet (fail);go_wp2;go_roundw
     case rel=>exact⟨i+1,by go_num,bJ,by rw[HS.out];exact congrArg Value.string (dW (by kernel_rfl)),hk.drewN _⟩
     case measure=>simp[intOf];omega
    ·go_wp2;go_quiet (fail);go_wp2;go_roundw
     case rel=>exact⟨i+1,by go_num,bJ,by rw[HS.out];exact congrArg Value.string (dW (by kernel_rfl)),hk.drewN _⟩
     case measure=>simp[intOf];omega
    ·go_wp2;go_quiet (fail);go_wp2;go_roundw
     case rel=>exact⟨i+1,by go_num,bJ,by rw[HS.out];exact congrArg Value.string (dW (by kernel_rfl)),hk.drewN _⟩
     case measure=>simp[intOf];omega
    ·go_wp2;go_quiet (fail);go_wp2;go_roundw
     case rel=>exact⟨i+1,by go_num,bJ,by rw[HS.out];exact congrArg Value.string (dW (by kernel_rfl)),hk.drewN _⟩
     case measure=>simp[intOf];omega
    ·go_wp2;go_quiet (fail);go_wp2;go_roundw
     case rel=>exact⟨i+1,by go_num,bJ,by rw[HS.out];exact congrArg Value.string (dW (by kernel_rfl)),hk.drewN _⟩
     case measure=>simp[intOf];omega
    ·go_wp2;go_quiet (fail);go_wp2;go_roundw
     case rel=>exact⟨i+1,by go_num,bJ,by rw[HS.out];exact congrArg Value.string (dW (by kernel_rfl)),hk.drewN _⟩
     case measure=>simp[intOf];omega
    ·go_wp2;go_quiet (fail);go_wp2;go_roundw
     case rel=>exact⟨i+1,by go_num,bJ,by rw[HS.out];exact congrArg Value.string (dW (by kernel_rfl)),hk.drewN _⟩
     case measure=>simp[intOf];omega
    ·go_wp2;go_roundw
     case rel=>exact⟨i+1,by go_num,bJ,by rw[HS.out];rfl,hk⟩
     case measure=>simp[intOf];omega
    ·go_wp2;go_roundw
     case rel=>exact⟨i+1,by go_num,bJ,by rw[HS.out];rfl,hk⟩
     case measure=>simp[intOf];omega
    ·go_wp2;go_roundw
     case rel=>exact⟨i+1,by go_num,bJ,by rw[HS.out];rfl,hk⟩
     case measure=>simp[intOf];omega
    ·go_wp2;go_quiet (fail);go_wp2;go_roundw
     case rel=>exact⟨i+1,by go_num,bJ,by rw[HS.out];exact congrArg Value.string (dW (by kernel_rfl)),hk.drewN _⟩
     case measure=>simp[intOf];omega
    ·go_wp2;go_roundw
     case rel=>exact⟨i+1,by go_num,bJ,by rw[HS.out];rfl,hk⟩
     case measure=>simp[intOf];omega
    ·go_wp2;go_roundw
     case rel=>exact⟨i+1,by go_num,bJ,by rw[HS.out];rfl,hk⟩
     case measure=>simp[intOf];omega
    ·go_wp2;go_quiet (fail);go_wp2;go_roundw
     case rel=>exact⟨i+1,by go_num,bJ,by rw[HS.out];exact congrArg Value.string (dW (by kernel_rfl)),hk.drewN _⟩
     case measure=>simp[intOf];omega
    ·go_wp2;go_quiet (fail);go_wp2;go_roundw
     case rel=>exact⟨i+1,by go_num,bJ,by rw[HS.out];exact congrArg Value.string (dW (by kernel_rfl)),hk.drewN _⟩
     case measure=>simp[intOf];omega
    ·go_wp2;go_quiet (fail);go_wp2;go_roundw
     case rel=>exact⟨i+1,by go_num,bJ,by rw[HS.out];exact congrArg Value.string (dW (by kernel_rfl)),hk.drewN _⟩
     case measure=>simp[intOf];omega
    ·go_wp2;go_quiet (fail);go_wp2;go_roundw
     case rel=>exact⟨i+1,by go_num,bJ,by rw[HS.out];exact congrArg Value.string (dW (by kernel_rfl)),hk.drewN _⟩
     case measure=>simp[intOf];omega
    ·go_wp2;go_quiet (fail);go_wp2;go_roundw
     case rel=>exact⟨i+1,by go_num,bJ,by rw[HS.out];exact congrArg Value.string (dW (by kernel_rfl)),hk.drewN _⟩
     case measure=>simp[intOf];omega
    ·go_wp2;go_quiet (fail);go_wp2;go_roundw
     case rel=>exact⟨i+1,by go_num,bJ,by rw[HS.out];exact congrArg Value.string (dW (by kernel_rfl)),hk.drewN _⟩
     case measure=>simp[intOf];omega
    ·go_wp2;go_quiet (fail);go_wp2;go_roundw
     case rel=>exact⟨i+1,by go_num,bJ,by rw[HS.out];exact congrArg Value.string (dW (by kernel_rfl)),hk.drewN _⟩
     case measure=>simp[intOf];omega
    ·go_wp2;go_quiet (fail);go_wp2;go_roundw
     case rel=>exact⟨i+1,by go_num,bJ,by rw[HS.out];exact congrArg Value.string (dW (by kernel_rfl)),hk.drewN _⟩
     case measure=>simp[intOf];omega
    ·go_wp2;go_quiet (fail);go_wp2;go_roundw
     case rel=>exact⟨i+1,by go_num,bJ,by rw[HS.out];exact congrArg Value.string (dW (by kernel_rfl)),hk.drewN _⟩
     case measure=>simp[intOf];omega
    ·go_wp2;go_quiet (fail);go_wp2;go_roundw
     case rel=>exact⟨i+1,by go_num,bJ,by rw[HS.out];exact congrArg Value.string (dW (by kernel_rfl)),hk.drewN _⟩
     case measure=>simp[intOf];omega
    ·go_wp2;go_quiet (fail);go_wp2;go_roundw
     case rel=>exact⟨i+1,by go_num,bJ,by rw[HS.out];exact congrArg Value.string (dW (by kernel_rfl)),hk.drewN _⟩
     case measure=>simp[intOf];omega
    ·go_wp2;go_quiet (fail);go_wp2;go_roundw
     case rel=>exact⟨i+1,by go_num,bJ,by rw[HS.out];exact congrArg Value.string (dW (by kernel_rfl)),hk.drewN _⟩
     case measure=>simp[intOf];omega
    ·go_wp2;go_quiet (fail);go_wp2;go_roundw
     case rel=>exact⟨i+1,by go_num,bJ,by rw[HS.out];exact congrArg Value.string (dW (by kernel_rfl)),hk.drewN _⟩
     case measure=>simp[intOf];omega
    ·go_wp2;go_quiet (fail);go_wp2;go_roundw
     case rel=>exact⟨i+1,by go_num,bJ,by rw[HS.out];exact congrArg Value.string (dW (by kernel_rfl)),hk.drewN _⟩
     case measure=>simp[intOf];omega
    ·go_wp2;go_quiet (fail);go_wp2;go_roundw
     case rel=>exact⟨i+1,by go_num,bJ,by rw[HS.out];exact congrArg Value.string (dW (by kernel_rfl)),hk.drewN _⟩
     case measure=>simp[intOf];omega
    ·go_wp2;go_quiet (fail);go_wp2;go_roundw
     case rel=>exact⟨i+1,by go_num,bJ,by rw[HS.out];exact congrArg Value.string (dW (by kernel_rfl)),hk.drewN _⟩
     case measure=>simp[intOf];omega
    ·go_wp2;go_quiet (fail);go_wp2;go_roundw
     case rel=>exact⟨i+1,by go_num,bJ,by rw[HS.out];exact congrArg Value.string (dW (by kernel_rfl)),hk.drewN _⟩
     case measure=>simp[intOf];omega
    ·go_wp2;go_quiet (fail);go_wp2;go_roundw
     case rel=>exact⟨i+1,by go_num,bJ,by rw[HS.out];exact congrArg Value.string (dW (by kernel_rfl)),hk.drewN _⟩
     case measure=>simp[intOf];omega
    ·go_wp2;go_roundw
     case rel=>exact⟨i+1,by go_num,bJ,by rw[HS.out,HE.out,JC];rfl,hk⟩
     case measure=>simp[intOf];omega
    ·go_wp2;go_roundw
     case rel=>exact⟨i+1,by go_num,bJ,by rw[HS.out,HE.out,JC];rfl,hk⟩
     case measure=>simp[intOf];omega
  ·obtain rfl:i=s.size:=by omega
   have HQ:Hid (strOfNums (quote (ints s))=strOfNums (34::((ints s).take s.size).flatMap aI)++⟨#[34]⟩):=by
    show _=_
    rw[List.take_of_length_le (by rw[ax];exact Nat.le_refl _)];have e:(⟨#[34]⟩:ByteArray)=strOfNums [34]:=rfl;rw[e,fG]
    rfl
   obtain⟨T,hT⟩:∃T,strOfNums (34::((ints s).take s.size).flatMap aI)=T:=⟨_,rfl⟩;rw[hT]at hz HQ ⊢;clear hT;go_wp2;go_ret;exact⟨by rw[HQ.out];rfl,hk⟩
def BO(m:Nat):List Int:=if m=0 then []else rY m
theorem JD(m:Nat):rY m=BO (m / 10)++ [48+((m % 10:Nat):Int)]:=by
 unfold BO
 by_cases h:m<10
 ·rw[nQ m h,if_pos (by omega),Nat.mod_eq_of_lt h];rfl
 ·rw[wF m h,if_neg (by omega)]
theorem Na(w:World)(x:Int):(convert 40 9 (.slice (some ⟨w.heap.size,0,none⟩) 1 1)).run Tryz.prog (w.alloc (.cells #[.int .u8 x] 5))=.ok (.string (strOfNums [x])) (w.alloc (.cells #[.int .u8 x] 5)):=
 run_convert_bytes_arg _ 40 5 Tryz.underlying40 Tryz.underlying5 w.heap.size 0 1 1 [x] rfl (fun i hi=>by
  obtain rfl:i=0:=by simpa using hi
  exact aR (cur:= [_]) (heap_alloc_new _ _) 0 _ rfl) 9 Tryz.underlying9
def lenOf:Value->Nat
 | .string b=>b.size
 | _=>0
theorem JF(u:Nat)(w:World)(hu:u<=9007199254740991)(hl:(rY u).length<=30):Calls Tryz.prog 94 #[.int .i64 (u:Int)] w fun x w'=>x=.returned (.string (strOfNums (rY u)))/\aj (fun _=>False) w w':=by
 have hu0:¬(u:Int)<0:=by omega
 go_enter Tryz.func94,Tryz.ntmps94;go_wp2
 go_loopw [0,3] (fun v t wr=>∃(m:Nat) (L:List Int),v=.int .i64 m/\t=.string (strOfNums L)/\m<=9007199254740991/\L.length<=30/\((L= []/\m=u)\/ (L≠ []/\rY u=BO m++L))/\aj (fun _=>False) w wr) (fun v t _=>(intOf v).toNat+(if lenOf t=0 then 1 else 0))
 case atStart=>exact⟨u, [],rfl,rfl,hu,by simp,.inl ⟨rfl,rfl⟩,aj.refl _ _⟩
 case round=>
  obtain⟨m,L,rfl,rfl,hm,hL,OA,hk⟩:=hrel
  by_cases XP:L= []\/ 0<m
  ·have ru:rY u=BO (m / 10)++([48+((m % 10:Nat):Int)]++L):=by
     rcases OA with⟨rfl,rfl⟩| ⟨B_,he⟩
     ·rw[List.append_nil];exact JD m
     ·have h0:0<m:=by rcases XP with h| h;exact absurd h B_;exact h
      rw[he,show BO m=rY m by unfold BO;rw[if_neg (by omega)],JD m,List.append_assoc]
   have VS:Hid (rY u=BO (m / 10)++([48+((m % 10:Nat):Int)]++L)):=ru;have hLn:([48+((m % 10:Nat):Int)]++L).length<=30:=by
    have:=congrArg List.length ru;rw[List.length_append]at this;omega
   have Kr:Hid (([48+((m % 10:Nat):Int)]++L).length<=30):=hLn;have RD:(strOfNums L).size<=30:=by rw[fF];exact hL
   have HGO:Hid (L= []\/ 0<m):=XP;have HZ:Hid ((strOfNums L).size=L.length):=by show _=_;rw[fF]
   have hd:((m % 10:Nat):Int)=(m:Int) % 10:=by omega
   clear ru OA hLn;have hcv:=Na wr (48+(m:Int) % 10);obtain⟨D,hD⟩:∃D,strOfNums [48+(m:Int) % 10]=D:=⟨_,rfl⟩;have hDz:D.size<=1:=by rw[<-hD,fF];exact Nat.le_refl _
   have HDz:Hid (D.size=1):=by show _=_;rw[<-hD,fF];rfl
   have HD:Hid (D=strOfNums [48+(m:Int) % 10]):=hD.symm;rw[hD]at hcv;clear hD
   by_cases hLe:L= []
   ·have e0:strOfNums L=⟨#[]⟩:=by rw[hLe];rfl
    rw[e0];have HE:Hid ((⟨#[]⟩:ByteArray)=strOfNums L):=e0.symm;clear e0;go_wp2;go_roundw
    case rel=>exact⟨m / 10, [48+((m % 10:Nat):Int)]++L,by go_num,by rw[HD.out,HE.out,hd,<-fG],by omega,Kr.out,.inr ⟨by simp,VS.out⟩,hk.alloc _⟩
    case measure=>
     have e1:lenOf (.string (D++⟨#[]⟩))≠0:=by show(D++_).size≠0;rw[ByteArray.size_append,HDz.out];omega
     have e2:lenOf (.string ⟨#[]⟩)=0:=rfl;rw[if_neg e1,if_pos e2];simp[intOf];omega
   ·have h0:0<(m:Int):=by rcases HGO.out with h| h;exact absurd h hLe;omega
    obtain⟨T,hT⟩:∃T,strOfNums L=T:=⟨_,rfl⟩;have HE:Hid (T=strOfNums L):=hT.symm;have hTe:T.toList≠ []:=by
     intro h;have h1:T.size=0:=by
      have:=congrArg List.length h;rw[Lib.toList_data,Array.length_toList]at this;exact this
     have h2:L.length=0:=by rw[<-hT,fF]at h1;exact h1
     exact hLe (List.eq_nil_of_length_eq_zero h2)
    rw[hT]at RD ⊢;clear hT;go_wp2;go_roundw
    case rel=>exact⟨m / 10, [48+((m % 10:Nat):Int)]++L,by go_num,by rw[HD.out,HE.out,hd,<-fG],by omega,Kr.out,.inr ⟨by simp,VS.out⟩,hk.alloc _⟩
    case measure=>
     have e1:lenOf (.string (D++T))≠0:=by show(D++_).size≠0;rw[ByteArray.size_append,HDz.out];omega
     rw[if_neg e1];simp[intOf];omega
  ·have UX:m=0:=by omega
   subst UX;have hLe:L≠ []:=fun h=>XP (.inl h);have HX:Hid (rY u=L):=by
    show _=_
    rcases OA with⟨h,_⟩| ⟨_,h⟩
    ·exact absurd h hLe
    ·rw[h];rfl
   obtain⟨T,hT⟩:∃T,strOfNums L=T:=⟨_,rfl⟩;have HE:Hid (T=strOfNums L):=hT.symm;have hTe:T.toList≠ []:=by
    intro h;have h1:T.size=0:=by
     have:=congrArg List.length h;rw[Lib.toList_data,Array.length_toList]at this;exact this
    have h2:L.length=0:=by rw[<-hT,fF]at h1;exact h1
    exact hLe (List.eq_nil_of_length_eq_zero h2)
   have hTf:T.toList.isEmpty=false:=by
    cases h:T.toList with
    | nil=>exact absurd h hTe
    | cons a r=>rfl
   rw[hT,show(((0:Nat):Int))=0 from rfl];clear hT OA;go_wp2;go_ret;exact⟨by rw[HX.out,HE.out];rfl,hk⟩
theorem FM(u:Nat)(hu:u<=9007199254740991):(rY u).length<=30:=by
 have:=Lib.itoa_length_le (u:Int) (by omega) (by omega);unfold rY;rw[List.length_map];unfold Lib.itoa at this;rw[if_neg (by omega),Int.toNat_natCast]at this;omega
theorem UB(i:Int)(w:World)(h0: -9007199254740991<=i)(h1:i<=9007199254740991):Calls Tryz.prog 94 #[.int .i64 i] w fun x w'=>x=.returned (.string (strOfNums (uy i)))/\aj (fun _=>False) w w':=by
 by_cases hi:i<0
 ·obtain⟨u,hu⟩:∃u:Nat, -i=(u:Int):=⟨i.natAbs,by omega⟩;have hD:=JF u w (by omega) (FM u (by omega));have HN:Hid (strOfNums (uy i)=⟨#[45]⟩++strOfNums (rY u)):=by
   show _=_
   have e:(⟨#[45]⟩:ByteArray)=strOfNums [45]:=rfl;rw[e,fG]
   congr 1
   unfold uy Lib.itoa rY;rw[if_pos hi,show i.natAbs=u by omega]
   rfl
  have hz:(strOfNums (rY u)).size<=30:=by rw[fF];exact FM u (by omega)
  obtain⟨D,hDD⟩:∃D,strOfNums (rY u)=D:=⟨_,rfl⟩;rw[hDD]at hD HN hz;clear hDD;go_enter Tryz.func94,Tryz.ntmps94;go_wp2_with(go_at_call 94;(try rw[hu]);refine hD.mono ?_;rintro x w' ⟨rfl,hk⟩);go_ret;exact⟨by rw[HN.out];rfl,hk⟩
 ·obtain⟨u,rfl⟩:∃u:Nat,i=(u:Int):=⟨i.natAbs,by omega⟩;have e:uy (u:Int)=rY u:=by
   unfold uy Lib.itoa rY;rw[if_neg hi,Int.toNat_natCast]
  rw[e];exact JF u w (by omega) (FM u (by omega))
theorem FN:∀(l:List J) (m:Nat) (b:Bool),(gq b (l.take m)).length<=(gq b l).length
 | [],m,b=>by simp
 | j::r,0,b=>by simp[gq]
 | j::r,m+1,b=>by
  rw[List.take_succ_cons,gT,gT];have:=FN r m false;simp only[List.length_append];omega
theorem FO:∀(l:List J) (ks:List ByteArray) (m:Nat) (b:Bool),(fU b ks (l.take m)).length<=(fU b ks l).length
 | [],ks,m,b=>by simp
 | j::r,ks,0,b=>by simp[fU]
 | j::r,ks,m+1,b=>by
  rw[List.take_succ_cons,iM,iM];have:=FO r ks.tail m false;simp only[List.length_append,List.length_cons];omega
theorem UC{d:Nat}{k i:Int}{t:ByteArray}{ks:List ByteArray}{l:List J}(h:goodJ (d+1) (.mk k i t ks l)=true):(k=0\/ k=1\/ k=2\/ k=3\/ k=4\/ k=5)/\(k=2->-9007199254740991<=i/\i<=9007199254740991):=by
 rw[goodJ,Bool.and_eq_true]at h;obtain⟨_,h⟩:=h;refine⟨?_,fun e=> ?_⟩
 ·by_cases k0:k=0
  ·omega
  by_cases k1:k=1
  ·omega
  by_cases k2:k=2
  ·omega
  by_cases k3:k=3
  ·omega
  by_cases k4:k=4
  ·omega
  by_cases k5:k=5
  ·omega
  rw[if_neg k0,if_neg k1,if_neg k2,if_neg k3,if_neg k4,if_neg k5]at h
  cases h
 ·subst e;rw[if_neg (by decide),if_neg (by decide),if_pos rfl]at h;rw[Bool.and_eq_true,decide_eq_true_eq,decide_eq_true_eq]at h;exact h
theorem Xl(c:Int):1<=(aI c).length:=by
 unfold aI
 (repeat' split);all_goals simp
theorem Nb:∀l:List Int,l.length<=(l.flatMap aI).length
 | []=>Nat.le_refl _
 | c::r=>by
  rw[List.flatMap_cons,List.length_append,List.length_cons];have h1:=Xl c;have h2:=Nb r;omega
def FP(d:Nat):Prop:=∀(w:World) (O:Nat->Prop) (j:J) (k i:Int) (t:ByteArray) (pk pl:Option Addr) (nk ck nl cl:Nat),(∀x,O x->x<w.heap.size)->qd d j=true->(aZ j).length<=100000000000→
 isJ O w j [.int .i64 k,.int .i64 i,.string t,.slice pk nk ck,.slice pl nl cl]→
 Calls Tryz.prog 53 #[.agg #[.int .i64 k,.int .i64 i,.string t,.slice pk nk ck,.slice pl nl cl]] w fun x w'=>x=.returned (.string (strOfNums (aZ j)))/\Below w.heap.size w w'
theorem Nc:FP 0:=by
 intro w O j k i t pk pl nk ck nl cl hO uA;unfold qd goodJ at uA
 cases uA
theorem OB{w w':World}(h:aj (fun _=>False) w w'):Below w.heap.size w w':=h.below (Nat.le_refl _) fun _ _ h=>h
theorem Nf{d:Nat}(V:FP d):FP (d+1):=by
 intro w O j k i t pk pl nk ck nl cl hO uA cB hj;obtain⟨kx,ix,tx,ks,l⟩:=j;unfold isJ at hj;obtain⟨F7,DL,F8,uG,e,hk,hl,hs⟩:=hj;simp only[List.cons.injEq,Value.int.injEq,Value.string.injEq,Value.slice.injEq,true_and,and_true]at e;obtain⟨rfl,rfl,rfl,⟨rfl,rfl,rfl⟩,rfl,rfl,rfl⟩:=e;unfold qd at uA;rw[Bool.and_eq_true]at uA;obtain⟨hg,UD⟩:=uA;unfold wideJ at UD;simp only[Bool.and_eq_true,decide_eq_true_eq]at UD;obtain⟨uI,hlw⟩:=UD;obtain⟨zA,lh,Ik⟩:=iN hg;obtain⟨rU,m_⟩:=UC hg;have HFL:Hid (l.all (qd d)=true):=List.all_eq_true.2 fun x hx=>by
  unfold qd;rw[List.all_eq_true.1 zA x hx,List.all_eq_true.1 hlw x hx]
  rfl
 have Hm:Hid ((aZ (.mk k i t ks l)).length<=100000000000):=cB;clear zA hlw hg Ik cB;obtain⟨nk,oq⟩:∃n,ks.length=n:=⟨_,rfl⟩;obtain⟨nl,mV⟩:∃n,l.length=n:=⟨_,rfl⟩;have jy:Hid (ks.length=nk):=oq;have qP:Hid (l.length=nl):=mV;have Ca:=hk.1;rw[oq]at Ca ⊢;rw[mV]at hl uI ⊢;clear oq mV;have dP:Below w.heap.size w (w.alloc (.cells #[.int .i64 k,.int .i64 i,.string t,.slice pk nk ck,.slice pl nl cl] 25)):=(Below.refl _ _).alloc (Nat.le_refl _) _;have lX:=heap_alloc_new w (.cells #[.int .i64 k,.int .i64 i,.string t,.slice pk nk ck,.slice pl nl cl] 25);obtain⟨c0,c1,c2,c3,c4⟩:=ai lX
 rcases rU with rfl| rfl| rfl| rfl| rfl| rfl
 ·have HE:Hid (aZ (.mk 0 i t ks l)= [110,117,108,108]):=by show _=_;rw[aZ,if_pos rfl]
  go_enter Tryz.func53,Tryz.ntmps53;go_wp2;go_ret;exact⟨by rw[HE.out];rfl,dP⟩
 ·by_cases h1:i=1
  ·subst h1;have HE:Hid (aZ (.mk 1 1 t ks l)= [116,114,117,101]):=by show _=_;rw[aZ,if_neg (by decide),if_pos rfl,if_pos rfl]
   go_enter Tryz.func53,Tryz.ntmps53;go_wp2;go_ret;exact⟨by rw[HE.out];rfl,dP⟩
  ·have HE:Hid (aZ (.mk 1 i t ks l)= [102,97,108,115,101]):=by show _=_;rw[aZ,if_neg (by decide),if_pos rfl,if_neg h1]
   go_enter Tryz.func53,Tryz.ntmps53;go_wp2;go_ret;exact⟨by rw[HE.out];rfl,dP⟩
 ·have HE:Hid (aZ (.mk 2 i t ks l)=uy i):=by show _=_;rw[aZ,if_neg (by decide),if_neg (by decide),if_pos rfl]
  have hD:=UB i (w.alloc (.cells #[.int .i64 2,.int .i64 i,.string t,.slice pk nk ck,.slice pl nl cl] 25)) (m_ rfl).1 (m_ rfl).2;go_enter Tryz.func53,Tryz.ntmps53;go_wp2_with(go_at_call 94;refine hD.mono ?_;rintro x w2 ⟨rfl,iX⟩);go_ret;exact⟨by rw[HE.out];rfl,ae dP (OB iX)⟩
 ·have HE:Hid (aZ (.mk 3 i t ks l)=quote (ints t)):=by show _=_;rw[aZ,if_neg (by decide),if_neg (by decide),if_neg (by decide),if_pos rfl]
  have RD:t.size<=100000000000:=by
   have:=Hm.out;rw[HE.out]at this;have h2:(ints t).length<=((ints t).flatMap aI).length:=Nb _;unfold quote at this;rw[List.length_cons,List.length_append]at this;rw[ax]at h2;omega
  have hD:=Ez t (w.alloc (.cells #[.int .i64 3,.int .i64 i,.string t,.slice pk nk ck,.slice pl nl cl] 25)) RD;go_enter Tryz.func53,Tryz.ntmps53;go_wp2_with(go_at_call 95;refine hD.mono ?_;rintro x w2 ⟨rfl,iX⟩);go_ret;exact⟨by rw[HE.out];rfl,ae dP (OB iX)⟩
 ·have HE:Hid (aZ (.mk 4 i t ks l)=91::(gq true l++ [93])):=by show _=_;rw[aZ,if_neg (by decide),if_neg (by decide),if_neg (by decide),if_neg (by decide),if_pos rfl]
  obtain⟨wB,nA⟩:∃wB,wB=w.alloc (.cells #[.int .i64 4,.int .i64 i,.string t,.slice pk nk ck,.slice pl nl cl] 25):=⟨_,rfl⟩;rw[<-nA]at dP lX;have F6:Hid (wB.heap[w.heap.size]?=some (.cells #[.int .i64 4,.int .i64 i,.string t,.slice pk nk ck,.slice pl nl cl] 25 (0,0))):=lX;have BU:Hid ((gq true l).length+2<=100000000000):=by
   have:=Hm.out;rw[HE.out,List.length_cons,List.length_append,List.length_singleton]at this
   show _<=_
   omega
  go_enter Tryz.func53,Tryz.ntmps53;go_wp2;rw[<-nA];clear c0 c1 c2 c3 c4 lX nA
  go_loopw [3,4] (fun s v wr=>∃m:Nat,v=.int .i64 m/\m<=nl/\s=.string (strOfNums (91::gq true (l.take m)))/\Below wB.heap.size wB wr) (fun _ v _=>nl - (intOf v).toNat)
  case atStart=>exact⟨0,rfl,Nat.zero_le _,rfl,Below.refl _ _⟩
  case round=>
   obtain⟨m,rfl,hm,rfl,iB⟩:=hrel;have xg:=(iB.block w.heap.size (Array.getElem?_eq_some_iff.1 F6.out).1).trans F6.out;obtain⟨c0,c1,c2,c3,c4⟩:=ai xg;have hz:(strOfNums (91::gq true (l.take m))).size<=100000000000:=by
    rw[fF,List.length_cons];have:=FN l m true;have:=BU.out;omega
   by_cases bJ:m<nl
   ·have mW:m<l.length:=by rw[qP.out];exact bJ
    have oL:(m:Int)<(nl:Int):=by omega
    obtain⟨lb,lo,cs,tY,xz,bY,jF⟩:=isJs.at l 0 m hs mW;subst tY;obtain⟨kv,iv,tv,pv,nv,cv,qv,mv,dv,rfl⟩:=dD jF;have jA:wr.heap[lb]?=w.heap[lb]?:=(iB.block lb (Nat.lt_of_lt_of_le (hO lb xz) dP.size)).trans (dP.block lb (hO lb xz));have cc:∀n v, [Value.int .i64 kv,.int .i64 iv,.string tv,.slice pv nv cv,.slice qv mv dv][n]?=some v->wr.cell? ⟨lb,lo+m*5+n,none⟩=some v:=fun n v h=>by
     have:=bY n v h;rw[Nat.zero_add]at this;exact(World.cell?_of_block (a:=⟨lb,lo+m*5+n,none⟩) jA).trans this
    have y0:wr.cell? ⟨lb,lo+m*5,none⟩=some (.int .i64 kv):=cc 0 _ rfl;have y1:=cc 1 _ rfl;have y2:=cc 2 _ rfl;have y3:=cc 3 _ rfl;have y4:=cc 4 _ rfl;clear cc bY;have Ri:=xH (l.getD m J.zero) (l.take m) true;rw[<-gQ mW,List.length_take,Nat.min_eq_left (by omega)]at Ri;have Ch:=FN l (m+1) true;have hLL:=BU.out;have hV:=V wr O _ kv iv tv pv qv nv cv mv dv (fun x hx=>Nat.lt_of_lt_of_le (hO x hx) (Nat.le_trans dP.size iB.size)) (lG HFL.out mW) (by
     rw[Ri]at Ch;simp only[List.length_append]at Ch;omega) (jF.carry fun x hx=>⟨hx,(iB.block x (Nat.lt_of_lt_of_le (hO x hx) dP.size)).trans (dP.block x (hO x hx))⟩)
    have Xm:Hid (strOfNums (91::gq true (l.take (m+1)))=strOfNums (91::gq true (l.take m))++strOfNums ((if m=0/\true=true then []else [44])++aZ (l.getD m J.zero))):=by
     show _=_
     rw[fG,Ri]
     rfl
    have hyz:(strOfNums (aZ (l.getD m J.zero))).size<=100000000000:=by
     rw[fF];rw[Ri]at Ch;simp only[List.length_append]at Ch;omega
    obtain⟨S,hS⟩:∃S,strOfNums (91::gq true (l.take m))=S:=⟨_,rfl⟩;obtain⟨Y,hY⟩:∃Y,strOfNums (aZ (l.getD m J.zero))=Y:=⟨_,rfl⟩;have HY:Hid (strOfNums (aZ (l.getD m J.zero))=Y):=hY;rw[hS]at hz Xm ⊢;rw[hY]at hV hyz;clear hS hY Ri Ch hLL
    by_cases UX:m=0
    ·subst UX;have HR:Hid (S++Y=strOfNums (91::gq true (l.take (0+1)))):=by
      show _=_
      rw[Xm.out,if_pos ⟨rfl,rfl⟩,List.nil_append,HY.out]
     have z0:(((0:Nat):Int))=0:=rfl;rw[z0];simp only[Nat.zero_mul,Nat.add_zero]at y0 y1 y2 y3 y4;have h0n:0<(nl:Int):=by omega
     go_wp2_with(go_at_call 53;refine hV.mono ?_;rintro x w4 ⟨rfl,dN⟩);go_roundw
     case rel=>exact⟨0+1,by go_num,bJ,by rw[HR.out],ae iB dN⟩
     case measure=>simp[intOf];omega
    ·have hmp:0<(m:Int):=by omega
     have HR:Hid (S++⟨#[44]⟩++Y=strOfNums (91::gq true (l.take (m+1)))):=by
      show _=_
      have e:(⟨#[44]⟩:ByteArray)=strOfNums [44]:=rfl;rw[Xm.out,if_neg (by simp[UX]),<-fG,HY.out,<-e,JC]
     go_wp2_with(go_at_call 53;refine hV.mono ?_;rintro x w4 ⟨rfl,dN⟩);go_roundw
     case rel=>exact⟨m+1,by go_num,bJ,by rw[HR.out],ae iB dN⟩
     case measure=>simp[intOf];omega
   ·obtain rfl:m=nl:=by omega
    have HR:Hid (strOfNums (91::gq true (l.take m))++⟨#[93]⟩=strOfNums (aZ (.mk 4 i t ks l))):=by
     show _=_
     have e:(⟨#[93]⟩:ByteArray)=strOfNums [93]:=rfl;rw[HE.out,List.take_of_length_le (by rw[qP.out];exact Nat.le_refl _),e,fG]
     rfl
    obtain⟨S,hS⟩:∃S,strOfNums (91::gq true (l.take m))=S:=⟨_,rfl⟩;rw[hS]at hz HR ⊢;clear hS;go_wp2;go_ret;exact⟨by rw[<-HR.out];rfl,ae dP iB⟩
 ·have HE:Hid (aZ (.mk 5 i t ks l)=123::(fU true ks l++ [125])):=by show _=_;rw[aZ,if_neg (by decide),if_neg (by decide),if_neg (by decide),if_neg (by decide),if_neg (by decide),if_pos rfl]
  have HKN:Hid (ks.length=l.length):=(lh rfl).1;obtain⟨wB,nA⟩:∃wB,wB=w.alloc (.cells #[.int .i64 5,.int .i64 i,.string t,.slice pk nk ck,.slice pl nl cl] 25):=⟨_,rfl⟩;rw[<-nA]at dP lX;have F6:Hid (wB.heap[w.heap.size]?=some (.cells #[.int .i64 5,.int .i64 i,.string t,.slice pk nk ck,.slice pl nl cl] 25 (0,0))):=lX;have BU:Hid ((fU true ks l).length+2<=100000000000):=by
   have:=Hm.out;rw[HE.out,List.length_cons,List.length_append,List.length_singleton]at this
   show _<=_
   omega
  go_enter Tryz.func53,Tryz.ntmps53;go_wp2;rw[<-nA];clear c0 c1 c2 c3 c4 lX nA
  go_loopw [5,6] (fun s v wr=>∃m:Nat,v=.int .i64 m/\m<=nl/\s=.string (strOfNums (123::fU true ks (l.take m)))/\Below wB.heap.size wB wr) (fun _ v _=>nl - (intOf v).toNat)
  case atStart=>exact⟨0,rfl,Nat.zero_le _,rfl,Below.refl _ _⟩
  case round=>
   obtain⟨m,rfl,hm,rfl,iB⟩:=hrel;have xg:=(iB.block w.heap.size (Array.getElem?_eq_some_iff.1 F6.out).1).trans F6.out;obtain⟨c0,c1,c2,c3,c4⟩:=ai xg;have hz:(strOfNums (123::fU true ks (l.take m))).size<=100000000000:=by
    rw[fF,List.length_cons];have:=FO l ks m true;have:=BU.out;omega
   by_cases bJ:m<nl
   ·have mW:m<l.length:=by rw[qP.out];exact bJ
    have GZ:Hid (m<l.length):=mW;have sD:m<ks.length:=by rw[HKN.out];exact mW
    have oL:(m:Int)<(nl:Int):=by omega
    have zgr:(m:Int)<(nk:Int):=by rw[jy.out]at sD;omega
    obtain⟨ka,Cy,uC,jH⟩:=hk.2 m sD;obtain⟨lb,lo,cs,tY,xz,bY,jF⟩:=isJs.at l 0 m hs mW;subst tY;subst Cy;obtain⟨kv,iv,tv,pv,nv,cv,qv,mv,dv,rfl⟩:=dD jF;have hw0:=(Array.getElem?_eq_some_iff.1 F6.out).1;have HQ:Hid (∀W:World,Below wB.heap.size wB W->∀n v, [Value.int .i64 5,.int .i64 i,.string t,.slice (some ka) nk ck,.slice (some ⟨lb,lo,none⟩) nl cl][n]?=some v->W.cell? ⟨w.heap.size,n,none⟩=some v):=fun W hW n v h=>(World.cell?_of_block (a:=⟨w.heap.size,n,none⟩) (hW.block w.heap.size hw0)).trans (aR (cur:= [.int .i64 5,.int .i64 i,.string t,.slice (some ka) nk ck,.slice (some ⟨lb,lo,none⟩) nl cl]) F6.out n v h);have XF:Hid (∀W:World,Below wB.heap.size wB W->∀b,O b->W.heap[b]?=w.heap[b]?):=fun W hW b hb=>(hW.block b (Nat.lt_of_lt_of_le (hO b hb) dP.size)).trans (dP.block b (hO b hb));have Xn:Hid (∀W:World,Below wB.heap.size wB W->∀n v, [Value.int .i64 kv,.int .i64 iv,.string tv,.slice pv nv cv,.slice qv mv dv][n]?=some v->W.cell? ⟨lb,lo+m*5+n,none⟩=some v):=fun W hW n v h=>by
     have:=bY n v h;rw[Nat.zero_add]at this;exact(World.cell?_of_block (a:=⟨lb,lo+m*5+n,none⟩) (XF.out W hW lb xz)).trans this
    have HY0:Hid (∀W:World,Below wB.heap.size wB W->W.cell? ⟨lb,lo+m*5,none⟩=some (.int .i64 kv)):=fun W hW=>Xn.out W hW 0 _ rfl;obtain⟨key,qf⟩:∃key,ks.getD m aH=key:=⟨_,rfl⟩;rw[qf]at jH;have Rh:Hid (∀W:World,Below wB.heap.size wB W->W.cell? (ka.add m)=some (.string key)):=fun W hW=>(World.cell?_of_block (by rw[aY];exact XF.out W hW ka.block uC)).trans jH;clear bY jH;have Ri:=xI (l.getD m J.zero) (l.take m) ks true;rw[<-gQ mW,List.length_take,Nat.min_eq_left (by omega),qf]at Ri;have Ch:=FO l ks (m+1) true;have hLL:=BU.out;have hqz:(quote (ints key)).length<=100000000000:=by
     rw[Ri]at Ch;simp only[List.length_append]at Ch;omega
    have HVL:Hid ((aZ (l.getD m J.zero)).length<=100000000000):=by
     rw[Ri]at Ch;simp only[List.length_append,List.length_cons]at Ch
     show _<=_
     omega
    have CB:key.size<=100000000000:=by
     have h2:(ints key).length<=((ints key).flatMap aI).length:=Nb _;unfold quote at hqz;rw[List.length_cons,List.length_append]at hqz;rw[ax]at h2;omega
    have fE:Below wB.heap.size wB wr.drew:=⟨iB.os,iB.tape,iB.output,iB.size,iB.block⟩;have hTx:=Ez key wr.drew CB;have Xm:Hid (strOfNums (123::fU true ks (l.take (m+1)))=strOfNums (123::fU true ks (l.take m))++strOfNums ((if m=0/\true=true then []else [44])++(quote (ints key)++(58::aZ (l.getD m J.zero))))):=by
     show _=_
     rw[fG,Ri]
     rfl
    have hyz:(strOfNums (aZ (l.getD m J.zero))).size<=100000000000:=by rw[fF];exact HVL.out
    have hxz:(strOfNums (quote (ints key))).size<=100000000000:=by rw[fF];exact hqz
    obtain⟨S,hS⟩:∃S,strOfNums (123::fU true ks (l.take m))=S:=⟨_,rfl⟩;obtain⟨Y,hY⟩:∃Y,strOfNums (aZ (l.getD m J.zero))=Y:=⟨_,rfl⟩;obtain⟨X,hX⟩:∃X,strOfNums (quote (ints key))=X:=⟨_,rfl⟩;have HY:Hid (strOfNums (aZ (l.getD m J.zero))=Y):=hY;have HXX:Hid (strOfNums (quote (ints key))=X):=hX;have e58:strOfNums (quote (ints key)++(58::aZ (l.getD m J.zero)))=X++⟨#[58]⟩++Y:=by
     have e:(⟨#[58]⟩:ByteArray)=strOfNums [58]:=rfl;rw[<-hX,<-hY,e,fG,fG,List.append_assoc]
     rfl
    rw[hS]at hz Xm ⊢;rw[hY]at hyz;rw[hX]at hxz hTx;have HRR:Hid (∀p,strOfNums p=S->True):=fun _ _=>trivial
    by_cases UX:m=0
    ·have HR:Hid (S++X++⟨#[58]⟩++Y=strOfNums (123::fU true ks (l.take (m+1)))):=by
       show _=_
       rw[Xm.out,if_pos ⟨UX,rfl⟩,List.nil_append,e58];simp only[JC]
     have GX:¬0<(m:Int):=by omega
     have GY:¬0<m:=by omega
     clear hS hY hX Ri Ch hLL e58 Xm HRR qf UX hqz;go_wp2;refine aD (by kernel_rfl) (fun W=>Below wB.heap.size wB W) ?_;change wpIn _ _ _ _ _ _ _ _ (World.drew _);refine aa (i:=0) (d:=some 60) rfl ?_;refine aB (i:=1) (d:=some 61) rfl (by(intro wq hq;have q0:=HQ.out wq hq 0 _ rfl;have q1:=HQ.out wq hq 1 _ rfl;have q2:=HQ.out wq hq 2 _ rfl;have q3:=HQ.out wq hq 3 _ rfl;have q4:=HQ.out wq hq 4 _ rfl;go_simp;first| done| with_reducible rfl)) ?_;refine aB (i:=2) (d:=some 62) rfl (by(intro wq hq;have q0:=HQ.out wq hq 0 _ rfl;have q1:=HQ.out wq hq 1 _ rfl;have q2:=HQ.out wq hq 2 _ rfl;have q3:=HQ.out wq hq 3 _ rfl;have q4:=HQ.out wq hq 4 _ rfl;go_simp;first| done| with_reducible rfl)) ?_;refine aa (i:=3) (d:=some 63) rfl ?_;refine aa (i:=4) (d:=some 64) rfl ?_;refine aB (i:=5) (d:=some 65) rfl (by(intro wq hq;have q0:=Rh.out wq hq;go_simp;first| done| with_reducible rfl)) ?_;refine aB (i:=9) (d:=some 69) rfl (by(intro wq hq;have q0:=HQ.out wq hq 0 _ rfl;have q1:=HQ.out wq hq 1 _ rfl;have q2:=HQ.out wq hq 2 _ rfl;have q3:=HQ.out wq hq 3 _ rfl;have q4:=HQ.out wq hq 4 _ rfl;go_simp;first| done| with_reducible rfl)) ?_;refine aB (i:=10) (d:=some 70) rfl (by(intro wq hq;have q0:=HQ.out wq hq 0 _ rfl;have q1:=HQ.out wq hq 1 _ rfl;have q2:=HQ.out wq hq 2 _ rfl;have q3:=HQ.out wq hq 3 _ rfl;have q4:=HQ.out wq hq 4 _ rfl;go_simp;first| done| with_reducible rfl)) ?_;refine aa (i:=11) (d:=some 71) rfl ?_;refine aa (i:=12) (d:=some 72) rfl ?_;refine aB (i:=13) (d:=some 73) rfl (by(intro wq hq;have q0:=HY0.out wq hq;have q1:=Xn.out wq hq 1 _ rfl;have q2:=Xn.out wq hq 2 _ rfl;have q3:=Xn.out wq hq 3 _ rfl;have q4:=Xn.out wq hq 4 _ rfl;go_simp;first| done| with_reducible rfl)) ?_;refine ak (i:=6) fE rfl ?_;intro K hK;go_simp;go_wp2_with(go_at_call 95;refine hTx.mono ?_;rintro x w5 ⟨rfl,qX⟩);have h_:Below wB.heap.size wB w5:=dU fE fE.size (OB qX);have hV:=V w5 O _ kv iv tv pv qv nv cv mv dv (fun x hx=>Nat.lt_of_lt_of_le (hO x hx) (Nat.le_trans dP.size h_.size)) (lG HFL.out GZ.out) HVL.out (jF.carry fun x hx=>⟨hx,(h_.block x (Nat.lt_of_lt_of_le (hO x hx) dP.size)).trans (dP.block x (hO x hx))⟩);rw[HY.out]at hV;clear fE hTx qX;refine aB (i:=7) (d:=some 67) rfl (by(intro wq hq;have q0:¬9223372036854775807<S.size+X.size:=(by omega);go_simp;first| done| with_reducible rfl)) ?_;refine aB (i:=8) (d:=some 68) rfl (by(intro wq hq;have q0:¬9223372036854775807<S.size+X.size+1:=(by omega);go_simp;first| done| with_reducible rfl)) ?_;refine ak (i:=14) h_ rfl ?_;intro K hK;go_simp;go_wp2_with(go_at_call 53;refine hV.mono ?_;rintro x w6 ⟨rfl,Bd⟩);have mf:Below wB.heap.size wB w6:=dU h_ h_.size Bd;clear h_ hV Bd;refine aB (i:=15) (d:=some 75) rfl (by(intro wq hq;have q0:¬9223372036854775807<S.size+X.size+1+Y.size:=(by omega);go_simp;first| done| with_reducible rfl)) ?_;refine aa (i:=16) (d:=some 5) rfl ?_;refine aA mf (by kernel_rfl) ?_ _;go_wp2;go_roundw
     case rel=>exact⟨m+1,by go_num,bJ,by rw[HR.out],mf⟩
     case measure=>simp[intOf];omega
    ·have HR:Hid (S++⟨#[44]⟩++X++⟨#[58]⟩++Y=strOfNums (123::fU true ks (l.take (m+1)))):=by
       show _=_
       have e:(⟨#[44]⟩:ByteArray)=strOfNums [44]:=rfl;rw[Xm.out,if_neg (by simp[UX]),<-fG,e58,<-e];simp only[JC]
     have hmp:0<(m:Int):=by omega
     clear hS hY hX Ri Ch hLL e58 Xm HRR qf UX hqz;go_wp2;refine aD (by kernel_rfl) (fun W=>Below wB.heap.size wB W) ?_;change wpIn _ _ _ _ _ _ _ _ (World.drew _);refine aa (i:=0) (d:=some 60) rfl ?_;refine aB (i:=1) (d:=some 61) rfl (by(intro wq hq;have q0:=HQ.out wq hq 0 _ rfl;have q1:=HQ.out wq hq 1 _ rfl;have q2:=HQ.out wq hq 2 _ rfl;have q3:=HQ.out wq hq 3 _ rfl;have q4:=HQ.out wq hq 4 _ rfl;go_simp;first| done| with_reducible rfl)) ?_;refine aB (i:=2) (d:=some 62) rfl (by(intro wq hq;have q0:=HQ.out wq hq 0 _ rfl;have q1:=HQ.out wq hq 1 _ rfl;have q2:=HQ.out wq hq 2 _ rfl;have q3:=HQ.out wq hq 3 _ rfl;have q4:=HQ.out wq hq 4 _ rfl;go_simp;first| done| with_reducible rfl)) ?_;refine aa (i:=3) (d:=some 63) rfl ?_;refine aa (i:=4) (d:=some 64) rfl ?_;refine aB (i:=5) (d:=some 65) rfl (by(intro wq hq;have q0:=Rh.out wq hq;go_simp;first| done| with_reducible rfl)) ?_;refine aB (i:=9) (d:=some 69) rfl (by(intro wq hq;have q0:=HQ.out wq hq 0 _ rfl;have q1:=HQ.out wq hq 1 _ rfl;have q2:=HQ.out wq hq 2 _ rfl;have q3:=HQ.out wq hq 3 _ rfl;have q4:=HQ.out wq hq 4 _ rfl;go_simp;first| done| with_reducible rfl)) ?_;refine aB (i:=10) (d:=some 70) rfl (by(intro wq hq;have q0:=HQ.out wq hq 0 _ rfl;have q1:=HQ.out wq hq 1 _ rfl;have q2:=HQ.out wq hq 2 _ rfl;have q3:=HQ.out wq hq 3 _ rfl;have q4:=HQ.out wq hq 4 _ rfl;go_simp;first| done| with_reducible rfl)) ?_;refine aa (i:=11) (d:=some 71) rfl ?_;refine aa (i:=12) (d:=some 72) rfl ?_;refine aB (i:=13) (d:=some 73) rfl (by(intro wq hq;have q0:=HY0.out wq hq;have q1:=Xn.out wq hq 1 _ rfl;have q2:=Xn.out wq hq 2 _ rfl;have q3:=Xn.out wq hq 3 _ rfl;have q4:=Xn.out wq hq 4 _ rfl;go_simp;first| done| with_reducible rfl)) ?_;refine ak (i:=6) fE rfl ?_;intro K hK;go_simp;go_wp2_with(go_at_call 95;refine hTx.mono ?_;rintro x w5 ⟨rfl,qX⟩);have h_:Below wB.heap.size wB w5:=dU fE fE.size (OB qX);have hV:=V w5 O _ kv iv tv pv qv nv cv mv dv (fun x hx=>Nat.lt_of_lt_of_le (hO x hx) (Nat.le_trans dP.size h_.size)) (lG HFL.out GZ.out) HVL.out (jF.carry fun x hx=>⟨hx,(h_.block x (Nat.lt_of_lt_of_le (hO x hx) dP.size)).trans (dP.block x (hO x hx))⟩);rw[HY.out]at hV;clear fE hTx qX;refine aB (i:=7) (d:=some 67) rfl (by(intro wq hq;have q0:¬9223372036854775807<S.size+1+X.size:=(by omega);go_simp;first| done| with_reducible rfl)) ?_;refine aB (i:=8) (d:=some 68) rfl (by(intro wq hq;have q0:¬9223372036854775807<S.size+1+X.size+1:=(by omega);go_simp;first| done| with_reducible rfl)) ?_;refine ak (i:=14) h_ rfl ?_;intro K hK;go_simp;go_wp2_with(go_at_call 53;refine hV.mono ?_;rintro x w6 ⟨rfl,Bd⟩);have mf:Below wB.heap.size wB w6:=dU h_ h_.size Bd;clear h_ hV Bd;refine aB (i:=15) (d:=some 75) rfl (by(intro wq hq;have q0:¬9223372036854775807<S.size+1+X.size+1+Y.size:=(by omega);go_simp;first| done| with_reducible rfl)) ?_;refine aa (i:=16) (d:=some 5) rfl ?_;refine aA mf (by kernel_rfl) ?_ _;go_wp2;go_roundw
     case rel=>exact⟨m+1,by go_num,bJ,by rw[HR.out],mf⟩
     case measure=>simp[intOf];omega
   ·obtain rfl:m=nl:=by omega
    have HR:Hid (strOfNums (123::fU true ks (l.take m))++⟨#[125]⟩=strOfNums (aZ (.mk 5 i t ks l))):=by
     show _=_
     have e:(⟨#[125]⟩:ByteArray)=strOfNums [125]:=rfl;rw[HE.out,List.take_of_length_le (by rw[qP.out];exact Nat.le_refl _),e,fG]
     rfl
    obtain⟨S,hS⟩:∃S,strOfNums (123::fU true ks (l.take m))=S:=⟨_,rfl⟩;rw[hS]at hz HR ⊢;clear hS;go_wp2;go_ret;exact⟨by rw[<-HR.out];rfl,ae dP iB⟩
theorem Ng:∀d,FP d
 | 0=>Nc
 | d+1=>Nf (Ng d)
def pq(p:ByteArray×J):Nat:=(quote (ints p.1)).length+2+(aZ p.2).length
theorem JG:∀(z:List (ByteArray×J)) (b:Bool),(fU b (z.map (·.1)) (z.map (·.2))).length<=(z.map pq).sum
 | [],b=>by simp[fU]
 | p::r,b=>by
  have:=JG r false;rw[List.map_cons,List.map_cons,iM,List.map_cons,List.sum_cons];simp only[List.headD_cons,List.tail_cons,List.length_append,List.length_cons];have e:(if b=true then([]:List Int)else [44]).length<=1:=by cases b<;>simp
  show _<=((quote (ints p.1)).length+2+(aZ p.2).length)+(r.map pq).sum
  omega
theorem JH:∀(l:List J) (b:Bool),(gq b l).length<=(l.map fun j=>(aZ j).length+1).sum
 | [],b=>by simp[gq]
 | j::r,b=>by
  have:=JH r false;rw[gT,List.map_cons,List.sum_cons];simp only[List.length_append];have e:(if b=true then([]:List Int)else [44]).length<=1:=by cases b<;>simp
  omega
theorem EA(s:ByteArray)(h:s.size<=2000):(quote (ints s)).length<=12002:=by
 unfold quote;rw[List.length_cons,List.length_append,List.length_singleton];have:=BN (ints s);rw[ax]at this;omega
theorem OC:∀(ks:List ByteArray) (l:List J),(∀k∈ks,k.size<=2000)->((ks.zip (ordL l)).map pq).sum<=ks.length*12003+(l.map fun j=>(aZ (ord j)).length+1).sum
 | [],l,_=>by simp
 | k::ks, [],_=>by simp[ordL]
 | k::ks,j::l,h=>by
  have:=OC ks l fun x hx=>h x (List.mem_cons_of_mem _ hx);have hq:=EA k (h k List.mem_cons_self);rw[ordL,List.zip_cons_cons,List.map_cons,List.sum_cons,List.map_cons,List.sum_cons,List.length_cons]
  show((quote (ints k)).length+2+(aZ (ord j)).length)+_<=_
  omega
theorem UE{l:List J}{f g:J->Nat}(h:∀j∈l,f j<=g j):(l.map f).sum<=(l.map g).sum:=by
 induction l with
 | nil=>simp
 | cons j r ih=>
  rw[List.map_cons,List.map_cons,List.sum_cons,List.sum_cons];have h1:=h j List.mem_cons_self;have h2:=ih fun x hx=>h x (List.mem_cons_of_mem _ hx);omega
theorem Xo(l:List J)(f:J->Nat)(B:Nat):(l.map fun j=>B*f j).sum=B*(l.map f).sum:=by
 induction l with
 | nil=>simp
 | cons j r ih=>rw[List.map_cons,List.map_cons,List.sum_cons,List.sum_cons,ih,Nat.mul_add]
theorem UF(l:List J):((ordL l).map fun j=>(aZ j).length+1).sum=(l.map fun j=>(aZ (ord j)).length+1).sum:=by
 induction l with
 | nil=>rfl
 | cons j r ih=>rw[ordL,List.map_cons,List.map_cons,List.sum_cons,List.sum_cons,ih]
theorem QT(z:List (ByteArray×J)):((fA z).map pq).sum=(z.map pq).sum:=by
 have put:∀(k:ByteArray) (v:J) (l:List (ByteArray×J)),((putK k v l).map pq).sum=pq (k,v)+(l.map pq).sum:=by
  intro k v l
  induction l with
  | nil=>simp[putK]
  | cons q r ih=>
   unfold putK
   split
   ·simp
   ·rw[List.map_cons,List.sum_cons,ih,List.map_cons,List.sum_cons];omega
 induction z with
 | nil=>rfl
 | cons q r ih=>rw[fA,put,ih,List.map_cons,List.sum_cons]
theorem OD:∀(d:Nat) (j:J),goodJ d j=true->smallJ d j=true->(aZ (ord j)).length+1<=3000000*jg d j
 | 0,j,h,_=>by unfold goodJ at h;cases h
 | d+1,.mk k i t ks l,hg,TT=>by
  obtain⟨zA,lh,Ik⟩:=iN hg;obtain⟨rU,m_⟩:=UC hg;unfold smallJ at TT;simp only[Bool.and_eq_true,decide_eq_true_eq,List.all_eq_true]at TT;obtain⟨RD,JU,rQ,_,Ce⟩:=TT;have zgs:(l.map fun j=>(aZ (ord j)).length+1).sum<=3000000*(l.map (jg d)).sum:=by
   rw[<-Xo];exact UE fun j hj=>OD d j (List.all_eq_true.1 zA j hj) (Ce j hj)
  unfold jg;rw[Nat.mul_add]
  rcases rU with rfl| rfl| rfl| rfl| rfl| rfl
  ·rw[ord,if_neg (by decide),aZ,if_pos rfl];simp only[List.length_cons,List.length_nil];omega
  ·rw[ord,if_neg (by decide),aZ,if_neg (by decide),if_pos rfl]
   split<;>simp only[List.length_cons,List.length_nil]<;>omega
  ·rw[ord,if_neg (by decide),aZ,if_neg (by decide),if_neg (by decide),if_pos rfl];have:=Lib.itoa_length_le i (by have:=m_ rfl;omega) (by have:=m_ rfl;omega);unfold uy;rw[List.length_map];omega
  ·rw[ord,if_neg (by decide),aZ,if_neg (by decide),if_neg (by decide),if_neg (by decide),if_pos rfl];have:=EA t RD;omega
  ·rw[ord,if_neg (by decide),aZ,if_neg (by decide),if_neg (by decide),if_neg (by decide),if_neg (by decide),if_pos rfl];have:=JH (ordL l) true;rw[UF]at this;simp only[List.length_cons,List.length_append,List.length_nil];omega
  ·rw[ord,if_pos rfl];unfold mapOf;rw[aZ,if_neg (by decide),if_neg (by decide),if_neg (by decide),if_neg (by decide),if_neg (by decide),if_pos rfl];have h1:=JG (fA (ks.zip (ordL l))) true;rw[QT]at h1;have h2:=OC ks l fun k hk=>rQ k hk;simp only[List.length_cons,List.length_append,List.length_nil];omega
theorem BP:∀(d e:Nat) (j:J),d<=e->smallJ e j=true->smallJ d j=true
 | 0,_,_,_,_=>by unfold smallJ;rfl
 | d+1,0,_,h,_=>by omega
 | d+1,e+1,.mk k i t ks l,h,hs=>by
  unfold smallJ at hs ⊢;simp only[Bool.and_eq_true,List.all_eq_true]at hs ⊢;exact⟨hs.1,hs.2.1,hs.2.2.1,hs.2.2.2.1,fun x hx=>BP d e x (by omega) (hs.2.2.2.2 x hx)⟩
theorem JJ:∀(d e:Nat) (j:J),d<=e->jg d j<=jg e j
 | 0,_,_,_=>by unfold jg;omega
 | d+1,0,_,h=>by omega
 | d+1,e+1,.mk k i t ks l,h=>by
  unfold jg;have:=UE (l:=l) fun j _=>JJ d e j (by omega);omega
theorem JK:∀(d:Nat) (j:J),smallJ d j=true->szJ d j=true
 | 0,_,_=>by unfold szJ;rfl
 | d+1,.mk k i t ks l,hs=>by
  unfold smallJ at hs;unfold szJ;simp only[Bool.and_eq_true,decide_eq_true_eq,List.all_eq_true]at hs ⊢;obtain⟨RD,JU,rQ,uI,Ce⟩:=hs;exact⟨by omega,by omega,fun x hx=>by have:=rQ x hx;omega,by omega,fun x hx=>JK d x (Ce x hx)⟩
open Go.RowKit Go.Maps
structure QU(e:Ev):Prop where
 J9:zaw e
 small:smallJ 20 e.content=true
 cnt:jg 20 e.content<=300
def Yl(w w':World)(e:Ev)(x:Ending):Prop:=(∃b:Bool,x=.returned (.bool b)/\(b=true->QU e))/\Below w.heap.size w w'
theorem QV{O:Nat->Prop}(e:Ev)(p:Pt)(w:World)(hE:mF O w e p)(hO:∀k,O k->k<w.heap.size)(hl:Uy e):
    Calls Tryz.prog 9 #[ed e p] w fun x w'=>Yl w w' e x:=by
 obtain⟨room,aQ,ah,st,key,⟨k,i,t,ks,l⟩,prev,aC,depth,ts,hash,sigs⟩:=e;obtain⟨pk,ck,pl,cl,pp,cp,pa,ca,ps,cs⟩:=p;obtain⟨z0,z1,z2,z4,z14,z15⟩:=hl;obtain⟨hc,hp,ha,hs⟩:=hE;simp only at z0 z1 z2 z4 z14 z15 hc hp ha hs;unfold pO at hc;simp only[J.kind,J.int,J.text,J.keys,J.list]at hc;simp only[ed,eP,J.kind,J.int,J.text,J.keys,J.list];obtain⟨np,hnp⟩:∃n,prev.length=n:=⟨_,rfl⟩;obtain⟨na,hna⟩:∃n,aC.length=n:=⟨_,rfl⟩;obtain⟨ns,hns⟩:∃n,sigs.length=n:=⟨_,rfl⟩;have HNP:Hid (prev.length=np):=hnp;have HNA:Hid (aC.length=na):=hna;have Vm:Hid (sigs.length=ns):=hns;have hcp:=hp.1;have yw:=ha.1;have Gr:=hs.1;rw[hnp]at hcp ⊢;rw[hna]at yw ⊢;rw[hns]at Gr ⊢;clear hnp hna hns;obtain⟨WB,dw⟩:∃WB,WB=w.alloc (.cells #[.string room,.string aQ,.string ah,.bool st,.string key,.int .i64 k,.int .i64 i,.string t,.slice pk ks.length ck,.slice pl l.length cl,.slice pp np cp,.slice pa na ca,.int .i64 depth,.int .i64 ts,.string hash,.slice ps ns cs] 28):=⟨_,rfl⟩;have cK:Below w.heap.size w WB:=by rw[dw];exact(Below.refl _ _).alloc (Nat.le_refl _) _
 have mo:WB.heap[w.heap.size]?=some (.cells #[.string room,.string aQ,.string ah,.bool st,.string key,.int .i64 k,.int .i64 i,.string t,.slice pk ks.length ck,.slice pl l.length cl,.slice pp np cp,.slice pa na ca,.int .i64 depth,.int .i64 ts,.string hash,.slice ps ns cs] 28 (0,0)):=by rw[dw];exact heap_alloc_new _ _
 have HNO:Hid (∀W',Below w.heap.size w W'->∀x:Ending,x=.returned (.bool false)->Yl w W' ⟨room,aQ,ah,st,key,⟨k,i,t,ks,l⟩,prev,aC,depth,ts,hash,sigs⟩ x):=fun W' h x hx=>⟨⟨false,hx,fun h=>by cases h⟩,h⟩
 by_cases h1:(2000:Int)<(room.size:Int)+aQ.size+ah.size+key.size+hash.size
 ·go_enter Tryz.func9,Tryz.ntmps9;go_wp2;go_ret;exact HNO.out _ (dw ▸ cK) _ rfl
 by_cases h2:(30:Int)<np
 ·go_enter Tryz.func9,Tryz.ntmps9;go_wp2;go_ret;exact HNO.out _ (dw ▸ cK) _ rfl
 by_cases h3:(30:Int)<na
 ·go_enter Tryz.func9,Tryz.ntmps9;go_wp2;go_ret;exact HNO.out _ (dw ▸ cK) _ rfl
 by_cases h4:(30:Int)<ns
 ·go_enter Tryz.func9,Tryz.ntmps9;go_wp2;go_ret;exact HNO.out _ (dw ▸ cK) _ rfl
 have H1:Hid (room.size+aQ.size+ah.size+key.size+hash.size<=2000):=by show _<=_;omega
 have HP:Hid (∀j,j<np->∃a,pp=some a/\WB.cell? (a.add j)=some (.string (prev.getD j aH))):=fun j hj=>by
  obtain⟨a,e,uC,yw⟩:=hp.2 j (by rw[HNP.out];exact hj);exact⟨a,e,(World.cell?_of_block (by rw[aY];exact cK.block _ (hO _ uC))).trans yw⟩
 have HA:Hid (∀j,j<na->∃a,pa=some a/\WB.cell? (a.add j)=some (.string (aC.getD j aH))):=fun j hj=>by
  obtain⟨a,e,uC,yw⟩:=ha.2 j (by rw[HNA.out];exact hj);exact⟨a,e,(World.cell?_of_block (by rw[aY];exact cK.block _ (hO _ uC))).trans yw⟩
 have HSG:Hid (∀j,j<ns->∃b o,ps=some ⟨b,o,none⟩/\WB.cell? ⟨b,o+j*2,none⟩=some (.string (sigs.getD j (aH,aH)).1)/\WB.cell? ⟨b,o+j*2+1,none⟩=some (.string (sigs.getD j (aH,aH)).2)):=fun j hj=>by
  obtain⟨b,o,e,xz,h1,h2⟩:=hs.2 j (by rw[Vm.out];exact hj);exact⟨b,o,e,(World.cell?_of_block (a:=⟨b,o+j*2,none⟩) (cK.block _ (hO _ xz))).trans h1,(World.cell?_of_block (a:=⟨b,o+j*2+1,none⟩) (cK.block _ (hO _ xz))).trans h2⟩
 have HL:Hid (∀n,Calls Tryz.prog 16 #[.agg #[.int .i64 k,.int .i64 i,.string t,.slice pk ks.length ck,.slice pl l.length cl],.int .i64 300,.int .i64 20] (WB.drewN n) fun x w'=>(∃r:Int,x=.returned (.int .i64 r)/\r<=300/\-1<=r/\(0<=r->smallJ 20 (.mk k i t ks l)=true/\(jg 20 (.mk k i t ks l):Int)+r<=300))/\Below (WB.drewN n).heap.size (WB.drewN n) w'):=fun n=>
  Oz 20 (WB.drewN n) O (.mk k i t ks l) k i 20 300 t pk pl ks.length ck l.length cl (fun b hb=>Nat.lt_of_lt_of_le (hO b hb) (ae cK (Id.below_drewN WB n)).size) rfl (by decide) (by decide) (by decide) (hc.carry fun b hb=>⟨hb,(ae cK (Id.below_drewN WB n)).block b (hO b hb)⟩)
 have ll:Hid (Below w.heap.size w WB):=cK;have HZS:Hid (∀x∈sigs,x.1.size<=140737488355328/\x.2.size<=140737488355328):=z15;clear hc hp ha hs hO cK z15;have q0:=az mo 0 _ rfl;have q1:=az mo 1 _ rfl;have q2:=az mo 2 _ rfl;have q4:=az mo 4 _ rfl;have q14:=az mo 14 _ rfl;have vT:=az mo 10 _ rfl;have q11:=az mo 11 _ rfl;have Yk:=az mo 15 _ rfl;have q5:=az mo 5 _ rfl;have q6:=az mo 6 _ rfl;have q7:=az mo 7 _ rfl;have q8:=az mo 8 _ rfl;have q9:=az mo 9 _ rfl;go_enter Tryz.func9,Tryz.ntmps9;go_wp2;rw[<-dw];clear dw mo
 go_loopw [3] (fun v wr=>∃m:Nat,v=.int .i64 m/\m<=np/\Hid (∀x,x<m->(prev.getD x aH).size<=100)/\wr=WB) (fun v _=>np - (intOf v).toNat)
 case atStart=>exact⟨0,rfl,Nat.zero_le _,fun m hm=>absurd hm (by omega),rfl⟩
 case round=>
  obtain⟨m,rfl,hm,HX,rfl⟩:=hrel
  by_cases bJ:m<np
  ·have oL:(m:Int)<(np:Int):=by omega
   obtain⟨a,rfl,zaz⟩:=HP.out m bJ;obtain⟨u,hu⟩:∃u,prev.getD m aH=u:=⟨_,rfl⟩;have HU:Hid (prev.getD m aH=u):=hu;rw[hu]at zaz;clear hu
   by_cases Ta:(100:Int)<u.size
   ·go_wp2;go_ret;exact HNO.out _ ll.out _ rfl
   ·go_wp2;go_roundw
    case rel=>exact⟨m+1,by go_num,bJ,fun x hx=>(Nat.lt_succ_iff_lt_or_eq.1 hx).elim (HX.out x) fun e=>by rw[e,HU.out];omega,trivial⟩
    case measure=>simp[intOf];omega
  ·obtain rfl:m=np:=by omega
   have HXP:Hid (∀x∈prev,x.size<=100):=Jz (by rw[HNP.out];exact HX.out);clear HX bJ hm;go_wp2
   go_loopw [4] (fun v wr2=>∃n:Nat,v=.int .i64 n/\n<=na/\Hid (∀x,x<n->(aC.getD x aH).size<=100)/\wr2=wr) (fun v _=>na - (intOf v).toNat)
   case atStart=>exact⟨0,rfl,Nat.zero_le _,fun m hm=>absurd hm (by omega),rfl⟩
   case round=>
    obtain⟨n,rfl,hn,HX,rfl⟩:=hrel
    by_cases bJ:n<na
    ·have oL:(n:Int)<(na:Int):=by omega
     obtain⟨a,rfl,zaz⟩:=HA.out n bJ;obtain⟨u,hu⟩:∃u,aC.getD n aH=u:=⟨_,rfl⟩;have HU:Hid (aC.getD n aH=u):=hu;rw[hu]at zaz;clear hu
     by_cases Ta:(100:Int)<u.size
     ·go_wp2;go_ret;exact HNO.out _ ll.out _ rfl
     ·go_wp2;go_roundw
      case rel=>exact⟨n+1,by go_num,bJ,fun x hx=>(Nat.lt_succ_iff_lt_or_eq.1 hx).elim (HX.out x) fun e=>by rw[e,HU.out];omega,trivial⟩
      case measure=>simp[intOf];omega
    ·obtain rfl:n=na:=by omega
     have HXA:Hid (∀x∈aC,x.size<=100):=Jz (by rw[HNA.out];exact HX.out);clear HX bJ hn;go_wp2
     go_loopw [5] (fun v wr3=>∃(h d:Nat),v=.int .i64 h/\h<=ns/\Hid (∀x,x<h->(sigs.getD x (aH,aH)).1.size+(sigs.getD x (aH,aH)).2.size<=200)/\wr3=wr.drewN d) (fun v _=>ns - (intOf v).toNat)
     case atStart=>exact⟨0,0,rfl,Nat.zero_le _,fun m hm=>absurd hm (by omega),rfl⟩
     case round=>
      obtain⟨h,d,rfl,hh,HX,rfl⟩:=hrel
      by_cases bJ:h<ns
      ·have oL:(h:Int)<(ns:Int):=by omega
       obtain⟨b,o,rfl,GI,vw⟩:=HSG.out h bJ;have Ff:sigs.getD h (aH,aH)∈sigs:=by
        rw[List.getD_eq_getElem?_getD,List.getElem?_eq_getElem (by rw[Vm.out];exact bJ)];exact List.getElem_mem _
       have hz:=HZS.out _ Ff;obtain⟨uv,QC⟩:∃u,sigs.getD h (aH,aH)=u:=⟨_,rfl⟩;have HU:Hid (sigs.getD h (aH,aH)=uv):=QC;rw[QC]at GI vw hz;clear QC Ff;obtain⟨u,v⟩:=uv;obtain⟨y1,y2⟩:=hz;simp only at GI vw y1 y2
       by_cases Ta:(200:Int)<(u.size:Int)+v.size
       ·go_wp2;refine wp_region_quiet_lit (by kernel_rfl) (by kernel_rfl) ?_
        repeat (any_goals (first| go_big_quiet_step (fail)| quiet_step (fail)))
        refine wpQuiet_nil ?_;intro _ hw;obtain⟨nq,hw⟩:=hw;subst hw;go_wp2;go_ret;exact HNO.out _ (ae ll.out (by simpa [World.drewN_drewN]using Id.below_drewN _ _)) _ rfl
       ·go_wp2;refine wp_region_quiet_lit (by kernel_rfl) (by kernel_rfl) ?_
        repeat (any_goals (first| go_big_quiet_step (fail)| quiet_step (fail)))
        refine wpQuiet_nil ?_;intro _ hw;obtain⟨nq,hw⟩:=hw;subst hw;go_wp2;go_roundw
        case rel=>exact⟨h+1,_,by go_num,bJ,fun x hx=>(Nat.lt_succ_iff_lt_or_eq.1 hx).elim (HX.out x) fun e=>by rw[e,HU.out];show u.size+v.size<=200;omega,rfl⟩
        case measure=>simp[intOf];omega
      ·obtain rfl:h=ns:=by omega
       have hL:=HL.out d;go_wp2_with(go_at_call 16;refine hL.mono ?_;rintro x w4 ⟨⟨r4,rfl,F4,Dy,rR⟩,dN⟩);go_ret;refine⟨⟨_,rfl,fun hh=> ?_⟩,ae ll.out (ae (Id.below_drewN _ _) dN)⟩;have h6:=rR (of_decide_eq_true hh);refine⟨⟨H1.out,by show prev.length<=30;rw[HNP.out];omega,HXP.out,by show aC.length<=30;rw[HNA.out];omega,HXA.out,by show sigs.length<=30;rw[Vm.out];omega,fun x hx=> ?_,JK 20 _ h6.1⟩,h6.1,by have:=h6.2;have:=of_decide_eq_true hh;show jg 20 (.mk k i t ks l)<=300;omega⟩;obtain⟨y,hy,rfl⟩:=List.getElem_of_mem hx;have:=HX.out y (by rw[<-Vm.out];exact hy);rw[List.getD_eq_getElem?_getD,List.getElem?_eq_getElem hy]at this;exact this
open Go.RowKit
theorem g_(d:Nat){s:ByteArray}(h:s.size<=2000):smallJ (d+1) (aL s)=true/\jg (d+1) (aL s)=1:=by
 unfold aL smallJ jg;rw[decide_eq_true h];exact⟨rfl,rfl⟩
theorem BQ(d:Nat)(n:Int):smallJ (d+1) (gz n)=true/\jg (d+1) (gz n)=1:=⟨rfl,rfl⟩
theorem BR{α:Type}(f:α->J)(d:Nat):∀l:List α,(∀x∈l,jg d (f x)=1)->((l.map f).map (jg d)).sum=l.length
 | [],_=>rfl
 | a::r,h=>by
  rw[List.map_cons,List.map_cons,List.sum_cons,h a (by simp),BR f d r fun x hx=>h x (by simp[hx]),List.length_cons];omega
theorem xc(d:Nat){l:List ByteArray}(hl:l.length<=30)(h:∀x∈l,x.size<=100):smallJ (d+2) (dB l)=true/\jg (d+2) (dB l)<=31:=by
 unfold dB smallJ jg;rw[BR aL (d+1) l fun x hx=>(g_ d (by have:=h x hx;omega)).2];refine⟨?_,by omega⟩;have h1:(l.map aL).all (smallJ (d+1))=true:=by
  rw[List.all_map,List.all_eq_true];exact fun x hx=>(g_ d (by have:=h x hx;omega)).1
 rw[h1,List.length_map,decide_eq_true (show l.length<=2000 by omega)]
 rfl
theorem Db(d:Nat){l:List (ByteArray×ByteArray)}(hl:l.length<=30)(h:∀x∈l,x.1.size+x.2.size<=200):smallJ (d+2) (dF l)=true/\jg (d+2) (dF l)<=31:=by
 unfold dF smallJ jg;rw[BR (fun s:ByteArray×ByteArray=>aL s.2) (d+1) l fun x hx=>(g_ d (by have:=h x hx;omega)).2];refine⟨?_,by omega⟩;have h1:(l.map fun s=>aL s.2).all (smallJ (d+1))=true:=by
  rw[List.all_map,List.all_eq_true];exact fun x hx=>(g_ d (by have:=h x hx;omega)).1
 have h2:(l.map (·.1)).all (fun k=>decide (k.size<=2000))=true:=by
  rw[List.all_map,List.all_eq_true];exact fun x hx=>decide_eq_true (show x.1.size<=2000 by have:=h x hx;omega)
 rw[h1,h2,List.length_map,List.length_map,decide_eq_true (show l.length<=2000 by omega),decide_eq_true (show l.length<=200 by omega)]
 rfl
theorem Nh{e:Ev}(h:QU e):smallJ 12 (dI e)=true/\jg 12 (dI e)<=2000:=by
 have t:=h.J9.texts;have a1:smallJ 11 (dB e.aC)=true/\jg 11 (dB e.aC)<=31:=xc 9 h.J9.aC h.J9.DY;have a2:smallJ 11 (dB e.prev)=true/\jg 11 (dB e.prev)<=31:=xc 9 h.J9.prev h.J9.DX;have a3:smallJ 11 (dF e.sigs)=true/\jg 11 (dF e.sigs)<=31:=Db 9 h.J9.sigs h.J9.A9;have c1:=BP 11 20 _ (by decide) h.small;have c2:=Nat.le_trans (JJ 11 20 e.content (by decide)) h.cnt;have n1:smallJ 11 (gz e.depth)=true/\jg 11 (gz e.depth)=1:=BQ 10 e.depth;have n2:smallJ 11 (gz e.ts)=true/\jg 11 (gz e.ts)=1:=BQ 10 e.ts;have x1:smallJ 11 (aL e.hash)=true/\jg 11 (aL e.hash)=1:=g_ 10 (by omega);have x2:smallJ 11 (aL e.key)=true/\jg 11 (aL e.key)=1:=g_ 10 (by omega);have x3:smallJ 11 (aL e.room)=true/\jg 11 (aL e.room)=1:=g_ 10 (by omega);have x4:smallJ 11 (aL e.ah)=true/\jg 11 (aL e.ah)=1:=g_ 10 (by omega);have x5:smallJ 11 (aL e.aQ)=true/\jg 11 (aL e.aQ)=1:=g_ 10 (by omega);unfold dI gp
 cases e.st with
 | true=>
  rw[if_pos rfl];simp only[List.cons_append,List.nil_append,List.map_cons,List.map_nil];unfold smallJ jg;simp only[List.map_cons,List.map_nil,List.sum_cons,List.sum_nil,List.all_cons,List.all_nil,a1.1,a2.1,a3.1,c1,n1.1,n2.1,x1.1,x2.1,x3.1,x4.1,x5.1,n1.2,n2.2,x1.2,x2.2,x3.2,x4.2,x5.2];refine⟨rfl, ?_⟩;have:=a1.2;have:=a2.2;have:=a3.2;omega
 | false=>
  rw[if_neg (by decide)];simp only[List.cons_append,List.nil_append,List.map_cons,List.map_nil,List.append_nil];unfold smallJ jg;simp only[List.map_cons,List.map_nil,List.sum_cons,List.sum_nil,List.all_cons,List.all_nil,a1.1,a2.1,a3.1,c1,n1.1,n2.1,x1.1,x3.1,x4.1,x5.1,n1.2,n2.2,x1.2,x3.2,x4.2,x5.2];refine⟨rfl, ?_⟩;have:=a1.2;have:=a2.2;have:=a3.2;omega
theorem UG{e:Ev}(h:QU e)(hs:aO e=true):(uH e).length<=6000000000:=by
 have h1:=Nh h;have h2:=OD 12 _ (fC hs) h1.1
 show(aZ (ord (dI e))).length<=_
 omega
theorem EB{e:Ev}(hs:aO e=true):aZ (ord (dI (jw e)))=uH e:=by
 have h1:=Qz hs;have h2:=gY 12 _ (fC hs);unfold fM at h1;rw[if_pos h2]at h1;unfold uH;rw[<-I_ hs,h1]
open Go Go.RowKit
def EC(w:World)(base:Nat)(v:Value)(L:List Int):Prop:=
 ∃g cap cur fz,v=.slice (some ⟨g,0,none⟩) L.length cap/\base<=g/\w.heap[g]?=some (.cells cur 5 fz)/\(fz.2=0\/ cur.size<=fz.1)/\L.length<=cap/\cap<=maxLen/\cur.size=cap/\cur.toList.take L.length=L.map (Value.int .u8)
section
variable {w : World} {base : Nat} {v : Value} {L : List Int}
theorem EC.cells(h:EC w base v L):∃g cap,v=.slice (some ⟨g,0,none⟩) L.length cap/\∀j u,(L.map (Value.int .u8))[j]?=some u->w.cell? ((⟨g,0,none⟩:Addr).add j)=some u:=by
 obtain⟨g,cap,cur,fz,rfl,_,hg,_,_,_,_,ht⟩:=h;refine⟨g,cap,rfl,fun j u hu=> ?_⟩;have Da:(⟨g,0,none⟩:Addr).add j=⟨g,j,none⟩:=by unfold Addr.add;split<;>simp_all
 rw[<-ht,List.getElem?_take]at hu
 split at hu
 ·rw[Da,cell_of_row w g j cur 5 fz hg];simpa using hu
 ·cases hu
theorem EC.rd(h:EC w base v L)(hL:∀x∈L,0<=x/\x<=255):∃q c,v=.slice q L.length c/\Rd w.heap.size w q c L:=by
 obtain⟨g,cap,cur,fz,rfl,hb,hg,hfz,DN,hcm,Gr,ht⟩:=h;have hc:=(EC.cells (w:=w) (base:=base) (L:=L) ⟨g,cap,cur,fz,rfl,hb,hg,hfz,DN,hcm,Gr,ht⟩);obtain⟨g',qb,e,hc⟩:=hc
 cases e
 refine⟨_,_,rfl,DN,hL,fun j hj=>⟨_,rfl,(Array.getElem?_eq_some_iff.1 hg).1, ?_⟩⟩;exact hc j _ (by rw[List.getElem?_map,List.getElem?_eq_getElem hj,List.getD_eq_getElem?_getD,List.getElem?_eq_getElem hj];rfl)
end
theorem QW(w:World)(s:ByteArray)(hs:s.size<=1000000):∃v w',(convert 9 40 (.string s)).run Tryz.prog w=.ok v w'/\EC w' w.heap.size v (ints s)/\Below w.heap.size w w':=by
 refine⟨_,_,Lib.run_convert_string_bytes (P:=Tryz.prog) w 9 40 5 s Tryz.underlying9 Tryz.underlying40 Tryz.underlying5, ?_, ?_⟩
 ·have zy:=grownCap_ge w s.size 0 5;have hcz:(Lib.bytesCells w 5 s).size=grownCap w s.size 0 5:=by
   unfold Lib.bytesCells;simp;have:s.data.size=s.size:=rfl;omega
  refine⟨w.heap.size,_,_,_,by rw[ax],Nat.le_refl _,Lib.bytesWorld_at_new w 5 s,.inr (Nat.le_refl _),by rw[ax];exact zy,grownCap_le_maxLen w s.size 0 5 (by unfold maxLen;omega),hcz, ?_⟩;rw[ax];unfold Lib.bytesCells;simp only[Array.toList_append,Array.toList_map];have e:s.size=(s.data.toList.map fun b=>Value.int .u8 (b.toNat:Int)).length:=by simp
  rw[e,List.take_left,ints,List.map_map]
  rfl
 ·exact⟨rfl,rfl,rfl,by rw[Lib.bytesWorld_size];omega,fun k hk=>Lib.bytesWorld_at_old w 5 s k hk⟩
open Go.RowKit
def UH(w':World)(j:J)(x:Ending):Prop:=
 (goodJ 12 j=false->x=.returned (.tuple #[.slice none 0 0,.int .i64 1]))∧
 (goodJ 12 j=true->16384<(aZ (ord j)).length->x=.returned (.tuple #[.slice none 0 0,.int .i64 13]))∧
 (goodJ 12 j=true->(aZ (ord j)).length<=16384->∃q c,x=.returned (.tuple #[.slice q (aZ (ord j)).length c,.int .i64 0])/\Rd w'.heap.size w' q c (aZ (ord j)))
theorem FQ{w:World}{O:Nat->Prop}{j:J}{k i:Int}{t:ByteArray}{pk pl:Option Addr}{nk ck nl cl:Nat}(hO:∀x,O x->x<w.heap.size)(fI:szJ 12 j=true)(Wp:goodJ 12 j=true->(aZ (ord j)).length<=6000000000)
    (hj:isJ O w j [.int .i64 k,.int .i64 i,.string t,.slice pk nk ck,.slice pl nl cl]):
    Calls Tryz.prog 29 #[.agg #[.int .i64 k,.int .i64 i,.string t,.slice pk nk ck,.slice pl nl cl]] w fun x w'=>UH w' j x/\Below w.heap.size w w':=by
 obtain⟨wB,nA⟩:∃wB,wB=w.alloc (.cells #[.int .i64 k,.int .i64 i,.string t,.slice pk nk ck,.slice pl nl cl] 25):=⟨_,rfl⟩;have r_:Below w.heap.size w wB:=by rw[nA];exact(Below.refl _ _).alloc (Nat.le_refl _) _
 have hA:wB.heap[w.heap.size]?=some (.cells #[.int .i64 k,.int .i64 i,.string t,.slice pk nk ck,.slice pl nl cl] 25 (0,0)):=by rw[nA];exact heap_alloc_new _ _
 have Oa:w.heap.size<wB.heap.size:=(Array.getElem?_eq_some_iff.1 hA).1;have L6:∀x,O x->x<wB.heap.size:=fun x hx=>Nat.lt_of_lt_of_le (hO x hx) r_.size;have JZ:=hj.carry (O':=O) (w':=wB) fun x hx=>⟨hx,r_.block x (hO x hx)⟩;have hG:=uo L6 fI JZ;rw[nA]at hG
 cases hg:goodJ 12 j with
 | false=>
  rw[hg]at hG;go_enter Tryz.func29,Tryz.ntmps29;go_wp2_with(go_at_call 35;refine hG.mono ?_;rintro x w2 ⟨rfl,bM⟩);rw[<-nA]at bM;go_ret2;exact⟨⟨fun _=>rfl,fun h=>(by rw[hg]at h;cases h),fun h=>(by rw[hg]at h;cases h)⟩,ae r_ bM⟩
 | true=>
  have HG:Hid (goodJ 12 j=true):=hg;rw[hg]at hG;have Kt:Hid ((aZ (ord j)).length<=6000000000):=Wp hg;clear hg;obtain⟨S,hS⟩:∃S,strOfNums (aZ (ord j))=S:=⟨_,rfl⟩;have HS:Hid (strOfNums (aZ (ord j))=S):=hS;have Ot:S.size=(aZ (ord j)).length:=by rw[<-hS,fF]
  clear hS
  by_cases kU:16384<(aZ (ord j)).length
  ·have HL:Hid (16384<(aZ (ord j)).length):=kU;have hzi:(16384:Int)<(S.size:Int):=by omega
   clear kU Ot;go_enter Tryz.func29,Tryz.ntmps29;go_wp2_with(first
    | (go_at_call 35;refine hG.mono ?_;rintro x w2 ⟨rfl,bM⟩
       rw[<-nA]at bM;have zX:=(bM.block w.heap.size Oa).trans hA;obtain⟨c0,c1,c2,c3,c4⟩:=ai zX;have hRO:=Oy 12 w2 O j k i t pk pl nk ck nl cl (fun x hx=>Nat.lt_of_lt_of_le (L6 x hx) bM.size) HG.out fI (JZ.carry fun x hx=>⟨hx,bM.block x (L6 x hx)⟩))
    | (go_at_call 45;refine hRO.mono ?_;rintro x w3 ⟨⟨kr,ir,tr,pr,nr,cr,qr,mr,dr,rfl,JY⟩,a_⟩
       clear hRO;have hX:=Ng 12 w3 (fun b=>b<w3.heap.size) (ord j) kr ir tr pr qr nr cr mr dr (fun _ h=>h) (E_ HG.out fI) (by have:=Kt.out;omega) (JY.carry fun b hb=>⟨hb.elim (fun h=>Nat.lt_of_lt_of_le (L6 b h) (Nat.le_trans bM.size a_.size)) (fun h=>h.2),rfl⟩);rw[HS.out]at hX)
    | (go_at_call 53;refine hX.mono ?_;rintro x w4 ⟨rfl,dN⟩
       clear hX))
   go_ret2;exact⟨⟨fun h=>(by rw[HG.out]at h;cases h),fun _ _=>rfl,fun _ h=>absurd HL.out (by omega)⟩,ae r_ (ae bM (ae a_ dN))⟩
  ·have HL:Hid ((aZ (ord j)).length<=16384):=by show _<=_;omega
   have hzi:¬(16384:Int)<(S.size:Int):=by omega
   have HSz:Hid (S.size<=16384):=by show _<=_;omega
   clear kU Ot;go_enter Tryz.func29,Tryz.ntmps29;go_wp2_with(first
    | (go_at_call 35;refine hG.mono ?_;rintro x w2 ⟨rfl,bM⟩
       rw[<-nA]at bM;have zX:=(bM.block w.heap.size Oa).trans hA;obtain⟨c0,c1,c2,c3,c4⟩:=ai zX;have hRO:=Oy 12 w2 O j k i t pk pl nk ck nl cl (fun x hx=>Nat.lt_of_lt_of_le (L6 x hx) bM.size) HG.out fI (JZ.carry fun x hx=>⟨hx,bM.block x (L6 x hx)⟩))
    | (go_at_call 45;refine hRO.mono ?_;rintro x w3 ⟨⟨kr,ir,tr,pr,nr,cr,qr,mr,dr,rfl,JY⟩,a_⟩
       clear hRO;have hX:=Ng 12 w3 (fun b=>b<w3.heap.size) (ord j) kr ir tr pr qr nr cr mr dr (fun _ h=>h) (E_ HG.out fI) (by have:=Kt.out;omega) (JY.carry fun b hb=>⟨hb.elim (fun h=>Nat.lt_of_lt_of_le (L6 b h) (Nat.le_trans bM.size a_.size)) (fun h=>h.2),rfl⟩);rw[HS.out]at hX)
    | (go_at_call 53;refine hX.mono ?_;rintro x w4 ⟨rfl,dN⟩
       clear hX;obtain⟨v,w5,hcv,hf,nu⟩:=QW w4 S (by have:=HSz.out;omega);rw[<-HS.out,vU _ (A8 12 (ord j) (gY 12 j HG.out))]at hf;obtain⟨q5,c5,rfl,zeI⟩:=hf.rd (A8 12 (ord j) (gY 12 j HG.out));clear hf))
   go_ret2;exact⟨⟨fun h=>(by rw[HG.out]at h;cases h),fun _ h=>absurd HL.out (by omega),fun _ _=>⟨q5,c5,rfl,zeI⟩⟩,ae r_ (ae bM (ae a_ (ae dN nu)))⟩
end Go.Proofs.YtegcgbjjpgjnmaaGreatDoor

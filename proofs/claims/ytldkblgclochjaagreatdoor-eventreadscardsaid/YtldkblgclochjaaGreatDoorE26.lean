/- A part. -/
import Derived.Test.YtldkblgclochjaaGreatDoorE25
import Derived.Lib.ConvBytes
import Derived.Lib.FrozenHead
set_option maxRecDepth 100000
set_option maxHeartbeats 16000000
namespace Go.Proofs.YtldkblgclochjaaGreatDoor
open Go.RowKit
theorem zaz(c:Int):(aG c).length<=6:=by
 unfold aG
 (repeat' split);all_goals simp
theorem DL:∀l:List Int,(l.flatMap aG).length<=6*l.length
 | []=>Nat.le_refl _
 | c::r=>by
  rw[List.flatMap_cons,List.length_append,List.length_cons];have h1:=zaz c;have h2:=DL r;omega
theorem take_one{l:List Int}{i:Nat}(h:i<l.length):l.take (i+1)=l.take i++ [ah l i]:=by
 rw[List.take_add_one];unfold ah;rw[List.getD_eq_getElem?_getD,List.getElem?_eq_getElem h]
 rfl
theorem XJ{l:List Int}{i:Nat}(h:i<l.length):strOfNums (34::(l.take (i+1)).flatMap aG)=strOfNums (34::(l.take i).flatMap aG)++strOfNums (aG (ah l i)):=by
 rw[take_one h,List.flatMap_append,f_];simp
theorem byte_at(s:ByteArray)(i:Nat)(h:i<s.size):ah (ints s) i=(s[i].toNat:Int):=dS s i h
theorem zcf(s:ByteArray)(i:Nat)(h:i<s.size):s.extract i (i+1)=⟨#[s[i]]⟩:=by
 apply ByteArray.ext
 rw[ByteArray.data_extract]
 apply Array.ext
 ·have:s.data.size=s.size:=rfl;simp;omega
 ·intro j h1 h2;have c:j<1:=by simpa using h2
  obtain rfl:j=0:=by omega
  simp
  rfl
theorem zgO(s:ByteArray)(i:Nat)(h:i<s.size){c:Nat}(d:s[i].toNat=c):s.extract i (i+1)=strOfNums [(c:Int)]:=by
 rw[zcf s i h,<-d];simp[strOfNums]
theorem zaA{c:Nat}(h:32<=c)(f:c≠34)(d:c≠92):aG (c:Int)= [(c:Int)]:=by
 unfold aG;rw[if_neg (by omega),if_neg (by omega),if_neg (by omega),if_neg (by omega),if_neg (by omega),if_neg (by omega),if_neg (by omega),if_neg (by omega)]
theorem Lm(a b c:ByteArray):a++b++c=a++(b++c):=ByteArray.append_assoc
theorem eH{T a b c x:ByteArray}(h:a++b++c=x):T++a++b++c=T++x:=by rw[<-h,Lm,Lm,Lm]
theorem Gj(s:ByteArray)(w:World)(X:s.size<=100000000000):Calls Tryz.prog 117 #[.string s] w fun x w'=>x=.returned (.string (strOfNums (quote (ints s))))/\ag (fun _=>False) w w':=by
 go_enter Tryz.func117,Tryz.ntmps117;go_wp2
 go_loopw [3,4] (fun t v wr=>∃i:Nat,v=.int .i64 i/\i<=s.size/\t=.string (strOfNums (34::((ints s).take i).flatMap aG))/\ag (fun _=>False) w wr) (fun _ v _=>s.size - (intOf v).toNat)
 case atStart=>exact⟨0,rfl,Nat.zero_le _,rfl,ag.refl _ _⟩
 case round=>
  obtain⟨i,rfl,S,rfl,f⟩:=hrel;have A:(strOfNums (34::((ints s).take i).flatMap aG)).size<=600000000001:=by
   rw[fZ,List.length_cons];have:=DL ((ints s).take i);rw[List.length_take]at this;omega
  by_cases d:i<s.size
  ·have j:=XJ (l:=ints s) (i:=i) (by rw[ax];exact d);obtain⟨c,u⟩:∃c:Nat,s[i].toNat=c:=⟨_,rfl⟩;have G:c<256:=by rw[<-u];exact s[i].toNat_lt
   rw[byte_at s i d,u]at j;have z:Hid (s.extract i (i+1)=strOfNums [(c:Int)]):=zgO s i d u;obtain⟨T,m⟩:∃T,strOfNums (34::((ints s).take i).flatMap aG)=T:=⟨_,rfl⟩;rw[m]at A j ⊢;have h:Hid (strOfNums (34::((ints s).take (i+1)).flatMap aG)=T++strOfNums (aG (c:Int))):=j;clear m j
   by_cases k:32<=c/\c≠34/\c≠92
   ·have H:((c:Int)==34)=false:=by simp;omega
    have N:((c:Int)==92)=false:=by simp;omega
    have g3:((c:Int)==8)=false:=by simp;omega
    have g4:((c:Int)==9)=false:=by simp;omega
    have I:((c:Int)==10)=false:=by simp;omega
    have U:((c:Int)==12)=false:=by simp;omega
    have K:((c:Int)==13)=false:=by simp;omega
    have V:¬(c:Int)<32:=by omega
    go_wp2;go_roundw
    case rel=>exact⟨i+1,by go_num,d,by rw[h.out,z.out,zaA k.1 k.2.1 k.2.2],f⟩
    case measure=>simp[intOf];omega
   ·have F:c=0\/ c=1\/ c=2\/ c=3\/ c=4\/ c=5\/ c=6\/ c=7\/ c=8\/ c=9\/ c=10\/ c=11\/ c=12\/ c=13\/ c=14\/ c=15\/ c=16\/ c=17\/ c=18\/ c=19\/ c=20\/ c=21\/ c=22\/ c=23\/ c=24\/ c=25\/ c=26\/ c=27\/ c=28\/ c=29\/ c=30\/ c=31\/ c=34\/ c=92:=by omega
    rcases F with rfl| rfl| rfl| rfl| rfl| rfl| rfl| rfl| rfl| rfl| rfl| rfl| rfl| rfl| rfl| rfl| rfl| rfl| rfl| rfl| rfl| rfl| rfl| rfl| rfl| rfl| rfl| rfl| rfl| rfl| rfl| rfl| rfl| rfl
    ·go_wp2;go_quiet (fail);go_wp2;go_roundw
     case rel=>exact⟨i+1,by go_num,d,by rw[h.out];exact congrArg Value.string (eH (by kernel_rfl)),f.drewN _⟩
     case measure=>simp[intOf];omega
    ·go_wp2;go_quiet (fail);go_wp2;go_roundw
     case rel=>exact⟨i+1,by go_num,d,by rw[h.out];exact congrArg Value.string (eH (by kernel_rfl)),f.drewN _⟩
     case measure=>simp[intOf];omega
    ·go_wp2;go_quiet (fail);go_wp2;go_roundw
     case rel=>exact⟨i+1,by go_num,d,by rw[h.out];exact congrArg Value.string (eH (by kernel_rfl)),f.drewN _⟩
     case measure=>simp[intOf];omega
    ·go_wp2;go_quiet (fail);go_wp2;go_roundw
     case rel=>exact⟨i+1,by go_num,d,by rw[h.out];exact congrArg Value.string (eH (by kernel_rfl)),f.drewN _⟩
     case measure=>simp[intOf];omega
    ·go_wp2;go_quiet (fail);go_wp2;go_roundw
     case rel=>exact⟨i+1,by go_num,d,by rw[h.out];exact congrArg Value.string (eH (by kernel_rfl)),f.drewN _⟩
     case measure=>simp[intOf];omega
    ·go_wp2;go_quiet (fail);go_wp2;go_roundw
     case rel=>exact⟨i+1,by go_num,d,by rw[h.out];exact congrArg Value.string (eH (by kernel_rfl)),f.drewN _⟩
     case measure=>simp[intOf];omega
    ·go_wp2;go_quiet (fail);go_wp2;go_roundw
     case rel=>exact⟨i+1,by go_num,d,by rw[h.out];exact congrArg Value.string (eH (by kernel_rfl)),f.drewN _⟩
     case measure=>simp[intOf];omega
    ·go_wp2;go_quiet (fail);go_wp2;go_roundw
     case rel=>exact⟨i+1,by go_num,d,by rw[h.out];exact congrArg Value.string (eH (by kernel_rfl)),f.drewN _⟩
     case measure=>simp[intOf];omega
    ·go_wp2;go_roundw
     case rel=>exact⟨i+1,by go_num,d,by rw[h.out];rfl,f⟩
     case measure=>simp[intOf];omega
    ·go_wp2;go_roundw
     case rel=>exact⟨i+1,by go_num,d,by rw[h.out];rfl,f⟩
     case measure=>simp[intOf];omega
    ·go_wp2;go_roundw
     case rel=>exact⟨i+1,by go_num,d,by rw[h.out];rfl,f⟩
     case measure=>simp[intOf];omega
    ·go_wp2;go_quiet (fail);go_wp2;go_roundw
     case rel=>exact⟨i+1,by go_num,d,by rw[h.out];exact congrArg Value.string (eH (by kernel_rfl)),f.drewN _⟩
     case measure=>simp[intOf];omega
    ·go_wp2;go_roundw
     case rel=>exact⟨i+1,by go_num,d,by rw[h.out];rfl,f⟩
     case measure=>simp[intOf];omega
    ·go_wp2;go_roundw
     case rel=>exact⟨i+1,by go_num,d,by rw[h.out];rfl,f⟩
     case measure=>simp[intOf];omega
    ·go_wp2;go_quiet (fail);go_wp2;go_roundw
     case rel=>exact⟨i+1,by go_num,d,by rw[h.out];exact congrArg Value.string (eH (by kernel_rfl)),f.drewN _⟩
     case measure=>simp[intOf];omega
    ·go_wp2;go_quiet (fail);go_wp2;go_roundw
     case rel=>exact⟨i+1,by go_num,d,by rw[h.out];exact congrArg Value.string (eH (by kernel_rfl)),f.drewN _⟩
     case measure=>simp[intOf];omega
    ·go_wp2;go_quiet (fail);go_wp2;go_roundw
     case rel=>exact⟨i+1,by go_num,d,by rw[h.out];exact congrArg Value.string (eH (by kernel_rfl)),f.drewN _⟩
     case measure=>simp[intOf];omega
    ·go_wp2;go_quiet (fail);go_wp2;go_roundw
     case rel=>exact⟨i+1,by go_num,d,by rw[h.out];exact congrArg Value.string (eH (by kernel_rfl)),f.drewN _⟩
     case measure=>simp[intOf];omega
    ·go_wp2;go_quiet (fail);go_wp2;go_roundw
     case rel=>exact⟨i+1,by go_num,d,by rw[h.out];exact congrArg Value.string (eH (by kernel_rfl)),f.drewN _⟩
     case measure=>simp[intOf];omega
    ·go_wp2;go_quiet (fail);go_wp2;go_roundw
     case rel=>exact⟨i+1,by go_num,d,by rw[h.out];exact congrArg Value.string (eH (by kernel_rfl)),f.drewN _⟩
     case measure=>simp[intOf];omega
    ·go_wp2;go_quiet (fail);go_wp2;go_roundw
     case rel=>exact⟨i+1,by go_num,d,by rw[h.out];exact congrArg Value.string (eH (by kernel_rfl)),f.drewN _⟩
     case measure=>simp[intOf];omega
    ·go_wp2;go_quiet (fail);go_wp2;go_roundw
     case rel=>exact⟨i+1,by go_num,d,by rw[h.out];exact congrArg Value.string (eH (by kernel_rfl)),f.drewN _⟩
     case measure=>simp[intOf];omega
    ·go_wp2;go_quiet (fail);go_wp2;go_roundw
     case rel=>exact⟨i+1,by go_num,d,by rw[h.out];exact congrArg Value.string (eH (by kernel_rfl)),f.drewN _⟩
     case measure=>simp[intOf];omega
    ·go_wp2;go_quiet (fail);go_wp2;go_roundw
     case rel=>exact⟨i+1,by go_num,d,by rw[h.out];exact congrArg Value.string (eH (by kernel_rfl)),f.drewN _⟩
     case measure=>simp[intOf];omega
    ·go_wp2;go_quiet (fail);go_wp2;go_roundw
     case rel=>exact⟨i+1,by go_num,d,by rw[h.out];exact congrArg Value.string (eH (by kernel_rfl)),f.drewN _⟩
     case measure=>simp[intOf];omega
    ·go_wp2;go_quiet (fail);go_wp2;go_roundw
     case rel=>exact⟨i+1,by go_num,d,by rw[h.out];exact congrArg Value.string (eH (by kernel_rfl)),f.drewN _⟩
     case measure=>simp[intOf];omega
    ·go_wp2;go_quiet (fail);go_wp2;go_roundw
     case rel=>exact⟨i+1,by go_num,d,by rw[h.out];exact congrArg Value.string (eH (by kernel_rfl)),f.drewN _⟩
     case measure=>simp[intOf];omega
    ·go_wp2;go_quiet (fail);go_wp2;go_roundw
     case rel=>exact⟨i+1,by go_num,d,by rw[h.out];exact congrArg Value.string (eH (by kernel_rfl)),f.drewN _⟩
     case measure=>simp[intOf];omega
    ·go_wp2;go_quiet (fail);go_wp2;go_roundw
     case rel=>exact⟨i+1,by go_num,d,by rw[h.out];exact congrArg Value.string (eH (by kernel_rfl)),f.drewN _⟩
     case measure=>simp[intOf];omega
    ·go_wp2;go_quiet (fail);go_wp2;go_roundw
     case rel=>exact⟨i+1,by go_num,d,by rw[h.out];exact congrArg Value.string (eH (by kernel_rfl)),f.drewN _⟩
     case measure=>simp[intOf];omega
    ·go_wp2;go_quiet (fail);go_wp2;go_roundw
     case rel=>exact⟨i+1,by go_num,d,by rw[h.out];exact congrArg Value.string (eH (by kernel_rfl)),f.drewN _⟩
     case measure=>simp[intOf];omega
    ·go_wp2;go_quiet (fail);go_wp2;go_roundw
     case rel=>exact⟨i+1,by go_num,d,by rw[h.out];exact congrArg Value.string (eH (by kernel_rfl)),f.drewN _⟩
     case measure=>simp[intOf];omega
    ·go_wp2;go_roundw
     case rel=>exact⟨i+1,by go_num,d,by rw[h.out,z.out,Lm];rfl,f⟩
     case measure=>simp[intOf];omega
    ·go_wp2;go_roundw
     case rel=>exact⟨i+1,by go_num,d,by rw[h.out,z.out,Lm];rfl,f⟩
     case measure=>simp[intOf];omega
  ·obtain rfl:i=s.size:=by omega
   have E:Hid (strOfNums (quote (ints s))=strOfNums (34::((ints s).take s.size).flatMap aG)++⟨#[34]⟩):=by
    show _=_
    rw[List.take_of_length_le (by rw[ax];exact Nat.le_refl _)];have e:(⟨#[34]⟩:ByteArray)=strOfNums [34]:=rfl;rw[e,f_]
    rfl
   obtain⟨T,m⟩:∃T,strOfNums (34::((ints s).take s.size).flatMap aG)=T:=⟨_,rfl⟩;rw[m]at A E ⊢;clear m;go_wp2;go_ret;exact⟨by rw[E.out];rfl,f⟩
def DN(m:Nat):List Int:=if m=0 then []else tQ m
theorem Lp(m:Nat):tQ m=DN (m / 10)++ [48+((m % 10:Nat):Int)]:=by
 unfold DN
 by_cases h:m<10
 ·rw[om m h,if_pos (by omega),Nat.mod_eq_of_lt h];rfl
 ·rw[xQ m h,if_neg (by omega)]
theorem Pq(w:World)(x:Int):(convert 36 9 (.slice (some ⟨w.heap.size,0,none⟩) 1 1)).run Tryz.prog (w.alloc (.cells #[.int .u8 x] 5))=.ok (.string (strOfNums [x])) (w.alloc (.cells #[.int .u8 x] 5)):=
 run_convert_bytes_arg _ 36 5 Tryz.underlying36 Tryz.underlying5 w.heap.size 0 1 1 [x] rfl (fun i c=>by
  obtain rfl:i=0:=by simpa using c
  exact aQ (cur:= [_]) (heap_alloc_new _ _) 0 _ rfl) 9 Tryz.underlying9
def lenOf:Value->Nat
 | .string b=>b.size
 | _=>0
theorem Lr(u:Nat)(w:World)(hu:u<=9007199254740991)(hl:(tQ u).length<=30):Calls Tryz.prog 116 #[.int .i64 (u:Int)] w fun x w'=>x=.returned (.string (strOfNums (tQ u)))/\ag (fun _=>False) w w':=by
 have hu0:¬(u:Int)<0:=by omega
 go_enter Tryz.func116,Tryz.ntmps116;go_wp2
 go_loopw [0,3] (fun v t wr=>∃(m:Nat) (L:List Int),v=.int .i64 m/\t=.string (strOfNums L)/\m<=9007199254740991/\L.length<=30/\((L= []/\m=u)\/ (L≠ []/\tQ u=DN m++L))/\ag (fun _=>False) w wr) (fun v t _=>(intOf v).toNat+(if lenOf t=0 then 1 else 0))
 case atStart=>exact⟨u, [],rfl,rfl,hu,by simp,.inl ⟨rfl,rfl⟩,ag.refl _ _⟩
 case round=>
  obtain⟨m,L,rfl,rfl,hm,hL,E,K⟩:=hrel
  by_cases S:L= []\/ 0<m
  ·have G:tQ u=DN (m / 10)++([48+((m % 10:Nat):Int)]++L):=by
     rcases E with⟨rfl,rfl⟩| ⟨DZ,he⟩
     ·rw[List.append_nil];exact Lp m
     ·have h0:0<m:=by rcases S with h| h;exact absurd h DZ;exact h
      rw[he,show DN m=tQ m by unfold DN;rw[if_neg (by omega)],Lp m,List.append_assoc]
   have V:Hid (tQ u=DN (m / 10)++([48+((m % 10:Nat):Int)]++L)):=G;have z:([48+((m % 10:Nat):Int)]++L).length<=30:=by
    have:=congrArg List.length G;rw[List.length_append]at this;omega
   have Y:Hid (([48+((m % 10:Nat):Int)]++L).length<=30):=z;have SC:(strOfNums L).size<=30:=by rw[fZ];exact hL
   have H:Hid (L= []\/ 0<m):=S;have HZ:Hid ((strOfNums L).size=L.length):=by show _=_;rw[fZ]
   have U:((m % 10:Nat):Int)=(m:Int) % 10:=by omega
   clear G E z;have F:=Pq wr (48+(m:Int) % 10);obtain⟨D,A⟩:∃D,strOfNums [48+(m:Int) % 10]=D:=⟨_,rfl⟩;have hDz:D.size<=1:=by rw[<-A,fZ];exact Nat.le_refl _
   have k:Hid (D.size=1):=by show _=_;rw[<-A,fZ];rfl
   have X:Hid (D=strOfNums [48+(m:Int) % 10]):=A.symm;rw[A]at F;clear A
   by_cases c:L= []
   ·have N:strOfNums L=⟨#[]⟩:=by rw[c];rfl
    rw[N];have f:Hid ((⟨#[]⟩:ByteArray)=strOfNums L):=N.symm;clear N;go_wp2;go_roundw
    case rel=>exact⟨m / 10, [48+((m % 10:Nat):Int)]++L,by go_num,by rw[X.out,f.out,U,<-f_],by omega,Y.out,.inr ⟨by simp,V.out⟩,K.alloc _⟩
    case measure=>
     have I:lenOf (.string (D++⟨#[]⟩))≠0:=by show(D++_).size≠0;rw[ByteArray.size_append,k.out];omega
     have e2:lenOf (.string ⟨#[]⟩)=0:=rfl;rw[if_neg I,if_pos e2];simp[intOf];omega
   ·have h0:0<(m:Int):=by rcases H.out with h| h;exact absurd h c;omega
    obtain⟨T,d⟩:∃T,strOfNums L=T:=⟨_,rfl⟩;have f:Hid (T=strOfNums L):=d.symm;have j:T.toList≠ []:=by
     intro h;have h1:T.size=0:=by
      have:=congrArg List.length h;rw[Lib.toList_data,Array.length_toList]at this;exact this
     have h2:L.length=0:=by rw[<-d,fZ]at h1;exact h1
     exact c (List.eq_nil_of_length_eq_zero h2)
    rw[d]at SC ⊢;clear d;go_wp2;go_roundw
    case rel=>exact⟨m / 10, [48+((m % 10:Nat):Int)]++L,by go_num,by rw[X.out,f.out,U,<-f_],by omega,Y.out,.inr ⟨by simp,V.out⟩,K.alloc _⟩
    case measure=>
     have I:lenOf (.string (D++T))≠0:=by show(D++_).size≠0;rw[ByteArray.size_append,k.out];omega
     rw[if_neg I];simp[intOf];omega
  ·have YS:m=0:=by omega
   subst YS;have c:L≠ []:=fun h=>S (.inl h);have HX:Hid (tQ u=L):=by
    show _=_
    rcases E with⟨h,_⟩| ⟨_,h⟩
    ·exact absurd h c
    ·rw[h];rfl
   obtain⟨T,d⟩:∃T,strOfNums L=T:=⟨_,rfl⟩;have f:Hid (T=strOfNums L):=d.symm;have j:T.toList≠ []:=by
    intro h;have h1:T.size=0:=by
     have:=congrArg List.length h;rw[Lib.toList_data,Array.length_toList]at this;exact this
    have h2:L.length=0:=by rw[<-d,fZ]at h1;exact h1
    exact c (List.eq_nil_of_length_eq_zero h2)
   have Z:T.toList.isEmpty=false:=by
    cases h:T.toList with
    | nil=>exact absurd h j
    | cons a r=>rfl
   rw[d,show(((0:Nat):Int))=0 from rfl];clear d E;go_wp2;go_ret;exact⟨by rw[HX.out,f.out];rfl,K⟩
theorem Io(u:Nat)(c:u<=9007199254740991):(tQ u).length<=30:=by
 have:=Lib.itoa_length_le (u:Int) (by omega) (by omega);unfold tQ;rw[List.length_map];unfold Lib.itoa at this;rw[if_neg (by omega),Int.toNat_natCast]at this;omega
theorem XK(i:Int)(w:World)(h0: -9007199254740991<=i)(h1:i<=9007199254740991):Calls Tryz.prog 116 #[.int .i64 i] w fun x w'=>x=.returned (.string (strOfNums (vU i)))/\ag (fun _=>False) w w':=by
 by_cases f:i<0
 ·obtain⟨u,k⟩:∃u:Nat, -i=(u:Int):=⟨i.natAbs,by omega⟩;have h:=Lr u w (by omega) (Io u (by omega));have d:Hid (strOfNums (vU i)=⟨#[45]⟩++strOfNums (tQ u)):=by
   show _=_
   have e:(⟨#[45]⟩:ByteArray)=strOfNums [45]:=rfl;rw[e,f_]
   congr 1
   unfold vU Lib.itoa tQ;rw[if_pos f,show i.natAbs=u by omega]
   rfl
  have j:(strOfNums (tQ u)).size<=30:=by rw[fZ];exact Io u (by omega)
  obtain⟨D,c⟩:∃D,strOfNums (tQ u)=D:=⟨_,rfl⟩;rw[c]at h d j;clear c;go_enter Tryz.func116,Tryz.ntmps116;go_wp2_with(go_at_call 116;(try rw[k]);refine h.mono ?_;rintro x w' ⟨rfl,m⟩);go_ret;exact⟨by rw[d.out];rfl,m⟩
 ·obtain⟨u,rfl⟩:∃u:Nat,i=(u:Int):=⟨i.natAbs,by omega⟩;have e:vU (u:Int)=tQ u:=by
   unfold vU Lib.itoa tQ;rw[if_neg f,Int.toNat_natCast]
  rw[e];exact Lr u w (by omega) (Io u (by omega))
theorem Ip:∀(l:List J) (m:Nat) (b:Bool),(gM b (l.take m)).length<=(gM b l).length
 | [],m,b=>by simp
 | j::r,0,b=>by simp[gM]
 | j::r,m+1,b=>by
  rw[List.take_succ_cons,iw,iw];have:=Ip r m false;simp only[List.length_append];omega
theorem Iq:∀(l:List J) (ks:List ByteArray) (m:Nat) (b:Bool),(gG b ks (l.take m)).length<=(gG b ks l).length
 | [],ks,m,b=>by simp
 | j::r,ks,0,b=>by simp[gG]
 | j::r,ks,m+1,b=>by
  rw[List.take_succ_cons,iZ,iZ];have:=Iq r ks.tail m false;simp only[List.length_append,List.length_cons];omega
theorem XL{d:Nat}{k i:Int}{t:ByteArray}{ks:List ByteArray}{l:List J}(h:goodJ (d+1) (.mk k i t ks l)=true):(k=0\/ k=1\/ k=2\/ k=3\/ k=4\/ k=5)/\(k=2->-9007199254740991<=i/\i<=9007199254740991):=by
 rw[goodJ,Bool.and_eq_true]at h;obtain⟨_,h⟩:=h;refine⟨?_,fun e=> ?_⟩
 ·by_cases c:k=0
  ·omega
  by_cases f:k=1
  ·omega
  by_cases j:k=2
  ·omega
  by_cases m:k=3
  ·omega
  by_cases x:k=4
  ·omega
  by_cases u:k=5
  ·omega
  rw[if_neg c,if_neg f,if_neg j,if_neg m,if_neg x,if_neg u]at h
  cases h
 ·subst e;rw[if_neg (by decide),if_neg (by decide),if_pos rfl]at h;rw[Bool.and_eq_true,decide_eq_true_eq,decide_eq_true_eq]at h;exact h
theorem zaB(c:Int):1<=(aG c).length:=by
 unfold aG
 (repeat' split);all_goals simp
theorem Ps:∀l:List Int,l.length<=(l.flatMap aG).length
 | []=>Nat.le_refl _
 | c::r=>by
  rw[List.flatMap_cons,List.length_append,List.length_cons];have h1:=zaB c;have h2:=Ps r;omega
def Ir(d:Nat):Prop:=∀(w:World) (O:Nat->Prop) (j:J) (k i:Int) (t:ByteArray) (pk pl:Option Addr) (nk ck nl cl:Nat),(∀x,O x->x<w.heap.size)->qK d j=true->(aY j).length<=100000000000→
 isJ O w j [.int .i64 k,.int .i64 i,.string t,.slice pk nk ck,.slice pl nl cl]→
 Calls Tryz.prog 88 #[.agg #[.int .i64 k,.int .i64 i,.string t,.slice pk nk ck,.slice pl nl cl]] w fun x w'=>x=.returned (.string (strOfNums (aY j)))/\Below w.heap.size w w'
theorem Pv:Ir 0:=by
 intro w O j k i t pk pl nk ck nl cl d c;unfold qK goodJ at c
 cases c
theorem QZ{w w':World}(h:ag (fun _=>False) w w'):Below w.heap.size w w':=h.below (Nat.le_refl _) fun _ _ h=>h
theorem Pw{d:Nat}(V:Ir d):Ir (d+1):=by
 intro w O j k i t pk pl nk ck nl cl Z vZ cB hj;obtain⟨kx,ix,tx,ks,l⟩:=j;unfold isJ at hj;obtain⟨GX,Er,GY,vD,e,hk,hl,hs⟩:=hj;simp only[List.cons.injEq,Value.int.injEq,Value.string.injEq,Value.slice.injEq,true_and,and_true]at e;obtain⟨rfl,rfl,rfl,⟨rfl,rfl,rfl⟩,rfl,rfl,rfl⟩:=e;unfold qK at vZ;rw[Bool.and_eq_true]at vZ;obtain⟨hg,XM⟩:=vZ;unfold wideJ at XM;simp only[Bool.and_eq_true,decide_eq_true_eq]at XM;obtain⟨rM,hlw⟩:=XM;obtain⟨vE,lu,IM⟩:=iF hg;obtain⟨rT,nM⟩:=XL hg;have HFL:Hid (l.all (qK d)=true):=List.all_eq_true.2 fun x A=>by
  unfold qK;rw[List.all_eq_true.1 vE x A,List.all_eq_true.1 hlw x A]
  rfl
 have Jn:Hid ((aY (.mk k i t ks l)).length<=100000000000):=cB;clear vE hlw hg IM cB;obtain⟨nk,nP⟩:∃n,ks.length=n:=⟨_,rfl⟩;obtain⟨nl,mo⟩:∃n,l.length=n:=⟨_,rfl⟩;have jd:Hid (ks.length=nk):=nP;have nH:Hid (l.length=nl):=mo;have Bj:=hk.1;rw[nP]at Bj ⊢;rw[mo]at hl rM ⊢;clear nP mo;have z:Below w.heap.size w (w.alloc (.cells #[.int .i64 k,.int .i64 i,.string t,.slice pk nk ck,.slice pl nl cl] 25)):=(Below.refl _ _).alloc (Nat.le_refl _) _;have pW:=heap_alloc_new w (.cells #[.int .i64 k,.int .i64 i,.string t,.slice pk nk ck,.slice pl nl cl] 25);obtain⟨c0,c1,c2,c3,c4⟩:=aj pW
 rcases rT with rfl| rfl| rfl| rfl| rfl| rfl
 ·have I:Hid (aY (.mk 0 i t ks l)= [110,117,108,108]):=by show _=_;rw[aY,if_pos rfl]
  go_enter Tryz.func88,Tryz.ntmps88;go_wp2;go_ret;exact⟨by rw[I.out];rfl,z⟩
 ·by_cases h1:i=1
  ·subst h1;have I:Hid (aY (.mk 1 1 t ks l)= [116,114,117,101]):=by show _=_;rw[aY,if_neg (by decide),if_pos rfl,if_pos rfl]
   go_enter Tryz.func88,Tryz.ntmps88;go_wp2;go_ret;exact⟨by rw[I.out];rfl,z⟩
  ·have I:Hid (aY (.mk 1 i t ks l)= [102,97,108,115,101]):=by show _=_;rw[aY,if_neg (by decide),if_pos rfl,if_neg h1]
   go_enter Tryz.func88,Tryz.ntmps88;go_wp2;go_ret;exact⟨by rw[I.out];rfl,z⟩
 ·have I:Hid (aY (.mk 2 i t ks l)=vU i):=by show _=_;rw[aY,if_neg (by decide),if_neg (by decide),if_pos rfl]
  have hD:=XK i (w.alloc (.cells #[.int .i64 2,.int .i64 i,.string t,.slice pk nk ck,.slice pl nl cl] 25)) (nM rfl).1 (nM rfl).2;go_enter Tryz.func88,Tryz.ntmps88;go_wp2_with(go_at_call 116;refine hD.mono ?_;rintro x w2 ⟨rfl,jk⟩);go_ret;exact⟨by rw[I.out];rfl,ae z (QZ jk)⟩
 ·have I:Hid (aY (.mk 3 i t ks l)=quote (ints t)):=by show _=_;rw[aY,if_neg (by decide),if_neg (by decide),if_neg (by decide),if_pos rfl]
  have SC:t.size<=100000000000:=by
   have:=Jn.out;rw[I.out]at this;have h2:(ints t).length<=((ints t).flatMap aG).length:=Ps _;unfold quote at this;rw[List.length_cons,List.length_append]at this;rw[ax]at h2;omega
  have hD:=Gj t (w.alloc (.cells #[.int .i64 3,.int .i64 i,.string t,.slice pk nk ck,.slice pl nl cl] 25)) SC;go_enter Tryz.func88,Tryz.ntmps88;go_wp2_with(go_at_call 117;refine hD.mono ?_;rintro x w2 ⟨rfl,jk⟩);go_ret;exact⟨by rw[I.out];rfl,ae z (QZ jk)⟩
 ·have I:Hid (aY (.mk 4 i t ks l)=91::(gM true l++ [93])):=by show _=_;rw[aY,if_neg (by decide),if_neg (by decide),if_neg (by decide),if_neg (by decide),if_pos rfl]
  obtain⟨wB,nQ⟩:∃wB,wB=w.alloc (.cells #[.int .i64 4,.int .i64 i,.string t,.slice pk nk ck,.slice pl nl cl] 25):=⟨_,rfl⟩;rw[<-nQ]at z pW;have Jt:Hid (wB.heap[w.heap.size]?=some (.cells #[.int .i64 4,.int .i64 i,.string t,.slice pk nk ck,.slice pl nl cl] 25 (0,0))):=pW;have D_:Hid ((gM true l).length+2<=100000000000):=by
   have:=Jn.out;rw[I.out,List.length_cons,List.length_append,List.length_singleton]at this
   show _<=_
   omega
  go_enter Tryz.func88,Tryz.ntmps88;go_wp2;rw[<-nQ];clear c0 c1 c2 c3 c4 pW nQ
  go_loopw [3,4] (fun s v wr=>∃m:Nat,v=.int .i64 m/\m<=nl/\s=.string (strOfNums (91::gM true (l.take m)))/\Below wB.heap.size wB wr) (fun _ v _=>nl - (intOf v).toNat)
  case atStart=>exact⟨0,rfl,Nat.zero_le _,rfl,Below.refl _ _⟩
  case round=>
   obtain⟨m,rfl,hm,rfl,N⟩:=hrel;have Bt:=(N.block w.heap.size (Array.getElem?_eq_some_iff.1 Jt.out).1).trans Jt.out;obtain⟨c0,c1,c2,c3,c4⟩:=aj Bt;have hz:(strOfNums (91::gM true (l.take m))).size<=100000000000:=by
    rw[fZ,List.length_cons];have:=Ip l m true;have:=D_.out;omega
   by_cases bQ:m<nl
   ·have lG:m<l.length:=by rw[nH.out];exact bQ
    have oH:(m:Int)<(nl:Int):=by omega
    obtain⟨H,lo,cs,rO,za,bL,iV⟩:=isJs.at l 0 m hs lG;subst rO;obtain⟨kv,iv,tv,pv,nv,cv,qv,mv,dv,rfl⟩:=dD iV;have gT:wr.heap[H]?=w.heap[H]?:=(N.block H (Nat.lt_of_lt_of_le (Z H za) z.size)).trans (z.block H (Z H za));have cc:∀n v, [Value.int .i64 kv,.int .i64 iv,.string tv,.slice pv nv cv,.slice qv mv dv][n]?=some v->wr.cell? ⟨H,lo+m*5+n,none⟩=some v:=fun n v h=>by
     have:=bL n v h;rw[Nat.zero_add]at this;exact(World.cell?_of_block (a:=⟨H,lo+m*5+n,none⟩) gT).trans this
    have y0:wr.cell? ⟨H,lo+m*5,none⟩=some (.int .i64 kv):=cc 0 _ rfl;have y1:=cc 1 _ rfl;have y2:=cc 2 _ rfl;have y3:=cc 3 _ rfl;have y4:=cc 4 _ rfl;clear cc bL;have UN:=yY (l.getD m J.zero) (l.take m) true;rw[<-iA lG,List.length_take,Nat.min_eq_left (by omega)]at UN;have Eg:=Ip l (m+1) true;have hLL:=D_.out;have hV:=V wr O _ kv iv tv pv qv nv cv mv dv (fun x A=>Nat.lt_of_lt_of_le (Z x A) (Nat.le_trans z.size N.size)) (lS HFL.out lG) (by
     rw[UN]at Eg;simp only[List.length_append]at Eg;omega) (iV.carry fun x A=>⟨A,(N.block x (Nat.lt_of_lt_of_le (Z x A) z.size)).trans (z.block x (Z x A))⟩)
    have F:Hid (strOfNums (91::gM true (l.take (m+1)))=strOfNums (91::gM true (l.take m))++strOfNums ((if m=0/\true=true then []else [44])++aY (l.getD m J.zero))):=by
     show _=_
     rw[f_,UN]
     rfl
    have hyz:(strOfNums (aY (l.getD m J.zero))).size<=100000000000:=by
     rw[fZ];rw[UN]at Eg;simp only[List.length_append]at Eg;omega
    obtain⟨S,hS⟩:∃S,strOfNums (91::gM true (l.take m))=S:=⟨_,rfl⟩;obtain⟨Y,hY⟩:∃Y,strOfNums (aY (l.getD m J.zero))=Y:=⟨_,rfl⟩;have HY:Hid (strOfNums (aY (l.getD m J.zero))=Y):=hY;rw[hS]at hz F ⊢;rw[hY]at hV hyz;clear hS hY UN Eg hLL
    by_cases YS:m=0
    ·subst YS;have U:Hid (S++Y=strOfNums (91::gM true (l.take (0+1)))):=by
      show _=_
      rw[F.out,if_pos ⟨rfl,rfl⟩,List.nil_append,HY.out]
     have z0:(((0:Nat):Int))=0:=rfl;rw[z0];simp only[Nat.zero_mul,Nat.add_zero]at y0 y1 y2 y3 y4;have h0n:0<(nl:Int):=by omega
     go_wp2_with(go_at_call 88;refine hV.mono ?_;rintro x w4 ⟨rfl,eQ⟩);go_roundw
     case rel=>exact⟨0+1,by go_num,bQ,by rw[U.out],ae N eQ⟩
     case measure=>simp[intOf];omega
    ·have hmp:0<(m:Int):=by omega
     have U:Hid (S++⟨#[44]⟩++Y=strOfNums (91::gM true (l.take (m+1)))):=by
      show _=_
      have e:(⟨#[44]⟩:ByteArray)=strOfNums [44]:=rfl;rw[F.out,if_neg (by simp[YS]),<-f_,HY.out,<-e,Lm]
     go_wp2_with(go_at_call 88;refine hV.mono ?_;rintro x w4 ⟨rfl,eQ⟩);go_roundw
     case rel=>exact⟨m+1,by go_num,bQ,by rw[U.out],ae N eQ⟩
     case measure=>simp[intOf];omega
   ·obtain rfl:m=nl:=by omega
    have U:Hid (strOfNums (91::gM true (l.take m))++⟨#[93]⟩=strOfNums (aY (.mk 4 i t ks l))):=by
     show _=_
     have e:(⟨#[93]⟩:ByteArray)=strOfNums [93]:=rfl;rw[I.out,List.take_of_length_le (by rw[nH.out];exact Nat.le_refl _),e,f_]
     rfl
    obtain⟨S,hS⟩:∃S,strOfNums (91::gM true (l.take m))=S:=⟨_,rfl⟩;rw[hS]at hz U ⊢;clear hS;go_wp2;go_ret;exact⟨by rw[<-U.out];rfl,ae z N⟩
 ·have I:Hid (aY (.mk 5 i t ks l)=123::(gG true ks l++ [125])):=by show _=_;rw[aY,if_neg (by decide),if_neg (by decide),if_neg (by decide),if_neg (by decide),if_neg (by decide),if_pos rfl]
  have HKN:Hid (ks.length=l.length):=(lu rfl).1;obtain⟨wB,nQ⟩:∃wB,wB=w.alloc (.cells #[.int .i64 5,.int .i64 i,.string t,.slice pk nk ck,.slice pl nl cl] 25):=⟨_,rfl⟩;rw[<-nQ]at z pW;have Jt:Hid (wB.heap[w.heap.size]?=some (.cells #[.int .i64 5,.int .i64 i,.string t,.slice pk nk ck,.slice pl nl cl] 25 (0,0))):=pW;have D_:Hid ((gG true ks l).length+2<=100000000000):=by
   have:=Jn.out;rw[I.out,List.length_cons,List.length_append,List.length_singleton]at this
   show _<=_
   omega
  go_enter Tryz.func88,Tryz.ntmps88;go_wp2;rw[<-nQ];clear c0 c1 c2 c3 c4 pW nQ
  go_loopw [5,6] (fun s v wr=>∃m:Nat,v=.int .i64 m/\m<=nl/\s=.string (strOfNums (123::gG true ks (l.take m)))/\Below wB.heap.size wB wr) (fun _ v _=>nl - (intOf v).toNat)
  case atStart=>exact⟨0,rfl,Nat.zero_le _,rfl,Below.refl _ _⟩
  case round=>
   obtain⟨m,rfl,hm,rfl,N⟩:=hrel;have Bt:=(N.block w.heap.size (Array.getElem?_eq_some_iff.1 Jt.out).1).trans Jt.out;obtain⟨c0,c1,c2,c3,c4⟩:=aj Bt;have hz:(strOfNums (123::gG true ks (l.take m))).size<=100000000000:=by
    rw[fZ,List.length_cons];have:=Iq l ks m true;have:=D_.out;omega
   by_cases bQ:m<nl
   ·have lG:m<l.length:=by rw[nH.out];exact bQ
    have Je:Hid (m<l.length):=lG;have uN:m<ks.length:=by rw[HKN.out];exact lG
    have oH:(m:Int)<(nl:Int):=by omega
    have zhG:(m:Int)<(nk:Int):=by rw[jd.out]at uN;omega
    obtain⟨ka,Ct,xf,jr⟩:=hk.2 m uN;obtain⟨H,lo,cs,rO,za,bL,iV⟩:=isJs.at l 0 m hs lG;subst rO;subst Ct;obtain⟨kv,iv,tv,pv,nv,cv,qv,mv,dv,rfl⟩:=dD iV;have hw0:=(Array.getElem?_eq_some_iff.1 Jt.out).1;have u:Hid (∀W:World,Below wB.heap.size wB W->∀n v, [Value.int .i64 5,.int .i64 i,.string t,.slice (some ka) nk ck,.slice (some ⟨H,lo,none⟩) nl cl][n]?=some v->W.cell? ⟨w.heap.size,n,none⟩=some v):=fun W hW n v h=>(World.cell?_of_block (a:=⟨w.heap.size,n,none⟩) (hW.block w.heap.size hw0)).trans (aQ (cur:= [.int .i64 5,.int .i64 i,.string t,.slice (some ka) nk ck,.slice (some ⟨H,lo,none⟩) nl cl]) Jt.out n v h);have HB2:Hid (∀W:World,Below wB.heap.size wB W->∀b,O b->W.heap[b]?=w.heap[b]?):=fun W hW b hb=>(hW.block b (Nat.lt_of_lt_of_le (Z b hb) z.size)).trans (z.block b (Z b hb));have E:Hid (∀W:World,Below wB.heap.size wB W->∀n v, [Value.int .i64 kv,.int .i64 iv,.string tv,.slice pv nv cv,.slice qv mv dv][n]?=some v->W.cell? ⟨H,lo+m*5+n,none⟩=some v):=fun W hW n v h=>by
     have:=bL n v h;rw[Nat.zero_add]at this;exact(World.cell?_of_block (a:=⟨H,lo+m*5+n,none⟩) (HB2.out W hW H za)).trans this
    have HY0:Hid (∀W:World,Below wB.heap.size wB W->W.cell? ⟨H,lo+m*5,none⟩=some (.int .i64 kv)):=fun W hW=>E.out W hW 0 _ rfl;obtain⟨key,qL⟩:∃key,ks.getD m aH=key:=⟨_,rfl⟩;rw[qL]at jr;have UL:Hid (∀W:World,Below wB.heap.size wB W->W.cell? (ka.add m)=some (.string key)):=fun W hW=>(World.cell?_of_block (by rw[bu];exact HB2.out W hW ka.block xf)).trans jr;clear bL jr;have UN:=yZ (l.getD m J.zero) (l.take m) ks true;rw[<-iA lG,List.length_take,Nat.min_eq_left (by omega),qL]at UN;have Eg:=Iq l ks (m+1) true;have hLL:=D_.out;have hqz:(quote (ints key)).length<=100000000000:=by
     rw[UN]at Eg;simp only[List.length_append]at Eg;omega
    have HVL:Hid ((aY (l.getD m J.zero)).length<=100000000000):=by
     rw[UN]at Eg;simp only[List.length_append,List.length_cons]at Eg
     show _<=_
     omega
    have Et:key.size<=100000000000:=by
     have h2:(ints key).length<=((ints key).flatMap aG).length:=Ps _;unfold quote at hqz;rw[List.length_cons,List.length_append]at hqz;rw[ax]at h2;omega
    have fM:Below wB.heap.size wB wr.drew:=⟨N.os,N.tape,N.output,N.size,N.block⟩;have hTx:=Gj key wr.drew Et;have F:Hid (strOfNums (123::gG true ks (l.take (m+1)))=strOfNums (123::gG true ks (l.take m))++strOfNums ((if m=0/\true=true then []else [44])++(quote (ints key)++(58::aY (l.getD m J.zero))))):=by
     show _=_
     rw[f_,UN]
     rfl
    have hyz:(strOfNums (aY (l.getD m J.zero))).size<=100000000000:=by rw[fZ];exact HVL.out
    have hxz:(strOfNums (quote (ints key))).size<=100000000000:=by rw[fZ];exact hqz
    obtain⟨S,hS⟩:∃S,strOfNums (123::gG true ks (l.take m))=S:=⟨_,rfl⟩;obtain⟨Y,hY⟩:∃Y,strOfNums (aY (l.getD m J.zero))=Y:=⟨_,rfl⟩;obtain⟨X,hX⟩:∃X,strOfNums (quote (ints key))=X:=⟨_,rfl⟩;have HY:Hid (strOfNums (aY (l.getD m J.zero))=Y):=hY;have HXX:Hid (strOfNums (quote (ints key))=X):=hX;have e58:strOfNums (quote (ints key)++(58::aY (l.getD m J.zero)))=X++⟨#[58]⟩++Y:=by
     have e:(⟨#[58]⟩:ByteArray)=strOfNums [58]:=rfl;rw[<-hX,<-hY,e,f_,f_,List.append_assoc]
     rfl
    rw[hS]at hz F ⊢;rw[hY]at hyz;rw[hX]at hxz hTx;have HRR:Hid (∀p,strOfNums p=S->True):=fun _ _=>trivial
    by_cases YS:m=0
    ·have U:Hid (S++X++⟨#[58]⟩++Y=strOfNums (123::gG true ks (l.take (m+1)))):=by
       show _=_
       rw[F.out,if_pos ⟨YS,rfl⟩,List.nil_append,e58];simp only[Lm]
     have Jd:¬0<(m:Int):=by omega
     have GJ:¬0<m:=by omega
     clear hS hY hX UN Eg hLL e58 F HRR qL YS hqz;go_wp2;refine aD (by kernel_rfl) (fun W=>Below wB.heap.size wB W) ?_;change wpIn _ _ _ _ _ _ _ _ (World.drew _);refine aa (i:=0) (d:=some 60) rfl ?_;refine aC (i:=1) (d:=some 61) rfl (by(intro f c;have G:=u.out f c 0 _ rfl;have q1:=u.out f c 1 _ rfl;have q2:=u.out f c 2 _ rfl;have q3:=u.out f c 3 _ rfl;have q4:=u.out f c 4 _ rfl;go_simp;first| done| with_reducible rfl)) ?_;refine aC (i:=2) (d:=some 62) rfl (by(intro f c;have G:=u.out f c 0 _ rfl;have q1:=u.out f c 1 _ rfl;have q2:=u.out f c 2 _ rfl;have q3:=u.out f c 3 _ rfl;have q4:=u.out f c 4 _ rfl;go_simp;first| done| with_reducible rfl)) ?_;refine aa (i:=3) (d:=some 63) rfl ?_;refine aa (i:=4) (d:=some 64) rfl ?_;refine aC (i:=5) (d:=some 65) rfl (by(intro f c;have G:=UL.out f c;go_simp;first| done| with_reducible rfl)) ?_;refine aC (i:=9) (d:=some 69) rfl (by(intro f c;have G:=u.out f c 0 _ rfl;have q1:=u.out f c 1 _ rfl;have q2:=u.out f c 2 _ rfl;have q3:=u.out f c 3 _ rfl;have q4:=u.out f c 4 _ rfl;go_simp;first| done| with_reducible rfl)) ?_;refine aC (i:=10) (d:=some 70) rfl (by(intro f c;have G:=u.out f c 0 _ rfl;have q1:=u.out f c 1 _ rfl;have q2:=u.out f c 2 _ rfl;have q3:=u.out f c 3 _ rfl;have q4:=u.out f c 4 _ rfl;go_simp;first| done| with_reducible rfl)) ?_;refine aa (i:=11) (d:=some 71) rfl ?_;refine aa (i:=12) (d:=some 72) rfl ?_;refine aC (i:=13) (d:=some 73) rfl (by(intro f c;have G:=HY0.out f c;have q1:=E.out f c 1 _ rfl;have q2:=E.out f c 2 _ rfl;have q3:=E.out f c 3 _ rfl;have q4:=E.out f c 4 _ rfl;go_simp;first| done| with_reducible rfl)) ?_;refine av (i:=6) fM rfl ?_;intro K hK;go_simp;go_wp2_with(go_at_call 117;refine hTx.mono ?_;rintro x w5 ⟨rfl,nG⟩);have T:Below wB.heap.size wB w5:=eF fM fM.size (QZ nG);have hV:=V w5 O _ kv iv tv pv qv nv cv mv dv (fun x A=>Nat.lt_of_lt_of_le (Z x A) (Nat.le_trans z.size T.size)) (lS HFL.out Je.out) HVL.out (iV.carry fun x A=>⟨A,(T.block x (Nat.lt_of_lt_of_le (Z x A) z.size)).trans (z.block x (Z x A))⟩);rw[HY.out]at hV;clear fM hTx nG;refine aC (i:=7) (d:=some 67) rfl (by(intro f c;have G:¬9223372036854775807<S.size+X.size:=(by omega);go_simp;first| done| with_reducible rfl)) ?_;refine aC (i:=8) (d:=some 68) rfl (by(intro f c;have G:¬9223372036854775807<S.size+X.size+1:=(by omega);go_simp;first| done| with_reducible rfl)) ?_;refine av (i:=14) T rfl ?_;intro K hK;go_simp;go_wp2_with(go_at_call 88;refine hV.mono ?_;rintro x w6 ⟨rfl,Bw⟩);have mH:Below wB.heap.size wB w6:=eF T T.size Bw;clear T hV Bw;refine aC (i:=15) (d:=some 75) rfl (by(intro f c;have G:¬9223372036854775807<S.size+X.size+1+Y.size:=(by omega);go_simp;first| done| with_reducible rfl)) ?_;refine aa (i:=16) (d:=some 5) rfl ?_;refine aB mH (by kernel_rfl) ?_ _;go_wp2;go_roundw
     case rel=>exact⟨m+1,by go_num,bQ,by rw[U.out],mH⟩
     case measure=>simp[intOf];omega
    ·have U:Hid (S++⟨#[44]⟩++X++⟨#[58]⟩++Y=strOfNums (123::gG true ks (l.take (m+1)))):=by
       show _=_
       have e:(⟨#[44]⟩:ByteArray)=strOfNums [44]:=rfl;rw[F.out,if_neg (by simp[YS]),<-f_,e58,<-e];simp only[Lm]
     have hmp:0<(m:Int):=by omega
     clear hS hY hX UN Eg hLL e58 F HRR qL YS hqz;go_wp2;refine aD (by kernel_rfl) (fun W=>Below wB.heap.size wB W) ?_;change wpIn _ _ _ _ _ _ _ _ (World.drew _);refine aa (i:=0) (d:=some 60) rfl ?_;refine aC (i:=1) (d:=some 61) rfl (by(intro f c;have G:=u.out f c 0 _ rfl;have q1:=u.out f c 1 _ rfl;have q2:=u.out f c 2 _ rfl;have q3:=u.out f c 3 _ rfl;have q4:=u.out f c 4 _ rfl;go_simp;first| done| with_reducible rfl)) ?_;refine aC (i:=2) (d:=some 62) rfl (by(intro f c;have G:=u.out f c 0 _ rfl;have q1:=u.out f c 1 _ rfl;have q2:=u.out f c 2 _ rfl;have q3:=u.out f c 3 _ rfl;have q4:=u.out f c 4 _ rfl;go_simp;first| done| with_reducible rfl)) ?_;refine aa (i:=3) (d:=some 63) rfl ?_;refine aa (i:=4) (d:=some 64) rfl ?_;refine aC (i:=5) (d:=some 65) rfl (by(intro f c;have G:=UL.out f c;go_simp;first| done| with_reducible rfl)) ?_;refine aC (i:=9) (d:=some 69) rfl (by(intro f c;have G:=u.out f c 0 _ rfl;have q1:=u.out f c 1 _ rfl;have q2:=u.out f c 2 _ rfl;have q3:=u.out f c 3 _ rfl;have q4:=u.out f c 4 _ rfl;go_simp;first| done| with_reducible rfl)) ?_;refine aC (i:=10) (d:=some 70) rfl (by(intro f c;have G:=u.out f c 0 _ rfl;have q1:=u.out f c 1 _ rfl;have q2:=u.out f c 2 _ rfl;have q3:=u.out f c 3 _ rfl;have q4:=u.out f c 4 _ rfl;go_simp;first| done| with_reducible rfl)) ?_;refine aa (i:=11) (d:=some 71) rfl ?_;refine aa (i:=12) (d:=some 72) rfl ?_;refine aC (i:=13) (d:=some 73) rfl (by(intro f c;have G:=HY0.out f c;have q1:=E.out f c 1 _ rfl;have q2:=E.out f c 2 _ rfl;have q3:=E.out f c 3 _ rfl;have q4:=E.out f c 4 _ rfl;go_simp;first| done| with_reducible rfl)) ?_;refine av (i:=6) fM rfl ?_;intro K hK;go_simp;go_wp2_with(go_at_call 117;refine hTx.mono ?_;rintro x w5 ⟨rfl,nG⟩);have T:Below wB.heap.size wB w5:=eF fM fM.size (QZ nG);have hV:=V w5 O _ kv iv tv pv qv nv cv mv dv (fun x A=>Nat.lt_of_lt_of_le (Z x A) (Nat.le_trans z.size T.size)) (lS HFL.out Je.out) HVL.out (iV.carry fun x A=>⟨A,(T.block x (Nat.lt_of_lt_of_le (Z x A) z.size)).trans (z.block x (Z x A))⟩);rw[HY.out]at hV;clear fM hTx nG;refine aC (i:=7) (d:=some 67) rfl (by(intro f c;have G:¬9223372036854775807<S.size+1+X.size:=(by omega);go_simp;first| done| with_reducible rfl)) ?_;refine aC (i:=8) (d:=some 68) rfl (by(intro f c;have G:¬9223372036854775807<S.size+1+X.size+1:=(by omega);go_simp;first| done| with_reducible rfl)) ?_;refine av (i:=14) T rfl ?_;intro K hK;go_simp;go_wp2_with(go_at_call 88;refine hV.mono ?_;rintro x w6 ⟨rfl,Bw⟩);have mH:Below wB.heap.size wB w6:=eF T T.size Bw;clear T hV Bw;refine aC (i:=15) (d:=some 75) rfl (by(intro f c;have G:¬9223372036854775807<S.size+1+X.size+1+Y.size:=(by omega);go_simp;first| done| with_reducible rfl)) ?_;refine aa (i:=16) (d:=some 5) rfl ?_;refine aB mH (by kernel_rfl) ?_ _;go_wp2;go_roundw
     case rel=>exact⟨m+1,by go_num,bQ,by rw[U.out],mH⟩
     case measure=>simp[intOf];omega
   ·obtain rfl:m=nl:=by omega
    have U:Hid (strOfNums (123::gG true ks (l.take m))++⟨#[125]⟩=strOfNums (aY (.mk 5 i t ks l))):=by
     show _=_
     have e:(⟨#[125]⟩:ByteArray)=strOfNums [125]:=rfl;rw[I.out,List.take_of_length_le (by rw[nH.out];exact Nat.le_refl _),e,f_]
     rfl
    obtain⟨S,hS⟩:∃S,strOfNums (123::gG true ks (l.take m))=S:=⟨_,rfl⟩;rw[hS]at hz U ⊢;clear hS;go_wp2;go_ret;exact⟨by rw[<-U.out];rfl,ae z N⟩
theorem Px:∀d,Ir d
 | 0=>Pv
 | d+1=>Pw (Px d)
def pK(p:ByteArray×J):Nat:=(quote (ints p.1)).length+2+(aY p.2).length
theorem Ls:∀(z:List (ByteArray×J)) (b:Bool),(gG b (z.map (·.1)) (z.map (·.2))).length<=(z.map pK).sum
 | [],b=>by simp[gG]
 | p::r,b=>by
  have:=Ls r false;rw[List.map_cons,List.map_cons,iZ,List.map_cons,List.sum_cons];simp only[List.headD_cons,List.tail_cons,List.length_append,List.length_cons];have e:(if b=true then([]:List Int)else [44]).length<=1:=by cases b<;>simp
  show _<=((quote (ints p.1)).length+2+(aY p.2).length)+(r.map pK).sum
  omega
theorem Lt:∀(l:List J) (b:Bool),(gM b l).length<=(l.map fun j=>(aY j).length+1).sum
 | [],b=>by simp[gM]
 | j::r,b=>by
  have:=Lt r false;rw[iw,List.map_cons,List.sum_cons];simp only[List.length_append];have e:(if b=true then([]:List Int)else [44]).length<=1:=by cases b<;>simp
  omega
theorem Gl(s:ByteArray)(h:s.size<=2000):(quote (ints s)).length<=12002:=by
 unfold quote;rw[List.length_cons,List.length_append,List.length_singleton];have:=DL (ints s);rw[ax]at this;omega
theorem Q0:∀(ks:List ByteArray) (l:List J),(∀k∈ks,k.size<=2000)->((ks.zip (ordL l)).map pK).sum<=ks.length*12003+(l.map fun j=>(aY (ord j)).length+1).sum
 | [],l,_=>by simp
 | k::ks, [],_=>by simp[ordL]
 | k::ks,j::l,h=>by
  have:=Q0 ks l fun x c=>h x (List.mem_cons_of_mem _ c);have d:=Gl k (h k List.mem_cons_self);rw[ordL,List.zip_cons_cons,List.map_cons,List.sum_cons,List.map_cons,List.sum_cons,List.length_cons]
  show((quote (ints k)).length+2+(aY (ord j)).length)+_<=_
  omega
theorem XN{l:List J}{f g:J->Nat}(h:∀j∈l,f j<=g j):(l.map f).sum<=(l.map g).sum:=by
 induction l with
 | nil=>simp
 | cons j r ih=>
  rw[List.map_cons,List.map_cons,List.sum_cons,List.sum_cons];have h1:=h j List.mem_cons_self;have h2:=ih fun x c=>h x (List.mem_cons_of_mem _ c);omega
theorem zaC(l:List J)(f:J->Nat)(B:Nat):(l.map fun j=>B*f j).sum=B*(l.map f).sum:=by
 induction l with
 | nil=>simp
 | cons j r ih=>rw[List.map_cons,List.map_cons,List.sum_cons,List.sum_cons,ih,Nat.mul_add]
theorem XO(l:List J):((ordL l).map fun j=>(aY j).length+1).sum=(l.map fun j=>(aY (ord j)).length+1).sum:=by
 induction l with
 | nil=>rfl
 | cons j r ih=>rw[ordL,List.map_cons,List.map_cons,List.sum_cons,List.sum_cons,ih]
theorem Ug(z:List (ByteArray×J)):((fT z).map pK).sum=(z.map pK).sum:=by
 have put:∀(k:ByteArray) (v:J) (l:List (ByteArray×J)),((putK k v l).map pK).sum=pK (k,v)+(l.map pK).sum:=by
  intro k v l
  induction l with
  | nil=>simp[putK]
  | cons q r ih=>
   unfold putK
   split
   ·simp
   ·rw[List.map_cons,List.sum_cons,ih,List.map_cons,List.sum_cons];omega
 induction z with
 | nil=>rfl
 | cons q r ih=>rw[fT,put,ih,List.map_cons,List.sum_cons]
theorem Q3:∀(d:Nat) (j:J),goodJ d j=true->smallJ d j=true->(aY (ord j)).length+1<=3000000*uf d j
 | 0,j,h,_=>by unfold goodJ at h;cases h
 | d+1,.mk k i t ks l,hg,KC=>by
  obtain⟨m,G,I⟩:=iF hg;obtain⟨u,c⟩:=XL hg;unfold smallJ at KC;simp only[Bool.and_eq_true,decide_eq_true_eq,List.all_eq_true]at KC;obtain⟨F,H,z,_,A⟩:=KC;have x:(l.map fun j=>(aY (ord j)).length+1).sum<=3000000*(l.map (uf d)).sum:=by
   rw[<-zaC];exact XN fun j f=>Q3 d j (List.all_eq_true.1 m j f) (A j f)
  unfold uf;rw[Nat.mul_add]
  rcases u with rfl| rfl| rfl| rfl| rfl| rfl
  ·rw[ord,if_neg (by decide),aY,if_pos rfl];simp only[List.length_cons,List.length_nil];omega
  ·rw[ord,if_neg (by decide),aY,if_neg (by decide),if_pos rfl]
   split<;>simp only[List.length_cons,List.length_nil]<;>omega
  ·rw[ord,if_neg (by decide),aY,if_neg (by decide),if_neg (by decide),if_pos rfl];have:=Lib.itoa_length_le i (by have:=c rfl;omega) (by have:=c rfl;omega);unfold vU;rw[List.length_map];omega
  ·rw[ord,if_neg (by decide),aY,if_neg (by decide),if_neg (by decide),if_neg (by decide),if_pos rfl];have:=Gl t F;omega
  ·rw[ord,if_neg (by decide),aY,if_neg (by decide),if_neg (by decide),if_neg (by decide),if_neg (by decide),if_pos rfl];have:=Lt (ordL l) true;rw[XO]at this;simp only[List.length_cons,List.length_append,List.length_nil];omega
  ·rw[ord,if_pos rfl];unfold mapOf;rw[aY,if_neg (by decide),if_neg (by decide),if_neg (by decide),if_neg (by decide),if_neg (by decide),if_pos rfl];have h1:=Ls (fT (ks.zip (ordL l))) true;rw[Ug]at h1;have h2:=Q0 ks l fun k E=>z k E;simp only[List.length_cons,List.length_append,List.length_nil];omega
theorem mU:∀(d e:Nat) (j:J),d<=e->smallJ e j=true->smallJ d j=true
 | 0,_,_,_,_=>by unfold smallJ;rfl
 | d+1,0,_,h,_=>by omega
 | d+1,e+1,.mk k i t ks l,h,hs=>by
  unfold smallJ at hs ⊢;simp only[Bool.and_eq_true,List.all_eq_true]at hs ⊢;exact⟨hs.1,hs.2.1,hs.2.2.1,hs.2.2.2.1,fun x c=>mU d e x (by omega) (hs.2.2.2.2 x c)⟩
theorem Lu:∀(d e:Nat) (j:J),d<=e->uf d j<=uf e j
 | 0,_,_,_=>by unfold uf;omega
 | d+1,0,_,h=>by omega
 | d+1,e+1,.mk k i t ks l,h=>by
  unfold uf;have:=XN (l:=l) fun j _=>Lu d e j (by omega);omega
theorem yF:∀(d:Nat) (j:J),smallJ d j=true->szJ d j=true
 | 0,_,_=>by unfold szJ;rfl
 | d+1,.mk k i t ks l,hs=>by
  unfold smallJ at hs;unfold szJ;simp only[Bool.and_eq_true,decide_eq_true_eq,List.all_eq_true]at hs ⊢;obtain⟨m,u,h,z,f⟩:=hs;exact⟨by omega,by omega,fun x c=>by have:=h x c;omega,by omega,fun x c=>yF d x (f x c)⟩
open Go Go.RowKit
def Gm(w:World)(base:Nat)(v:Value)(L:List Int):Prop:=
 ∃g cap cur fz,v=.slice (some ⟨g,0,none⟩) L.length cap/\base<=g/\w.heap[g]?=some (.cells cur 5 fz)/\(fz.2=0\/ cur.size<=fz.1)/\L.length<=cap/\cap<=maxLen/\cur.size=cap/\cur.toList.take L.length=L.map (Value.int .u8)
section
variable {w : World} {base : Nat} {v : Value} {L : List Int}
theorem Gm.cells(h:Gm w base v L):∃g cap,v=.slice (some ⟨g,0,none⟩) L.length cap/\∀j u,(L.map (Value.int .u8))[j]?=some u->w.cell? ((⟨g,0,none⟩:Addr).add j)=some u:=by
 obtain⟨g,cap,cur,fz,rfl,_,k,_,_,_,_,f⟩:=h;refine⟨g,cap,rfl,fun j u c=> ?_⟩;have d:(⟨g,0,none⟩:Addr).add j=⟨g,j,none⟩:=by unfold Addr.add;split<;>simp_all
 rw[<-f,List.getElem?_take]at c
 split at c
 ·rw[d,cell_of_row w g j cur 5 fz k];simpa using c
 ·cases c
theorem Gm.rd(h:Gm w base v L)(F:∀x∈L,0<=x/\x<=255):∃q c,v=.slice q L.length c/\Rd w.heap.size w q c L:=by
 obtain⟨g,cap,cur,fz,rfl,E,m,k,u,f,G,A⟩:=h;have d:=(Gm.cells (w:=w) (base:=base) (L:=L) ⟨g,cap,cur,fz,rfl,E,m,k,u,f,G,A⟩);obtain⟨I,H,e,d⟩:=d
 cases e
 refine⟨_,_,rfl,u,F,fun j z=>⟨_,rfl,(Array.getElem?_eq_some_iff.1 m).1, ?_⟩⟩;exact d j _ (by rw[List.getElem?_map,List.getElem?_eq_getElem z,List.getD_eq_getElem?_getD,List.getElem?_eq_getElem z];rfl)
end
theorem Uh(w:World)(s:ByteArray)(h:s.size<=1000000):∃v w',(convert 9 36 (.string s)).run Tryz.prog w=.ok v w'/\Gm w' w.heap.size v (ints s)/\Below w.heap.size w w':=by
 refine⟨_,_,Lib.run_convert_string_bytes (P:=Tryz.prog) w 9 36 5 s Tryz.underlying9 Tryz.underlying36 Tryz.underlying5, ?_, ?_⟩
 ·have f:=grownCap_ge w s.size 0 5;have c:(Lib.bytesCells w 5 s).size=grownCap w s.size 0 5:=by
   unfold Lib.bytesCells;simp;have:s.data.size=s.size:=rfl;omega
  refine⟨w.heap.size,_,_,_,by rw[ax],Nat.le_refl _,Lib.bytesWorld_at_new w 5 s,.inr (Nat.le_refl _),by rw[ax];exact f,grownCap_le_maxLen w s.size 0 5 (by unfold maxLen;omega),c, ?_⟩;rw[ax];unfold Lib.bytesCells;simp only[Array.toList_append,Array.toList_map];have e:s.size=(s.data.toList.map fun b=>Value.int .u8 (b.toNat:Int)).length:=by simp
  rw[e,List.take_left,ints,List.map_map]
  rfl
 ·exact⟨rfl,rfl,rfl,by rw[Lib.bytesWorld_size];omega,fun k d=>Lib.bytesWorld_at_old w 5 s k d⟩
open Go.RowKit
def XP(w':World)(j:J)(x:Ending):Prop:=
 (goodJ 12 j=false->x=.returned (.tuple #[.slice none 0 0,.int .i64 1]))∧
 (goodJ 12 j=true->16384<(aY (ord j)).length->x=.returned (.tuple #[.slice none 0 0,.int .i64 13]))∧
 (goodJ 12 j=true->(aY (ord j)).length<=16384->∃q c,x=.returned (.tuple #[.slice q (aY (ord j)).length c,.int .i64 0])/\Rd w'.heap.size w' q c (aY (ord j)))
theorem Iu{w:World}{O:Nat->Prop}{j:J}{k i:Int}{t:ByteArray}{pk pl:Option Addr}{nk ck nl cl:Nat}(hO:∀x,O x->x<w.heap.size)(F:szJ 12 j=true)(YV:goodJ 12 j=true->(aY (ord j)).length<=6000000000)
    (hj:isJ O w j [.int .i64 k,.int .i64 i,.string t,.slice pk nk ck,.slice pl nl cl]):
    Calls Tryz.prog 54 #[.agg #[.int .i64 k,.int .i64 i,.string t,.slice pk nk ck,.slice pl nl cl]] w fun x w'=>XP w' j x/\Below w.heap.size w w':=by
 obtain⟨wB,A⟩:∃wB,wB=w.alloc (.cells #[.int .i64 k,.int .i64 i,.string t,.slice pk nk ck,.slice pl nl cl] 25):=⟨_,rfl⟩;have G:Below w.heap.size w wB:=by rw[A];exact(Below.refl _ _).alloc (Nat.le_refl _) _
 have hA:wB.heap[w.heap.size]?=some (.cells #[.int .i64 k,.int .i64 i,.string t,.slice pk nk ck,.slice pl nl cl] 25 (0,0)):=by rw[A];exact heap_alloc_new _ _
 have FM:w.heap.size<wB.heap.size:=(Array.getElem?_eq_some_iff.1 hA).1;have u:∀x,O x->x<wB.heap.size:=fun x d=>Nat.lt_of_lt_of_le (hO x d) G.size;have Mi:=hj.carry (O':=O) (w':=wB) fun x d=>⟨d,G.block x (hO x d)⟩;have E:=rz u F Mi;rw[A]at E
 cases hg:goodJ 12 j with
 | false=>
  rw[hg]at E;go_enter Tryz.func54,Tryz.ntmps54;go_wp2_with(go_at_call 17;refine E.mono ?_;rintro x I ⟨rfl,c⟩);rw[<-A]at c;go_ret2;exact⟨⟨fun _=>rfl,fun h=>(by rw[hg]at h;cases h),fun h=>(by rw[hg]at h;cases h)⟩,ae G c⟩
 | true=>
  have m:Hid (goodJ 12 j=true):=hg;rw[hg]at E;have N_:Hid ((aY (ord j)).length<=6000000000):=YV hg;clear hg;obtain⟨S,hS⟩:∃S,strOfNums (aY (ord j))=S:=⟨_,rfl⟩;have U:Hid (strOfNums (aY (ord j))=S):=hS;have QR:S.size=(aY (ord j)).length:=by rw[<-hS,fZ]
  clear hS
  by_cases lC:16384<(aY (ord j)).length
  ·have Y:Hid (16384<(aY (ord j)).length):=lC;have hzi:(16384:Int)<(S.size:Int):=by omega
   clear lC QR;go_enter Tryz.func54,Tryz.ntmps54;go_wp2_with(first
    | (go_at_call 17;refine E.mono ?_;rintro x I ⟨rfl,c⟩
       rw[<-A]at c;have xi:=(c.block w.heap.size FM).trans hA;obtain⟨c0,c1,c2,c3,c4⟩:=aj xi;have f:=QX 12 I O j k i t pk pl nk ck nl cl (fun x d=>Nat.lt_of_lt_of_le (u x d) c.size) m.out F (Mi.carry fun x d=>⟨d,c.block x (u x d)⟩))
    | (go_at_call 34;refine f.mono ?_;rintro x w3 ⟨⟨Z,ir,tr,pr,nr,V,qr,mr,T,rfl,K⟩,H⟩
       clear f;have z:=Px 12 w3 (fun b=>b<w3.heap.size) (ord j) Z ir tr pr qr nr V mr T (fun _ h=>h) (G9 m.out F) (by have:=N_.out;omega) (K.carry fun b X=>⟨X.elim (fun h=>Nat.lt_of_lt_of_le (u b h) (Nat.le_trans c.size H.size)) (fun h=>h.2),rfl⟩);rw[U.out]at z)
    | (go_at_call 88;refine z.mono ?_;rintro x w4 ⟨rfl,eQ⟩
       clear z))
   go_ret2;exact⟨⟨fun h=>(by rw[m.out]at h;cases h),fun _ _=>rfl,fun _ h=>absurd Y.out (by omega)⟩,ae G (ae c (ae H eQ))⟩
  ·have Y:Hid ((aY (ord j)).length<=16384):=by show _<=_;omega
   have hzi:¬(16384:Int)<(S.size:Int):=by omega
   have N:Hid (S.size<=16384):=by show _<=_;omega
   clear lC QR;go_enter Tryz.func54,Tryz.ntmps54;go_wp2_with(first
    | (go_at_call 17;refine E.mono ?_;rintro x I ⟨rfl,c⟩
       rw[<-A]at c;have xi:=(c.block w.heap.size FM).trans hA;obtain⟨c0,c1,c2,c3,c4⟩:=aj xi;have f:=QX 12 I O j k i t pk pl nk ck nl cl (fun x d=>Nat.lt_of_lt_of_le (u x d) c.size) m.out F (Mi.carry fun x d=>⟨d,c.block x (u x d)⟩))
    | (go_at_call 34;refine f.mono ?_;rintro x w3 ⟨⟨Z,ir,tr,pr,nr,V,qr,mr,T,rfl,K⟩,H⟩
       clear f;have z:=Px 12 w3 (fun b=>b<w3.heap.size) (ord j) Z ir tr pr qr nr V mr T (fun _ h=>h) (G9 m.out F) (by have:=N_.out;omega) (K.carry fun b X=>⟨X.elim (fun h=>Nat.lt_of_lt_of_le (u b h) (Nat.le_trans c.size H.size)) (fun h=>h.2),rfl⟩);rw[U.out]at z)
    | (go_at_call 88;refine z.mono ?_;rintro x w4 ⟨rfl,eQ⟩
       clear z;obtain⟨v,w5,hcv,hf,oP⟩:=Uh w4 S (by have:=N.out;omega);rw[<-U.out,xD _ (CE 12 (ord j) (ig 12 j m.out))]at hf;obtain⟨q5,c5,rfl,zgP⟩:=hf.rd (CE 12 (ord j) (ig 12 j m.out));clear hf))
   go_ret2;exact⟨⟨fun h=>(by rw[m.out]at h;cases h),fun _ h=>absurd Y.out (by omega),fun _ _=>⟨q5,c5,rfl,zgP⟩⟩,ae G (ae c (ae H (ae eQ oP)))⟩
open Go.RowKit Go.Maps
theorem Gn{e:Ev}(c:aO e=true):aY (ord (dW (gJ e)))=tZ e:=by
 have h1:=TM c;have h2:=ig 12 _ (g_ c);unfold dX at h1;rw[if_pos h2]at h1;unfold tZ;rw[<-Xg c,h1]
theorem Lv{e:Ev}(h:Ee e)(c:aO e=true):Ee (gJ e):=
 ⟨h.room,h.aU,h.ai,h.key,h.hash,Ic 12 _ (oq (jU (iG c).2.2.1).1) h.cont,h.prev,h.Wi,h.aA,h.Wj,h.sigs,h.Qw⟩
theorem Lx{O:Nat->Prop}(e:Ev)(p:Pt)(w:World)(hE:mY O w e p)(j:∀k,O k->k<w.heap.size)(Z:Ee e)(hr:e.room.size<=1000000)(hu:e.ai.size<=1000000)(X:e.sigs.length<=90000)(u:(tZ e).length<=6000000000):
    Calls Tryz.prog 23 #[fA e p] w fun x w'=>x=.returned (.int .i64 (dR e))/\Below w.heap.size w w':=by
 obtain⟨WB,d⟩:∃WB,WB=w.alloc (.cells (iN e p).toArray 29):=⟨_,rfl⟩;have Y:Below w.heap.size w WB:=by rw[d];exact(Below.refl _ _).alloc (Nat.le_refl _) _
 have z:WB.heap[w.heap.size]?=some (.cells (iN e p).toArray 29 (0,0)):=by rw[d];exact heap_alloc_new _ _
 have EP:w.heap.size<WB.heap.size:=by rw[d];simp
 have F:=Gc e p WB (hE.below j Y) (fun k hk=>Nat.lt_of_lt_of_le (j k hk) Y.size) Z hr hu;have oo:Hid (Below w.heap.size w WB):=Y;have I:Hid (aO e=true->∀W,Below WB.heap.size WB W->Calls Tryz.prog 22 #[fA e p] W fun x w'=>(∃G K U N V E S H A,x=.returned (.agg #[.int .i64 G,.int .i64 K,.string U,.slice N V E,.slice S H A])/\Calls Tryz.prog 54 #[.agg #[.int .i64 G,.int .i64 K,.string U,.slice N V E,.slice S H A]] w' fun y w2=>(∃q n c,y=.returned (.tuple #[.slice q n c,.int .i64 (dR e)]))/\Below w'.heap.size w' w2)/\Below W.heap.size W w'):=fun f W hW=>by
  have hb:=ae Y hW;refine(Gi e p W (hE.below j hb) (fun k hk=>Nat.lt_of_lt_of_le (j k hk) hb.size) Z X (oq (jU (iG f).2.2.1).1)).mono ?_;rintro x w' ⟨⟨G,K,U,N,V,E,S,H,A,rfl,hj⟩,Bh⟩;refine⟨⟨G,K,U,N,V,E,S,H,A,rfl, ?_⟩,Bh⟩;refine(Iu (fun q hq=>hq.elim (fun h=>Nat.lt_of_lt_of_le (j q h) (ae hb Bh).size) fun h=>h.2) (Bz (Lv Z f)) (fun _=>by rw[Gn f];exact u) hj).mono ?_;rintro y w2 ⟨⟨_,h2,h3⟩,bO⟩;refine⟨?_,bO⟩;have hg:goodJ 12 (dW (gJ e))=true:=g_ (nD f);rw[Gn f]at h2 h3;unfold dR;rw[if_pos f]
  by_cases u:16384<(tZ e).length
  ·rw[if_pos u];exact⟨_,_,_,h2 hg u⟩
  ·rw[if_neg u];obtain⟨q,c,h,_⟩:=h3 hg (by omega);exact⟨_,_,_,h⟩
 have HN:Hid (aO e=false->dR e=50):=fun h=>by unfold dR;rw[if_neg (by rw[h];decide)]
 generalize dR e=n at I HN ⊢;generalize hse:aO e=b at F I HN;clear hse hE j Z hr hu X u;obtain⟨room,aU,ai,st,key,⟨k,i,t,ks,l⟩,prev,aA,depth,ts,hash,sigs⟩:=e;obtain⟨pk,ck,pl,cl,pp,cp,pa,ca,ps,cs⟩:=p;simp only[fA,iN,J.kind,J.int,J.text,J.keys,J.list]at d z F I ⊢
 cases b with
 | false=>
  have hn:=HN.out rfl;subst hn;go_enter Tryz.func23,Tryz.ntmps23
  go_upto_region 1 with fail
  rw[<-d];clear d;go_wp2_with(first
   | (refine dB rfl _ rfl rfl z ?_)
   | (go_at_call 21;refine F.mono ?_;rintro x w1 ⟨rfl,T⟩))
  go_ret;exact⟨rfl,ae oo.out T⟩
 | true=>
  have HJ':Hid _:=I.out rfl;clear I;go_enter Tryz.func23,Tryz.ntmps23
  go_upto_region 1 with fail
  rw[<-d];clear d;go_wp2_with(first
   | (refine dB rfl _ rfl rfl z ?_)
   | (go_at_call 21;refine F.mono ?_;rintro x w1 ⟨rfl,T⟩
      have Bt:=(T.block w.heap.size (by omega)).trans z;have hJ:=HJ'.out w1 T;clear z F)
   | (refine dB rfl _ rfl rfl Bt ?_)
   | (go_at_call 22;refine hJ.mono ?_;rintro x w2 ⟨⟨G,K,U,N,V,E,S,H,A,rfl,hEn⟩,bO⟩)
   | (go_at_call 54;refine hEn.mono ?_;rintro x w3 ⟨⟨q,m,c,rfl⟩,dh⟩))
  go_ret;exact⟨rfl,ae oo.out (ae T (ae bO dh))⟩
theorem DR{d:Nat}(c:∀j,goodJ d j=true->smallJ d j=true->smallJ d (ord j)=true):∀l:List J,l.all (goodJ d)=true->l.all (smallJ d)=true->(ordL l).all (smallJ d)=true
 | [],_,_=>rfl
 | j::r,hg,hs=>by
  rw[List.all_cons,Bool.and_eq_true]at hg hs;rw[ordL,List.all_cons,c j hg.1 hs.1,DR c r hg.2 hs.2]
  rfl
theorem zN:∀(d:Nat) (j:J),goodJ d j=true->smallJ d j=true->smallJ d (ord j)=true
 | 0,j,_,_=>by unfold smallJ;rfl
 | d+1,.mk k i t ks l,hg,hs=>by
  obtain⟨F,G,K⟩:=iF hg;unfold smallJ at hs;simp only[Bool.and_eq_true,decide_eq_true_eq]at hs;obtain⟨H,I,u,A,E⟩:=hs;have f:=DR (zN d) l F E
  by_cases h5:k=5
  ·subst h5;have z:ks.length=(ordL l).length:=by rw[dI];exact(G rfl).1
   have h:=nu z;have m:=jg z;rw[ord,if_pos rfl];unfold mapOf smallJ;simp only[Bool.and_eq_true,decide_eq_true_eq];refine⟨by decide,by rw[h.length_eq];exact I, ?_,by rw[m.length_eq,dI];exact A, ?_⟩
   ·rw[List.all_eq_true]at u ⊢;exact fun x c=>u x (h.subset c)
   ·rw[List.all_eq_true]at f ⊢;exact fun x c=>f x (m.subset c)
  ·rw[ord,if_neg h5];unfold smallJ;simp only[Bool.and_eq_true,decide_eq_true_eq];exact⟨H,by simp,by rfl,by rw[dI];exact A,f⟩
theorem Py(d:Nat):smallJ d J.zero=true:=by cases d<;>rfl
theorem yG{j:J}(h:smallJ 12 j=true)(s:ByteArray):smallJ 11 (gq j s)=true:=by
 unfold gq gz
 cases e:lookJ (mg j) s with
 | none=>exact Py 11
 | some v=>
  have f:=BD e;obtain⟨p,d,rfl⟩:=List.mem_map.1 f;have c:=(List.of_mem_zip d).2;obtain⟨k,i,t,ks,l⟩:=j;unfold smallJ at h;simp only[Bool.and_eq_true,decide_eq_true_eq,List.all_eq_true]at h;exact h.2.2.2.2 _ c
theorem mV{d:Nat}{j:J}(h:smallJ (d+1) j=true):j.text.size<=2000/\j.keys.length<=200/\j.list.length<=2000:=by
 obtain⟨k,i,t,ks,l⟩:=j;unfold smallJ at h;simp only[Bool.and_eq_true,decide_eq_true_eq]at h;exact⟨h.1,h.2.1,h.2.2.2.1⟩
section
variable {P : Program} {dQ : Array Oper} {Q : Exit -> Act -> World -> Prop} {md : Region.Mode} {C : World -> Prop}
theorem kR{i:Nat}{o:Oper}{v:Value}{d:Option Tmp}{n:Nat}{listed:Array Bool}{a f:Act}{w:World}(u:dQ[i]?=some o)
    (m:∀w,C w->(execOp a.eval o).run P w=.ok (.value v) w) (h:wpIn P md dQ Q C n (listed.setIfInBounds i true) f w)
    (A:a.put d v=f:=by(go_frame;rfl)) (k:o.dst=d:=by rfl) (x:Region.wanted o (yielded dQ a.tmps)=true:=by rfl)
    (F:Region.noSelect dQ=true:=by kernel_rfl) (E:Region.free md dQ listed i=true:=by kernel_rfl) (j:(Region.ready md dQ listed).contains i=true:=by kernel_rfl)
    (z:∀c a w,Q (.panic c) (a.put d v) w->Q (.panic c) a w:=by exact fun _ _ _ h=>h):wpIn P md dQ Q C (n+1) listed a w:=
 vg u k F E j z (Or.inl ⟨x,m⟩) A h
theorem pM{v:Value}{d:Option Tmp}{n:Nat}{listed:Array Bool}{a c:Act}{w:World}(h:wpIn P md dQ Q C n listed c w)(f:a.put d v=c:=by(go_frame;rfl)):wpIn P md dQ Q C n listed (a.put d v) w:=by
 rw[f];exact h
end
theorem LA{w:World}{b:Nat}{t:TypeId}{u0 u1 u2 u3 u4:Value}(h:w.heap[b]?=some (.cells #[u0,u1,u2,u3,u4] t (0,0))):(Instr.loadAt 25 (.pointer (some ⟨b,0,none⟩))).run Tryz.prog w=.ok (.agg #[u0,u1,u2,u3,u4]) w:=by
 obtain⟨c,d,j,f,k⟩:=aj h;simp[Instr.loadAt,go_sem,c,d,j,f,k]
theorem bV{w:World}{dQ:Array Oper}{rest:List Oper}{o:Oper}{a:Act}{Q:Exit->Act->World->Prop}{b:Nat}{t:TypeId}{u0 u1 u2 u3 u4:Value}(d:Region.wanted o (yielded dQ a.tmps)=true)(m:Operand)(c:o.op=Op.load 25 m)(j:a.eval m=.pointer (some ⟨b,0,none⟩))(h:w.heap[b]?=some (.cells #[u0,u1,u2,u3,u4] t (0,0)))
    (f:wpList Tryz.prog dQ Q rest (a.put o.dst (.agg #[u0,u1,u2,u3,u4])) w):wpList Tryz.prog dQ Q (o::rest) a w:=by
 have k:=LA h;simp only[wpList,d,if_true];refine Or.inl ?_;unfold Oper.wp;simp[execOp,c,j,k,Result.andThen];exact f
theorem Iw{a:Act}{o:Oper}{m:Operand}{b:Nat}{w:World}{v:Value}(c:o.op=Op.load 25 m)(f:a.eval m=.pointer (some ⟨b,0,none⟩))(d:(Instr.loadAt 25 (.pointer (some ⟨b,0,none⟩))).run Tryz.prog w=.ok v w):(execOp a.eval o).run Tryz.prog w=.ok (.value v) w:=by
 simp[execOp,c,f,d]
theorem uY{a:Act}{o:Oper}{m:Operand}{b:Nat}{w:World}{v:Value}(c:o.op=Op.load 29 m)(f:a.eval m=.pointer (some ⟨b,0,none⟩))(d:(Instr.loadAt 29 (.pointer (some ⟨b,0,none⟩))).run Tryz.prog w=.ok v w):(execOp a.eval o).run Tryz.prog w=.ok (.value v) w:=by
 simp[execOp,c,f,d]
theorem Pz(w:World)(u x:ByteArray):(Instr.buildSlice 27 1 #[(0,.agg #[.string u,.string x])]).run Tryz.prog w=.ok (.slice (some ⟨w.heap.size,0,none⟩) 1 1) (w.alloc (.cells #[.string u,.string x] 53)):=by kernel_rfl
theorem Gp{op:Oper}{a:Act}{w:World}{K:Act->World->Prop}{Q:Exit->Act->World->Prop}(x:Operand)(j:op.op=.buildSlice 27 1 #[(0,x)]){d:Option Tmp}(f:op.dst=d)(u t:ByteArray)(c:a.eval x=.agg #[.string u,.string t])
    (h:K (a.put d (.slice (some ⟨w.heap.size,0,none⟩) 1 1)) (w.alloc (.cells #[.string u,.string t] 53))):op.wp Tryz.prog a w K Q:=by
 subst f;unfold Oper.wp;simp[execOp,j,c,Pz,Result.andThen];exact h
theorem Ui(w:World)(b o:Nat)(v:Value)(h:w.cell? ⟨b,o,none⟩=some v):(Instr.loadAt 27 (.pointer (some ⟨b,o,none⟩))).run Tryz.prog w=.ok v w:=by
 simp[Instr.loadAt,go_sem,h]
theorem LB{op:Oper}{a:Act}{w:World}{K:Act->World->Prop}{Q:Exit->Act->World->Prop}(x:Operand)(k:op.op=.load 27 x){d:Option Tmp}(j:op.dst=d)(b o:Nat)(v:Value)(c:a.eval x=.pointer (some ⟨b,o,none⟩))(f:w.cell? ⟨b,o,none⟩=some v)
    (h:K (a.put d v) w):op.wp Tryz.prog a w K Q:=by
 subst j;unfold Oper.wp;simp[execOp,k,c,Ui w b o v f,Result.andThen];exact h
theorem Gq{w:World}{op:Oper}{a:Act}{K:Act->World->Prop}{Q:Exit->Act->World->Prop}(s x:Operand)
    (A:op.op=.call {callee:=.builtin .append,args:=#[s,x],argTypes:=#[27,27]}) {d:Option Tmp} (f:op.dst=d)
    (base:Nat) (v:Value) (n:Nat) (xs:List Value) (I:a.eval s=v) (G:w.ownsRow base 53 2 v n xs)
    (b:Nat) (u t:ByteArray) (H:a.eval x=.slice (some ⟨b,0,none⟩) 1 1) (k:w.heap[b]?=some (.cells #[.string u,.string t] 53 (0,0)))
    (E:n<=1000000) (F:base<=w.heap.size)
    (h:∀c w',w'.ownsRow base 53 2 c (n+1) (xs++ [.string u,.string t])->w.grownBy w' v.ownBlock->(c.ownBlock=v.ownBlock\/ c.ownBlock=some w.heap.size)->K (a.put d c) w'):op.wp Tryz.prog a w K Q:=by
 subst f;exact aP s x 27 A base 53 (.agg #[.string ⟨#[]⟩,.string ⟨#[]⟩]) 2 32 Tryz.underlying27 Tryz.QA rfl (by decide) (by decide) v n xs I G _ [.string u,.string t] H rfl (fun j z m=>by
  have e:(⟨b,0,none⟩:Addr).add j=⟨b,j,none⟩:=by unfold Addr.add;split<;>simp_all
  rw[e];exact aQ (cur:= [_,_]) k j z m) (QB u t) E F h
end Go.Proofs.YtldkblgclochjaaGreatDoor

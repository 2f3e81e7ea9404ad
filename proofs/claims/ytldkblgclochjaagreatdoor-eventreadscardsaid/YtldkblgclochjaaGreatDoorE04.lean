/- A part. -/
import Derived.Test.YtldkblgclochjaaGreatDoorE03
set_option maxRecDepth 100000
set_option maxHeartbeats 16000000
namespace Go.Proofs.YtldkblgclochjaaGreatDoor
open Go.RowKit
theorem MH{w:World}{R p:Nat}{s:ByteArray}{e l:Int}(d:fw w R s p e l)(u:p<=20000)(b c:Int)(h:ah (ints s) (p+1)=b)
    (f:(b=34/\c=34)\/ (b=92/\c=92)\/ (b=47/\c=47)\/ (b=98/\c=8)\/ (b=102/\c=12)\/ (b=110/\c=10)\/ (b=114/\c=13)\/ (b=116/\c=9)):
    Calls Tryz.prog 144 #[.pointer (some ⟨R,0,none⟩)] w fun x w'=>BZ w w' R s (.ok c (p+2)) x:=by
 have c1:=d.c1;have z:=d.fz 1;have k:fw (w.setCell ⟨R,1,none⟩ (.int .i64 ((p:Int)+2))) R s (p+2) e l:=d.at (p+2);have m:ag (One R) w (w.setCell ⟨R,1,none⟩ (.int .i64 ((p:Int)+2))):=fw.setAt w R (p+2);have j:=iK d (p+1);rw[h]at j;clear h
 rcases f with⟨rfl,rfl⟩| ⟨rfl,rfl⟩| ⟨rfl,rfl⟩| ⟨rfl,rfl⟩| ⟨rfl,rfl⟩| ⟨rfl,rfl⟩| ⟨rfl,rfl⟩| ⟨rfl,rfl⟩
 all_goals
  go_enter Tryz.func144,Tryz.ntmps144;go_wp2_with(go_at_call 141;refine j.mono ?_;rintro x w' ⟨rfl,rfl⟩);go_ret2;exact⟨rfl,⟨_,_,k⟩,m⟩
theorem MJ{w:World}{R p:Nat}{s:ByteArray}{e l:Int}(f:fw w R s p e l)(z:p<=20000):
    Calls Tryz.prog 144 #[.pointer (some ⟨R,0,none⟩)] w fun x w'=>BZ w w' R s (escape (ints s) p) x:=by
 have one:=fun b c F m=>MH f z b c F m;unfold escape;simp only
 split
 ·rename_i h
  rcases h with h| h| h
  ·rw[h];exact one 34 34 h (by simp)
  ·rw[h];exact one 92 92 h (by simp)
  ·rw[h];exact one 47 47 h (by simp)
 split
 ·rename_i h;exact one 98 8 h (by simp)
 split
 ·rename_i h;exact one 102 12 h (by simp)
 split
 ·rename_i h;exact one 110 10 h (by simp)
 split
 ·rename_i h;exact one 114 13 h (by simp)
 split
 ·rename_i h;exact one 116 9 h (by simp)
 have c1:=f.c1;have j:=iK f (p+1)
 split
 ·rename_i h;rw[h]at j;have k:=RA f z
  cases d:lg (ints s) p with
  | ok c q=>
   rw[d]at k;go_enter Tryz.func144,Tryz.ntmps144;go_wp2_with(first
    | (go_at_call 141;refine j.mono ?_;rintro x w' ⟨rfl,rfl⟩)
    | (go_at_call 164;refine k.mono ?_;rintro x A ⟨rfl,u⟩))
   go_ret2;exact⟨rfl,u⟩
  | bad e' l'=>
   rw[d]at k;go_enter Tryz.func144,Tryz.ntmps144;go_wp2_with(first
    | (go_at_call 141;refine j.mono ?_;rintro x w' ⟨rfl,rfl⟩)
    | (go_at_call 164;refine k.mono ?_;rintro x A ⟨rfl,u⟩))
   go_ret2;exact⟨rfl,u⟩
 ·rename_i h1 h2 h3 h4 h5 h6 h7;obtain⟨c,d⟩:∃c,ah (ints s) (p+1)=c:=⟨_,rfl⟩;rw[d]at h1 h2 h3 h4 h5 h6 h7 j;have G:¬c=34:=fun h=>h1 (.inl h);have I:¬c=92:=fun h=>h1 (.inr (.inl h));have K:¬c=47:=fun h=>h1 (.inr (.inr h));clear h1 d one;go_enter Tryz.func144,Tryz.ntmps144;go_wp2_with(first
   | (go_at_call 141;refine j.mono ?_;rintro x w' ⟨rfl,rfl⟩)
   | (go_at_call 92;refine(gN f 11 ((p+1:Nat):Int)).mono ?_;rintro x A ⟨rfl,H,E⟩))
  go_ret2;exact⟨rfl,⟨_,H⟩,E⟩
theorem B_(c:Int)(w:World):Calls Tryz.prog 120 #[.int .u8 c] w fun x w'=>x=.returned (.bool (oC c))/\w=w':=by
 by_cases h:c=91\/ c=123\/ c=34\/ c=110\/ c=116\/ c=102\/ c=45
 ·have d:oC c=true:=by unfold oC;simp;omega
  rw[d]
  rcases h with rfl| rfl| rfl| rfl| rfl| rfl| rfl
  all_goals
   go_enter Tryz.func120,Tryz.ntmps120;go_wp2;go_ret;exact⟨rfl,rfl⟩
 ·have d:oC c=df c:=by
    unfold oC;rw[Bool.eq_iff_iff];simp;omega
  have k:¬c=91:=by omega
  have f:¬c=123:=by omega
  have g3:¬c=34:=by omega
  have g4:¬c=110:=by omega
  have m:¬c=116:=by omega
  have u:¬c=102:=by omega
  have j:¬c=45:=by omega
  rw[d];clear h d;go_enter Tryz.func120,Tryz.ntmps120;go_wp2_with(go_at_call 142;refine(eX c _).mono ?_;rintro x w' ⟨rfl,rfl⟩);go_ret;exact⟨rfl,rfl⟩
def xK(w w':World)(R:Nat)(s:ByteArray)(r:Res Unit)(x:Ending):Prop:=match r with
 | .ok _ q=>x=.returned (.bool true)/\oU w w' R s q
 | .bad e l=>x=.returned (.bool false)/\zY w w' R s e l
theorem RB{t:List Int}{u:ByteArray}{k p:Nat}(d:k<u.size):word t ((ints u).drop k) p=(qz t (u[k].toNat:Int) p).bind fun _ q=>word t ((ints u).drop (k+1)) q:=by
 have c:k<(ints u).length:=by rw[ax];exact d
 have e:(ints u).drop k=(u[k].toNat:Int)::(ints u).drop (k+1):=by
  rw[List.drop_eq_getElem_cons c]
  congr 1
  have:=dS u k d;rw[List.getD_eq_getElem?_getD,List.getElem?_eq_getElem c]at this;exact this
 rw[e]
 rfl
theorem Ca{w:World}{R p:Nat}{s:ByteArray}{e l:Int}(z:fw w R s p e l)(I:p<=17000)(u:ByteArray)(K:u.size<=10):
    Calls Tryz.prog 121 #[.pointer (some ⟨R,0,none⟩),.string u] w fun x w'=>xK w w' R s (word (ints s) (ints u) p) x:=by
 go_enter Tryz.func121,Tryz.ntmps121;go_wp2
 go_loopw [8] (fun i wr=>∃k:Nat,i=.int .i64 k/\k<=u.size/\word (ints s) ((ints u).drop k) (p+k)=word (ints s) (ints u) p/\oU w wr R s (p+k)) (fun i _=>u.size - (intOf i).toNat)
 case atStart=>exact⟨0,rfl,Nat.zero_le _,rfl,oU.refl z⟩
 case round=>
  obtain⟨k,rfl,N,E,⟨⟨S,T,c⟩,j⟩⟩:=hrel;have h:Hid (word (ints s) ((ints u).drop k) (p+k)=word (ints s) (ints u) p):=E;clear E z
  by_cases A:k<u.size
  ·have F:Hid (word (ints s) ((ints u).drop k) (p+k)=(qz (ints s) (u[k].toNat:Int) (p+k)).bind fun _ q=>word (ints s) ((ints u).drop (k+1)) q):=RB A
   by_cases d:ah (ints s) (p+k)=(u[k].toNat:Int)
   ·have m:Hid (qz (ints s) (u[k].toNat:Int) (p+k)=.ok () (p+k+1)):=by unfold qz;rw[if_pos d];rfl
    go_wp2_with(go_at_call 143;refine(qH c (by omega) _ d).mono ?_;rintro x H ⟨rfl,f⟩);go_roundw
    case rel=>exact⟨k+1,by go_num,A,by rw[<-h.out,F.out,m.out];rfl,oU.then ⟨⟨_,_,c⟩,j⟩ f⟩
    case measure=>simp[intOf];omega
   ·have m:Hid (qz (ints s) (u[k].toNat:Int) (p+k)=.bad 11 (p+k)):=by unfold qz;rw[if_neg d];rfl
    go_wp2_with(go_at_call 143;refine(vo c _ d).mono ?_;rintro x H ⟨rfl,f⟩);go_ret;rw[<-h.out,F.out,m.out];exact⟨rfl,oU.bad ⟨⟨_,_,c⟩,j⟩ f⟩
  ·obtain rfl:k=u.size:=by omega
   have G:Hid (word (ints s) ((ints u).drop u.size) (p+u.size)=.ok () (p+u.size)):=by
    rw[List.drop_eq_nil_of_le (by rw[ax];exact Nat.le_refl _)];rfl
   go_wp2;go_ret;rw[<-h.out,G.out];exact⟨rfl,⟨⟨_,_,c⟩,j⟩⟩
theorem RD{t:List Int}{p q:Nat}(j:p<=q)(h:df (ah t q)=true)(f:(t.drop p).takeWhile df=(t.drop p).take (q - p)++(t.drop q).takeWhile df):
    (t.drop p).takeWhile df=(t.drop p).take (q+1 - p)++(t.drop (q+1)).takeWhile df/\(t.drop p).take (q+1 - p)=(t.drop p).take (q - p)++ [ah t q]:=by
 have c:=bz (MC h);have e:t.drop q=t[q]::t.drop (q+1):=List.drop_eq_getElem_cons c;have g:ah t q=t[q]:=by unfold ah;rw[List.getD_eq_getElem?_getD,List.getElem?_eq_getElem c];rfl
 have d:(t.drop p).take (q+1 - p)=(t.drop p).take (q - p)++ [ah t q]:=by
  rw[show q+1 - p=(q - p)+1 by omega,List.take_add_one,List.getElem?_drop,show p+(q - p)=q by omega,List.getElem?_eq_getElem c,g]
  rfl
 refine⟨?_,d⟩;rw[f,d,e,List.takeWhile_cons,<-g,h];simp
theorem U2{t:List Int}{q:Nat}(h:df (ah t q)=false):(t.drop q).takeWhile df= []:=by
 cases hd:t.drop q with
 | nil=>rfl
 | cons c r=>
  rw[bG hd]at h;rw[List.takeWhile_cons,h]
  rfl
theorem P6(x:List Int)(h:∀c∈x,df c=true):0<=oD x/\oD x<=90071992547409919:=by
 unfold oD;have:∀(x:List Int) (n:Int),(∀c∈x,df c=true)->0<=n->n<=90071992547409919->0<=x.foldl (fun n c=>if n<=bI then n*10+(c - 48)else n) n/\x.foldl (fun n c=>if n<=bI then n*10+(c - 48)else n) n<=90071992547409919:=by
  intro x
  induction x with
  | nil=>intro n _ h0 h1;exact⟨h0,h1⟩
  | cons c x ih=>
   intro n f h0 h1;have j:=f c (by simp);unfold df at j;simp at j;rw[List.foldl_cons];refine ih _ (fun d k=>f d (by simp[k])) ?_ ?_
   ·split<;>omega
   ·split
    ·rename_i h;unfold bI at h;omega
    ·exact h1
 exact this x 0 h (by omega) (by omega)
theorem mG{w:World}{R p:Nat}{s:ByteArray}{e l:Int}(k:fw w R s p e l)(hs:short s)(hp:p<=s.size):
    Calls Tryz.prog 148 #[.pointer (some ⟨R,0,none⟩)] w fun x w'=>x=.returned (.int .i64 (digits (ints s) p).1)/\oU w w' R s (digits (ints s) p).2:=by
 unfold short at hs
 by_cases h0:ah (ints s) p=48
 ·have K:Hid (digits (ints s) p=(0,p+1)):=by unfold digits;rw[if_pos h0];rfl
  go_enter Tryz.func148,Tryz.ntmps148;go_wp2_with(go_at_call 146;refine(jO k (by omega) 48 h0).mono ?_;rintro x w1 ⟨rfl,kD⟩);go_ret;rw[K.out];exact⟨rfl,kD⟩
 ·have K:Hid (digits (ints s) p=(oD (((ints s).drop p).takeWhile df),p+(((ints s).drop p).takeWhile df).length)):=by unfold digits;rw[if_neg h0];rfl
  go_enter Tryz.func148,Tryz.ntmps148;go_wp2_with(go_at_call 146;refine(jl k 48 h0).mono ?_;rintro x w' ⟨rfl,rfl⟩)
  go_loopw [3] (fun v wr=>∃q:Nat,v=.int .i64 (oD (((ints s).drop p).take (q - p)))/\p<=q/\q<=s.size/\(∀c∈((ints s).drop p).take (q - p),df c=true)∧
      ((ints s).drop p).takeWhile df=((ints s).drop p).take (q - p)++((ints s).drop q).takeWhile df/\fw wr R s q e l/\ag (One R) w wr) (fun _ wr=>s.size - posOf R wr)
  case atStart=>exact⟨p,by rw[Nat.sub_self];rfl,Nat.le_refl _,hp,by rw[Nat.sub_self];simp,by rw[Nat.sub_self];simp,k,ag.refl _ _⟩
  case round=>
   obtain⟨q,rfl,H,hq,I,h,d,X⟩:=hrel;clear k;have F:=P6 _ I;have m:Hid (∀c∈((ints s).drop p).take (q - p),df c=true):=I;have j:Hid (((ints s).drop p).takeWhile df=((ints s).drop p).take (q - p)++((ints s).drop q).takeWhile df):=h;obtain⟨n,G⟩:∃n,oD (((ints s).drop p).take (q - p))=n:=⟨_,rfl⟩;rw[G]at F ⊢;have z:Hid (oD (((ints s).drop p).take (q - p))=n):=G;have ui:=j6 s q;clear I h G
   cases hd:df (ah (ints s) q)with
   | true=>
    have Y:q<s.size:=by
     have:=bz (MC hd);rw[ax]at this;exact this
    have hdg:48<=ah (ints s) q/\ah (ints s) q<=57:=by unfold df at hd;simpa using hd
    obtain⟨T,Z⟩:=RD H hd j.out;have N:Hid (((ints s).drop p).takeWhile df=((ints s).drop p).take (q+1 - p)++((ints s).drop (q+1)).takeWhile df):=T;have u:Hid (((ints s).drop p).take (q+1 - p)=((ints s).drop p).take (q - p)++ [ah (ints s) q]):=Z;have V:Hid (∀c∈((ints s).drop p).take (q+1 - p),df c=true):=by
     intro c f;rw[u.out]at f
     rcases List.mem_append.1 f with f| f
     ·exact m.out c f
     ·rw[List.mem_singleton.1 f];exact hd
    clear T Z;have c1:=d.c1;have f1:=d.fz 1;have A:fw (wr.setCell ⟨R,1,none⟩ (.int .i64 ((q:Int)+1))) R s (q+1) e l:=d.at (q+1);have HK:ag (One R) w (wr.setCell ⟨R,1,none⟩ (.int .i64 ((q:Int)+1))):=X.then (fw.setAt wr R (q+1));have U:=h_ A;have Rw:=h_ d
    by_cases hm:n<=9007199254740991
    ·have E:Hid (oD (((ints s).drop p).take (q+1 - p))=n*10+(ah (ints s) q - 48)):=by
       rw[u.out];unfold oD;rw[List.foldl_append];have:=z.out;unfold oD at this;rw[this]
       show(if n<=bI then n*10+(ah (ints s) q - 48)else n)=_
       rw[if_pos (by unfold bI;exact hm)]
     go_wp2_with(first
      | (go_at_call 119;refine(dZ d).mono ?_;rintro x w' ⟨rfl,rfl⟩)
      | (go_at_call 142;refine(eX _ _).mono ?_;rw[hd];rintro x w' ⟨rfl,rfl⟩))
     go_roundw
     case rel=>exact⟨q+1,by rw[E.out],by omega,Y,V.out,N.out,A,HK⟩
     case measure=>rw[U,Rw];omega
    ·have E:Hid (oD (((ints s).drop p).take (q+1 - p))=n):=by
       rw[u.out];unfold oD;rw[List.foldl_append];have:=z.out;unfold oD at this;rw[this]
       show(if n<=bI then n*10+(ah (ints s) q - 48)else n)=_
       rw[if_neg (by unfold bI;exact hm)]
     go_wp2_with(first
      | (go_at_call 119;refine(dZ d).mono ?_;rintro x w' ⟨rfl,rfl⟩)
      | (go_at_call 142;refine(eX _ _).mono ?_;rw[hd];rintro x w' ⟨rfl,rfl⟩))
     go_roundw
     case rel=>exact⟨q+1,by rw[E.out],by omega,Y,V.out,N.out,A,HK⟩
     case measure=>rw[U,Rw];omega
   | false=>
    have S:Hid (((ints s).drop p).takeWhile df=((ints s).drop p).take (q - p)):=by
     rw[j.out,U2 hd,List.append_nil];rfl
    go_wp2_with(first
     | (go_at_call 119;refine(dZ d).mono ?_;rintro x w' ⟨rfl,rfl⟩)
     | (go_at_call 142;refine(eX _ _).mono ?_;rw[hd];rintro x w' ⟨rfl,rfl⟩))
    go_ret;rw[K.out];refine⟨mW ?_, ?_⟩
    ·rw[S.out];exact z.out.symm
    ·rw[S.out];have cB:(((ints s).drop p).take (q - p)).length=q - p:=by
      rw[List.length_take,List.length_drop,ax];omega
     rw[cB,show p+(q - p)=q by omega];exact⟨⟨_,_,d⟩,X⟩
def flat(k i:Int)(t:ByteArray):Array Value:=#[.int .i64 k,.int .i64 i,.string t,.slice none 0 0,.slice none 0 0]
theorem ni(O:Nat->Prop)(w:World)(k i:Int)(t:ByteArray):isJ O w (.mk k i t [] []) (flat k i t).toList:=by
 unfold isJ flat;exact⟨none,0,none,0,rfl,j5.nil _ _,Nat.le_refl _,by unfold isJs;trivial⟩
def gH(w w':World):Nat->Prop:=fun k=>w.heap.size<=k/\k<w'.heap.size
def xL(w w':World)(R:Nat)(s:ByteArray)(r:Res J)(x:Ending):Prop:=match r with
 | .ok j q=>(∃k i t pk nk ck pl nl cl,x=.returned (.tuple #[.agg #[.int .i64 k,.int .i64 i,.string t,.slice pk nk ck,.slice pl nl cl],.bool true])/\isJ (gH w w') w' j [.int .i64 k,.int .i64 i,.string t,.slice pk nk ck,.slice pl nl cl])/\oU w w' R s q
 | .bad e l=>(∃k i t,x=.returned (.tuple #[.agg (flat k i t),.bool false]))/\zY w w' R s e l
theorem bW{w w':World}{R:Nat}{cs:Array Value}(c:ag (One R) (w.alloc (.cells cs 25)) w')(d:R<w.heap.size):w'.heap[w.heap.size]?=some (.cells cs 25 (0,0)):=by
 rw[c.block w.heap.size (by simp) (fun h=>by unfold One at h;omega)];exact heap_alloc_new _ _
section
variable {w : World} {b : Nat} {a0 a1 a2 a3 a4 : Value} {t : TypeId}
theorem rX(h:w.heap[b]?=some (.cells #[a0,a1,a2,a3,a4] t (0,0))):w.cell? ⟨b,0,none⟩=some a0:=aQ (cur:= [_,_,_,_,_]) h 0 _ rfl
theorem Bi(h:w.heap[b]?=some (.cells #[a0,a1,a2,a3,a4] t (0,0))):w.cell? ⟨b,1,none⟩=some a1:=aQ (cur:= [_,_,_,_,_]) h 1 _ rfl
theorem nS(h:w.heap[b]?=some (.cells #[a0,a1,a2,a3,a4] t (0,0))):w.cell? ⟨b,2,none⟩=some a2:=aQ (cur:= [_,_,_,_,_]) h 2 _ rfl
theorem fV(h:w.heap[b]?=some (.cells #[a0,a1,a2,a3,a4] t (0,0))):w.cell? ⟨b,3,none⟩=some a3:=aQ (cur:= [_,_,_,_,_]) h 3 _ rfl
theorem aZ(h:w.heap[b]?=some (.cells #[a0,a1,a2,a3,a4] t (0,0))):w.cell? ⟨b,4,none⟩=some a4:=aQ (cur:= [_,_,_,_,_]) h 4 _ rfl
theorem iU(h:w.heap[b]?=some (.cells #[a0,a1,a2,a3,a4] t (0,0)))(j:Nat):w.frozen? ⟨b,j,none⟩=false:=frozen_of_row w b j _ _ h
theorem aj(h:w.heap[b]?=some (.cells #[a0,a1,a2,a3,a4] t (0,0))):w.cell? ⟨b,0,none⟩=some a0/\w.cell? ⟨b,1,none⟩=some a1/\w.cell? ⟨b,2,none⟩=some a2/\w.cell? ⟨b,3,none⟩=some a3/\w.cell? ⟨b,4,none⟩=some a4:=⟨rX h,Bi h,nS h,fV h,aZ h⟩
theorem aN(h:w.heap[b]?=some (.cells #[a0,a1,a2,a3,a4] t (0,0))):w.frozen? ⟨b,0,none⟩=false/\w.frozen? ⟨b,1,none⟩=false/\w.frozen? ⟨b,2,none⟩=false/\w.frozen? ⟨b,3,none⟩=false/\w.frozen? ⟨b,4,none⟩=false:=⟨iU h 0,iU h 1,iU h 2,iU h 3,iU h 4⟩
def di(w:World)(b:Nat)(v0 v1 v2 v3 v4:Value):World:=((((w.setCell ⟨b,0,none⟩ v0).setCell ⟨b,1,none⟩ v1).setCell ⟨b,2,none⟩ v2).setCell ⟨b,3,none⟩ v3).setCell ⟨b,4,none⟩ v4
theorem aK(h:w.heap[b]?=some (.cells #[a0,a1,a2,a3,a4] t (0,0)))(v0 v1 v2 v3 v4:Value):(di w b v0 v1 v2 v3 v4).heap[b]?=some (.cells #[v0,v1,v2,v3,v4] t (0,0)):=by
 have h0:(w.setCell ⟨b,0,none⟩ v0).heap[b]?=some (.cells #[v0,a1,a2,a3,a4] t (0,0)):=by rw[heap_setCell_same w b 0 _ _ _ h];rfl
 have h1:((w.setCell ⟨b,0,none⟩ v0).setCell ⟨b,1,none⟩ v1).heap[b]?=some (.cells #[v0,v1,a2,a3,a4] t (0,0)):=by rw[heap_setCell_same _ b 1 _ _ _ h0];rfl
 have h2:(((w.setCell ⟨b,0,none⟩ v0).setCell ⟨b,1,none⟩ v1).setCell ⟨b,2,none⟩ v2).heap[b]?=some (.cells #[v0,v1,v2,a3,a4] t (0,0)):=by rw[heap_setCell_same _ b 2 _ _ _ h1];rfl
 have h3:((((w.setCell ⟨b,0,none⟩ v0).setCell ⟨b,1,none⟩ v1).setCell ⟨b,2,none⟩ v2).setCell ⟨b,3,none⟩ v3).heap[b]?=some (.cells #[v0,v1,v2,v3,a4] t (0,0)):=by rw[heap_setCell_same _ b 3 _ _ _ h2];rfl
 unfold di;rw[heap_setCell_same _ b 4 _ _ _ h3];rfl
theorem aI(w:World)(b:Nat)(v0 v1 v2 v3 v4:Value):ag (One b) w (di w b v0 v1 v2 v3 v4):=
 ag.setCell (ag.setCell (ag.setCell (ag.setCell (ag.setCell (ag.refl _ _) (fun _=>(rfl:b=b)) _) (fun _=>(rfl:b=b)) _) (fun _=>(rfl:b=b)) _) (fun _=>(rfl:b=b)) _) (fun _=>(rfl:b=b)) _
end
theorem Fb(t:List Int)(p:Nat):0<=(digits t p).1/\(digits t p).1<=90071992547409919:=by
 unfold digits
 split
 ·simp
 ·exact P6 _ fun c d=>List.all_eq_true.1 List.all_takeWhile c d
theorem kU{w:World}{R p:Nat}{s:ByteArray}{e l:Int}(hr:fw w R s p e l)(hs:short s)(hp:p<=s.size):
    Calls Tryz.prog 125 #[.pointer (some ⟨R,0,none⟩)] w fun x w'=>xL w w' R s (number (ints s) p) x:=by
 have fI:=hs;unfold short at fI;have Z:=hr.lt;have K:fw (w.alloc (.cells (flat 0 0 aH) 25)) R s p e l:=hr.bf (S:=fun _=>False) ((ag.refl _ _).alloc _) (fun h=>h);have U3:ag (One R) w (w.alloc (.cells (flat 0 0 aH) 25)):=(ag.refl _ _).alloc _;have c1:=K.c1;unfold flat aH at K U3 c1
 by_cases N:ah (ints s) p=45
 ·have bQ:p<s.size:=by have:=bz (t:=ints s) (p:=p) (by rw[N];decide);rw[ax]at this;exact this
  have hq:p+1<=s.size:=bQ;have HQ:Hid ((if ah (ints s) p=45 then p+1 else p)=p+1):=if_pos N
  cases hd:df (ah (ints s) (p+1))with
  | false=>
   have A:Hid (number (ints s) p=.bad 11 (p+1)):=by unfold number;rw[HQ.out,if_neg (by simp[hd])];rfl
   go_enter Tryz.func125,Tryz.ntmps125;go_wp2_with(first
    | (go_at_call 146;refine(jO K (by omega) 45 N).mono ?_;rintro x w1 ⟨rfl,⟨⟨e1,l1,j⟩,V⟩⟩;have d1:=j.c1)
    | (go_at_call 119;refine(dZ j).mono ?_;rintro x w' ⟨rfl,rfl⟩)
    | (go_at_call 142;refine(eX _ _).mono ?_;rw[hd];rintro x w' ⟨rfl,rfl⟩)
    | (go_at_call 92;refine(gN j 11 (((p+1):Nat):Int)).mono ?_;rintro x w3 ⟨rfl,iL,fB⟩;have G:=V.then fB;have k:=bW G Z;obtain⟨j0,j1,j2,j3,j4⟩:=aj k;obtain⟨z0,z1,z2,z3,z4⟩:=aN k))
   have h5:=aK k (.int .i64 0) (.int .i64 0) (.string ⟨#[]⟩) (.slice none 0 0) (.slice none 0 0);have d:ag (One w.heap.size) w3 _:=aI w3 w.heap.size (.int .i64 0) (.int .i64 0) (.string ⟨#[]⟩) (.slice none 0 0) (.slice none 0 0);unfold di at h5 d;obtain⟨F,T,I,X,U⟩:=aj h5;refine bodyPost_ret (v:=.tuple #[.agg #[.int .i64 0,.int .i64 0,.string ⟨#[]⟩,.slice none 0 0,.slice none 0 0],.bool false]) (by simp[results,Tryz.results125,go_sem,F,T,I,X,U]) rfl ?_;rw[A.out];refine⟨⟨0,0,aH,rfl⟩,⟨_,iL.bf d (fun h=>by unfold One at h;omega)⟩,(U3.then G).trans d (fun i hi h=>by unfold One at h;omega)⟩
  | true=>
   have hdg:=mG (w:=w) (R:=R) (p:=(p+1)) (s:=s) (e:=e) (l:=l);have nL:=wT hd;obtain⟨n,u,Y⟩:∃n u,digits (ints s) (p+1)=(n,u):=⟨_,_,rfl⟩;have hnb:0<=n/\n<=90071992547409919:=by
    have:n=(digits (ints s) (p+1)).1:=by rw[Y]
    rw[this];exact Fb _ _
   rw[Y]at nL;clear hdg;obtain⟨c,hc⟩:∃c,ah (ints s) u=c:=⟨_,rfl⟩;have E:number (ints s) p=if bI<n\/ c=46\/ c=101\/ c=69 then .bad 15 p else .ok (.mk 2 (if ah (ints s) p=45 then -n else n) aH [] []) u:=by unfold number;rw[HQ.out,if_pos hd,Y];simp only[hc]
   have A:Hid (number (ints s) p=if bI<n\/ c=46\/ c=101\/ c=69 then .bad 15 p else .ok (.mk 2 (if ah (ints s) p=45 then -n else n) aH [] []) u):=E;clear E
   by_cases f:bI<n\/ c=46\/ c=101\/ c=69
   ·have HB:Hid (number (ints s) p=.bad 15 p):=by rw[A.out,if_pos f];rfl
    unfold bI at f;clear A
    rcases f with f| rfl| rfl| rfl
    all_goals
     go_enter Tryz.func125,Tryz.ntmps125;go_wp2_with(first
      | (go_at_call 146;refine(jO K (by omega) 45 N).mono ?_;rintro x w1 ⟨rfl,⟨⟨e1,l1,j⟩,V⟩⟩;have d1:=j.c1)
      | (go_at_call 119;have _h:=m;refine(dZ m).mono ?_;rw[hc];rintro x w' ⟨rfl,rfl⟩)
      | (go_at_call 119;refine(dZ j).mono ?_;rintro x w' ⟨rfl,rfl⟩)
      | (go_at_call 142;refine(eX _ _).mono ?_;rw[hd];rintro x w' ⟨rfl,rfl⟩)
      | (go_at_call 148;refine(mG j hs hq).mono ?_;rw[Y];rintro x w2 ⟨rfl,⟨⟨e2,l2,m⟩,jk⟩⟩;have H:=V.then jk;have z:=bW H Z;obtain⟨j0,j1,j2,j3,j4⟩:=aj z;obtain⟨z0,z1,z2,z3,z4⟩:=aN z)
      | (go_at_call 92;refine(gN m 15 (p:Int)).mono ?_;rintro x w3 ⟨rfl,iL,fB⟩;have G:=H.then fB;have k:=bW G Z;obtain⟨j0,j1,j2,j3,j4⟩:=aj k;obtain⟨z0,z1,z2,z3,z4⟩:=aN k))
     all_goals
      have h5:=aK k (.int .i64 0) (.int .i64 0) (.string ⟨#[]⟩) (.slice none 0 0) (.slice none 0 0);have d:ag (One w.heap.size) w3 _:=aI w3 w.heap.size (.int .i64 0) (.int .i64 0) (.string ⟨#[]⟩) (.slice none 0 0) (.slice none 0 0);unfold di at h5 d;obtain⟨F,T,I,X,U⟩:=aj h5;refine bodyPost_ret (v:=.tuple #[.agg #[.int .i64 0,.int .i64 0,.string ⟨#[]⟩,.slice none 0 0,.slice none 0 0],.bool false]) (by simp[results,Tryz.results125,go_sem,F,T,I,X,U]) rfl ?_;rw[HB.out];exact⟨⟨0,0,aH,rfl⟩,⟨_,iL.bf d (fun h=>by unfold One at h;omega)⟩,(U3.then G).trans d (fun i hi h=>by unfold One at h;omega)⟩
   ·have HB:Hid (number (ints s) p=.ok (.mk 2 (-n) aH [] []) u):=by rw[A.out,if_neg f,if_pos N];rfl
    have b1:¬9007199254740991<n:=fun h=>f (.inl h);have b2:¬c=46:=fun h=>f (.inr (.inl h));have b3:¬c=101:=fun h=>f (.inr (.inr (.inl h)));have b4:¬c=69:=fun h=>f (.inr (.inr (.inr h)));have b5:(c==46)=false:=by simp[b2]
    have b6:(c==101)=false:=by simp[b3]
    have b7:(c==69)=false:=by simp[b4]
    clear f A;go_enter Tryz.func125,Tryz.ntmps125;go_wp2_with(first
     | (go_at_call 146;refine(jO K (by omega) 45 N).mono ?_;rintro x w1 ⟨rfl,⟨⟨e1,l1,j⟩,V⟩⟩;have d1:=j.c1)
     | (go_at_call 119;have _h:=m;refine(dZ m).mono ?_;rw[hc];rintro x w' ⟨rfl,rfl⟩)
     | (go_at_call 119;refine(dZ j).mono ?_;rintro x w' ⟨rfl,rfl⟩)
     | (go_at_call 142;refine(eX _ _).mono ?_;rw[hd];rintro x w' ⟨rfl,rfl⟩)
     | (go_at_call 148;refine(mG j hs hq).mono ?_;rw[Y];rintro x w2 ⟨rfl,⟨⟨e2,l2,m⟩,jk⟩⟩;have H:=V.then jk;have z:=bW H Z;obtain⟨j0,j1,j2,j3,j4⟩:=aj z;obtain⟨z0,z1,z2,z3,z4⟩:=aN z))
    have h5:=aK z (.int .i64 2) (.int .i64 (-n)) (.string ⟨#[]⟩) (.slice none 0 0) (.slice none 0 0);have d:ag (One w.heap.size) w2 _:=aI w2 w.heap.size (.int .i64 2) (.int .i64 (-n)) (.string ⟨#[]⟩) (.slice none 0 0) (.slice none 0 0);unfold di at h5 d;obtain⟨F,T,I,X,U⟩:=aj h5;refine bodyPost_ret (v:=.tuple #[.agg #[.int .i64 2,.int .i64 (-n),.string ⟨#[]⟩,.slice none 0 0,.slice none 0 0],.bool true]) (by simp[results,Tryz.results125,go_sem,F,T,I,X,U]) rfl ?_;rw[HB.out];exact⟨⟨_,_,_,_,_,_,_,_,_,rfl,ni _ _ 2 (-n) aH⟩,⟨_,_,m.bf d (fun h=>by unfold One at h;omega)⟩,(U3.then H).trans d (fun i hi h=>by unfold One at h;omega)⟩
 have hq:p<=s.size:=hp;have HQ:Hid ((if ah (ints s) p=45 then p+1 else p)=p):=if_neg N
 cases hd:df (ah (ints s) p)with
 | false=>
  have A:Hid (number (ints s) p=.bad 11 p):=by unfold number;rw[HQ.out,if_neg (by simp[hd])];rfl
  go_enter Tryz.func125,Tryz.ntmps125;go_wp2_with(first
   | (go_at_call 146;refine(jl K 45 N).mono ?_;rintro x w' ⟨rfl,rfl⟩;have j:=K;have V:=ag.refl (One R) (w.alloc (.cells #[.int .i64 0,.int .i64 0,.string ⟨#[]⟩,.slice none 0 0,.slice none 0 0] 25)))
   | (go_at_call 119;refine(dZ j).mono ?_;rintro x w' ⟨rfl,rfl⟩)
   | (go_at_call 142;refine(eX _ _).mono ?_;rw[hd];rintro x w' ⟨rfl,rfl⟩)
   | (go_at_call 92;refine(gN j 11 ((p:Nat):Int)).mono ?_;rintro x w3 ⟨rfl,iL,fB⟩;have G:=V.then fB;have k:=bW G Z;obtain⟨j0,j1,j2,j3,j4⟩:=aj k;obtain⟨z0,z1,z2,z3,z4⟩:=aN k))
  have h5:=aK k (.int .i64 0) (.int .i64 0) (.string ⟨#[]⟩) (.slice none 0 0) (.slice none 0 0);have d:ag (One w.heap.size) w3 _:=aI w3 w.heap.size (.int .i64 0) (.int .i64 0) (.string ⟨#[]⟩) (.slice none 0 0) (.slice none 0 0);unfold di at h5 d;obtain⟨F,T,I,X,U⟩:=aj h5;refine bodyPost_ret (v:=.tuple #[.agg #[.int .i64 0,.int .i64 0,.string ⟨#[]⟩,.slice none 0 0,.slice none 0 0],.bool false]) (by simp[results,Tryz.results125,go_sem,F,T,I,X,U]) rfl ?_;rw[A.out];refine⟨⟨0,0,aH,rfl⟩,⟨_,iL.bf d (fun h=>by unfold One at h;omega)⟩,(U3.then G).trans d (fun i hi h=>by unfold One at h;omega)⟩
 | true=>
  have hdg:=mG (w:=w) (R:=R) (p:=p) (s:=s) (e:=e) (l:=l);have nL:=wT hd;obtain⟨n,u,Y⟩:∃n u,digits (ints s) p=(n,u):=⟨_,_,rfl⟩;have hnb:0<=n/\n<=90071992547409919:=by
   have:n=(digits (ints s) p).1:=by rw[Y]
   rw[this];exact Fb _ _
  rw[Y]at nL;clear hdg;obtain⟨c,hc⟩:∃c,ah (ints s) u=c:=⟨_,rfl⟩;have E:number (ints s) p=if bI<n\/ c=46\/ c=101\/ c=69 then .bad 15 p else .ok (.mk 2 (if ah (ints s) p=45 then -n else n) aH [] []) u:=by unfold number;rw[HQ.out,if_pos hd,Y];simp only[hc]
  have A:Hid (number (ints s) p=if bI<n\/ c=46\/ c=101\/ c=69 then .bad 15 p else .ok (.mk 2 (if ah (ints s) p=45 then -n else n) aH [] []) u):=E;clear E
  by_cases f:bI<n\/ c=46\/ c=101\/ c=69
  ·have HB:Hid (number (ints s) p=.bad 15 p):=by rw[A.out,if_pos f];rfl
   unfold bI at f;clear A
   rcases f with f| rfl| rfl| rfl
   all_goals
    go_enter Tryz.func125,Tryz.ntmps125;go_wp2_with(first
     | (go_at_call 146;refine(jl K 45 N).mono ?_;rintro x w' ⟨rfl,rfl⟩;have j:=K;have V:=ag.refl (One R) (w.alloc (.cells #[.int .i64 0,.int .i64 0,.string ⟨#[]⟩,.slice none 0 0,.slice none 0 0] 25)))
     | (go_at_call 119;have _h:=m;refine(dZ m).mono ?_;rw[hc];rintro x w' ⟨rfl,rfl⟩)
     | (go_at_call 119;refine(dZ j).mono ?_;rintro x w' ⟨rfl,rfl⟩)
     | (go_at_call 142;refine(eX _ _).mono ?_;rw[hd];rintro x w' ⟨rfl,rfl⟩)
     | (go_at_call 148;refine(mG j hs hq).mono ?_;rw[Y];rintro x w2 ⟨rfl,⟨⟨e2,l2,m⟩,jk⟩⟩;have H:=V.then jk;have z:=bW H Z;obtain⟨j0,j1,j2,j3,j4⟩:=aj z;obtain⟨z0,z1,z2,z3,z4⟩:=aN z)
     | (go_at_call 92;refine(gN m 15 (p:Int)).mono ?_;rintro x w3 ⟨rfl,iL,fB⟩;have G:=H.then fB;have k:=bW G Z;obtain⟨j0,j1,j2,j3,j4⟩:=aj k;obtain⟨z0,z1,z2,z3,z4⟩:=aN k))
    all_goals
     have h5:=aK k (.int .i64 0) (.int .i64 0) (.string ⟨#[]⟩) (.slice none 0 0) (.slice none 0 0);have d:ag (One w.heap.size) w3 _:=aI w3 w.heap.size (.int .i64 0) (.int .i64 0) (.string ⟨#[]⟩) (.slice none 0 0) (.slice none 0 0);unfold di at h5 d;obtain⟨F,T,I,X,U⟩:=aj h5;refine bodyPost_ret (v:=.tuple #[.agg #[.int .i64 0,.int .i64 0,.string ⟨#[]⟩,.slice none 0 0,.slice none 0 0],.bool false]) (by simp[results,Tryz.results125,go_sem,F,T,I,X,U]) rfl ?_;rw[HB.out];exact⟨⟨0,0,aH,rfl⟩,⟨_,iL.bf d (fun h=>by unfold One at h;omega)⟩,(U3.then G).trans d (fun i hi h=>by unfold One at h;omega)⟩
  ·have HB:Hid (number (ints s) p=.ok (.mk 2 (n) aH [] []) u):=by rw[A.out,if_neg f,if_neg N];rfl
   have b1:¬9007199254740991<n:=fun h=>f (.inl h);have b2:¬c=46:=fun h=>f (.inr (.inl h));have b3:¬c=101:=fun h=>f (.inr (.inr (.inl h)));have b4:¬c=69:=fun h=>f (.inr (.inr (.inr h)));have b5:(c==46)=false:=by simp[b2]
   have b6:(c==101)=false:=by simp[b3]
   have b7:(c==69)=false:=by simp[b4]
   clear f A;go_enter Tryz.func125,Tryz.ntmps125;go_wp2_with(first
    | (go_at_call 146;refine(jl K 45 N).mono ?_;rintro x w' ⟨rfl,rfl⟩;have j:=K;have V:=ag.refl (One R) (w.alloc (.cells #[.int .i64 0,.int .i64 0,.string ⟨#[]⟩,.slice none 0 0,.slice none 0 0] 25)))
    | (go_at_call 119;have _h:=m;refine(dZ m).mono ?_;rw[hc];rintro x w' ⟨rfl,rfl⟩)
    | (go_at_call 119;refine(dZ j).mono ?_;rintro x w' ⟨rfl,rfl⟩)
    | (go_at_call 142;refine(eX _ _).mono ?_;rw[hd];rintro x w' ⟨rfl,rfl⟩)
    | (go_at_call 148;refine(mG j hs hq).mono ?_;rw[Y];rintro x w2 ⟨rfl,⟨⟨e2,l2,m⟩,jk⟩⟩;have H:=V.then jk;have z:=bW H Z;obtain⟨j0,j1,j2,j3,j4⟩:=aj z;obtain⟨z0,z1,z2,z3,z4⟩:=aN z))
   have h5:=aK z (.int .i64 2) (.int .i64 n) (.string ⟨#[]⟩) (.slice none 0 0) (.slice none 0 0);have d:ag (One w.heap.size) w2 _:=aI w2 w.heap.size (.int .i64 2) (.int .i64 n) (.string ⟨#[]⟩) (.slice none 0 0) (.slice none 0 0);unfold di at h5 d;obtain⟨F,T,I,X,U⟩:=aj h5;refine bodyPost_ret (v:=.tuple #[.agg #[.int .i64 2,.int .i64 n,.string ⟨#[]⟩,.slice none 0 0,.slice none 0 0],.bool true]) (by simp[results,Tryz.results125,go_sem,F,T,I,X,U]) rfl ?_;rw[HB.out];exact⟨⟨_,_,_,_,_,_,_,_,_,rfl,ni _ _ 2 (n) aH⟩,⟨_,_,m.bf d (fun h=>by unfold One at h;omega)⟩,(U3.then H).trans d (fun i hi h=>by unfold One at h;omega)⟩
theorem j5.below{O:Nat->Prop}{w w':World}{p:Option Addr}{c:Nat}{ks:List ByteArray}(h:j5 O w p c ks)(f:∀k,O k->k<w.heap.size)(j:Below w.heap.size w w'):j5 O w' p c ks:=
 h.carry fun k d=>⟨d,j.block k (f k d)⟩
theorem mX{O:Nat->Prop}{w:World}{j:J}{cs:List Value}(h:isJ O w j cs):∀u∈cs,u.oneCell'=true:=by
 cases j
 unfold isJ at h;obtain⟨_,_,_,_,rfl,_⟩:=h;intro u c;simp at c
 rcases c with rfl| rfl| rfl| rfl| rfl<;>rfl
theorem nT{w:World}{B:Nat}{v:Value}{S:List ByteArray}(h:w.ownsRow B 9 1 v S.length (S.map Value.string)):∃q c,v=.slice q S.length c/\j5 (fun k=>B<=k/\k<w.heap.size) w q c S:=by
 rcases h.2 with⟨rfl,u⟩| ⟨g,cap,cur,rfl,d,f,h1,h2,h3,h4⟩
 ·obtain rfl:S= []:=List.eq_nil_of_length_eq_zero u;exact⟨none,0,rfl,j5.nil _ _⟩
 ·refine⟨_,cap,rfl,⟨h1,fun j m=>⟨_,rfl,⟨d,(Array.getElem?_eq_some_iff.1 f).1⟩, ?_⟩⟩⟩;have:=h.cells (g:=g) rfl j (.string (S.getD j aH)) (by rw[List.getElem?_map,List.getD_eq_getElem?_getD,List.getElem?_eq_getElem m];rfl);exact this
theorem rZ{O:Nat->Prop}{w:World}{B:Nat}{v:Value}{l:List J}{xs:List Value}(h:w.ownsRow B 25 5 v l.length xs)(m:isRow O w l xs):∃q f,v=.slice q l.length f/\l.length<=f/\isJs (fun k=>O k\/ (B<=k/\k<w.heap.size)) w q 0 l:=by
 rcases h.2 with⟨rfl,z⟩| ⟨g,cap,cur,rfl,x,d,h1,h2,h3,h4⟩
 ·obtain rfl:l= []:=List.eq_nil_of_length_eq_zero z;exact⟨none,0,rfl,Nat.le_refl _,by unfold isJs;trivial⟩
 ·refine⟨_,cap,rfl,h1, ?_⟩;refine isRow.isJs (O:=fun k=>O k\/ (B<=k/\k<w.heap.size)) (.inr ⟨x,(Array.getElem?_eq_some_iff.1 d).1⟩) l xs 0 (m.carry fun k A=>⟨.inl A,rfl⟩) fun i u c=> ?_;have j:cur[i]?=some u:=by
   rw[<-h4]at c;rw[List.getElem?_take]at c
   split at c
   ·simpa using c
   ·cases c
  rw[Nat.zero_mul,Nat.add_zero,Nat.zero_add];simp only[World.cell?,d];exact j
structure MI(O:Nat->Prop)(wB:World)(b:Nat)(Sk:List ByteArray)(Sv:List J)(vk vl:Value)(wr:World):Prop where
 obj:wr.heap[b+1]?=some (.cells #[.int .i64 5,.int .i64 0,.string ⟨#[]⟩,vk,vl] 25 (0,0))
 res:wr.heap[b]?=some (.cells #[.int .i64 0,.int .i64 0,.string ⟨#[]⟩,.slice none 0 0,.slice none 0 0] 25 (0,0))
 keys:wr.ownsRow wB.heap.size 9 1 vk Sk.length (Sk.map Value.string)
 eD:∃xs,wr.ownsRow wB.heap.size 25 5 vl Sv.length xs/\isRow O wr Sv xs
 ne:∀i,vk.ownBlock=some i->vl.ownBlock≠some i
 bf:ag (One (b+1)) wB wr
 lt:b+1<wB.heap.size
 low:∀k,O k->k<b
section
variable {O : Nat -> Prop} {wB W W2 : World} {b : Nat} {Sk : List ByteArray} {Sv : List J} {vk vl kG iM : Value}
theorem MI.drew(h:MI O wB b Sk Sv vk vl W):MI O wB b Sk Sv vk vl W.drew:=⟨h.obj,h.res,h.keys,by
 obtain⟨xs,h1,h2⟩:=h.eD;exact⟨xs,h1,isRow.carry (w:=W) (w':=W.drew) (fun k c=>⟨c,rfl⟩) Sv xs h2⟩,h.ne,h.bf.drew,h.lt,h.low⟩
theorem MI.c3(h:MI O wB b Sk Sv vk vl W):W.cell? ⟨b+1,3,none⟩=some vk:=fV h.obj
theorem MI.c4(h:MI O wB b Sk Sv vk vl W):W.cell? ⟨b+1,4,none⟩=some vl:=aZ h.obj
theorem MI.size(h:MI O wB b Sk Sv vk vl W):wB.heap.size<=W.heap.size:=h.bf.size
theorem bU{o:Obj}{row:Option Nat}{k:Nat}(f:(W.alloc o).grownBy W2 row)(d:k<W.heap.size)(c:row≠some k):W2.heap[k]?=W.heap[k]?:=by
 rw[f.block k (by simp;omega) (fun e=>c e.symm),Below.heap_alloc W o k d]
theorem MI.key(h:MI O wB b Sk Sv vk vl W){x:ByteArray}{o:Obj}(A:W2.ownsRow wB.heap.size 9 1 kG (Sk.length+1) (Sk.map Value.string++ [.string x]))(c:(W.alloc o).grownBy W2 vk.ownBlock)(F:kG.ownBlock=vk.ownBlock\/ kG.ownBlock=some (W.alloc o).heap.size):
    W2.cell? ⟨b+1,3,none⟩=some vk/\W2.frozen? ⟨b+1,3,none⟩=false/\MI O wB b (Sk++ [x]) Sv kG vl (W2.setCell ⟨b+1,3,none⟩ kG):=by
 have N:=h.size;have G:=h.lt;have f:=aJ h.keys;obtain⟨xs,z,K⟩:=h.eD;have u:=aJ z;have j:W2.heap[b+1]?=some (.cells #[.int .i64 5,.int .i64 0,.string ⟨#[]⟩,vk,vl] 25 (0,0)):=by
  rw[bU c (by omega) (fun e=>by have:=f _ e;omega)];exact h.obj
 have m:W2.heap[b]?=some (.cells #[.int .i64 0,.int .i64 0,.string ⟨#[]⟩,.slice none 0 0,.slice none 0 0] 25 (0,0)):=by
  rw[bU c (by omega) (fun e=>by have:=f _ e;omega)];exact h.res
 have K3:ag (One (b+1)) W2 (W2.setCell ⟨b+1,3,none⟩ kG):=ag.setCell (ag.refl _ _) (fun _=>(rfl:b+1=b+1)) _;have H:=aJ A;refine⟨fV j,iU j 3,⟨?_, ?_, ?_,⟨xs, ?_, ?_⟩, ?_, ?_,G,h.low⟩⟩
 ·rw[heap_setCell_same _ (b+1) 3 _ _ _ j];rfl
 ·rw[K3.block b (by have:=(Array.getElem?_eq_some_iff.1 m).1;omega) (by unfold One;omega)];exact m
 ·rw[List.length_append,List.map_append];exact aX A K3 fun k e=>by have:=H k e;unfold One;omega
 ·refine aX (aX (z.alloc o) (S:=fun k=>vk.ownBlock=some k) (ag.dt c fun _ _ e=>e) fun k e d=>h.ne k d e) K3 fun k e=>by have:=u k e;unfold One;omega
 ·refine K.carry fun k E=>⟨E, ?_⟩;have:=h.low k E;rw[K3.block k (by have:=c.size;simp at this;omega) (by unfold One;omega),bU c (by omega) (fun e=>by have:=f _ e;omega)]
 ·intro i e d
  rcases F with h1| h1
  ·exact h.ne i (h1 ▸ e) d
  ·rw[h1]at e;have h2:=(u i d).2;have h3:(W.alloc o).heap.size=i:=Option.some.inj e;simp at h3;omega
 ·have I:ag (One (b+1)) wB (W.alloc o):=h.bf.alloc o;exact(I.grown c fun k e=>(f k e).1).then K3
theorem MI.val(h:MI O wB b Sk Sv vk vl W){y:J}{cs xs:List Value}{o:Obj}(G:W.ownsRow wB.heap.size 25 5 vl Sv.length xs)(I:isRow O W Sv xs)(u:isJ O W y cs)(x:W2.ownsRow wB.heap.size 25 5 iM (Sv.length+1) (xs++cs))(c:(W.alloc o).grownBy W2 vl.ownBlock)(E:iM.ownBlock=vl.ownBlock\/ iM.ownBlock=some (W.alloc o).heap.size):
    W2.cell? ⟨b+1,4,none⟩=some vl/\W2.frozen? ⟨b+1,4,none⟩=false/\MI O wB b Sk (Sv++ [y]) vk iM (W2.setCell ⟨b+1,4,none⟩ iM):=by
 have N:=h.size;have F:=h.lt;have A:=aJ h.keys;have f:=aJ G;have j:W2.heap[b+1]?=some (.cells #[.int .i64 5,.int .i64 0,.string ⟨#[]⟩,vk,vl] 25 (0,0)):=by
  rw[bU c (by omega) (fun e=>by have:=f _ e;omega)];exact h.obj
 have m:W2.heap[b]?=some (.cells #[.int .i64 0,.int .i64 0,.string ⟨#[]⟩,.slice none 0 0,.slice none 0 0] 25 (0,0)):=by
  rw[bU c (by omega) (fun e=>by have:=f _ e;omega)];exact h.res
 have K3:ag (One (b+1)) W2 (W2.setCell ⟨b+1,4,none⟩ iM):=ag.setCell (ag.refl _ _) (fun _=>(rfl:b+1=b+1)) _;have K:=aJ x;have carry:∀k,O k->O k/\(W2.setCell ⟨b+1,4,none⟩ iM).heap[k]?=W.heap[k]?:=fun k z=>by
  have:=h.low k z;exact⟨z,by rw[K3.block k (by have:=c.size;simp at this;omega) (by unfold One;omega),bU c (by omega) (fun e=>by have:=f _ e;omega)]⟩
 refine⟨aZ j,iU j 4,⟨?_, ?_, ?_,⟨xs++cs, ?_, ?_⟩, ?_, ?_,F,h.low⟩⟩
 ·rw[heap_setCell_same _ (b+1) 4 _ _ _ j];rfl
 ·rw[K3.block b (by have:=(Array.getElem?_eq_some_iff.1 m).1;omega) (by unfold One;omega)];exact m
 ·exact aX (aX (h.keys.alloc o) (S:=fun k=>vl.ownBlock=some k) (ag.dt c fun _ _ e=>e) fun k e d=>h.ne k e d) K3 fun k e=>by have:=A k e;unfold One;omega
 ·rw[List.length_append];exact aX x K3 fun k e=>by have:=K k e;unfold One;omega
 ·exact isRow.snoc u.qC (u.carry carry) Sv xs (I.carry carry)
 ·intro i e d
  rcases E with h1| h1
  ·exact h.ne i e (h1 ▸ d)
  ·rw[h1]at d;have h2:=(A i e).2;have h3:(W.alloc o).heap.size=i:=Option.some.inj d;simp at h3;omega
 ·have H:ag (One (b+1)) wB (W.alloc o):=h.bf.alloc o;exact(H.grown c fun k e=>(f k e).1).then K3
end
theorem Zk{O:Nat->Prop}{w wB wr W5:World}{f h:Option Addr}{c1 c2:Nat}{ks:List ByteArray}{l:List J}(z:∀k,O k->k<w.heap.size)(m:Below w.heap.size w wB)(j:ag (One (w.heap.size+1)) wB wr)(d:ag (One w.heap.size) wr W5)
    (x:j5 (fun k=>wB.heap.size<=k/\k<wr.heap.size) wr f c1 ks) (A:isJs (fun k=>O k\/ (wB.heap.size<=k/\k<wr.heap.size)) wr h 0 l) (u:l.length<=c2) (G:w.heap.size+2<=wB.heap.size):
    isJ (fun k=>O k\/ gH w W5 k) W5 (.mk 5 0 aH ks l) [.int .i64 5,.int .i64 0,.string aH,.slice f ks.length c1,.slice h l.length c2]/\Below w.heap.size w W5:=by
 have F:=j.size;have H:=d.size;have carry:∀i,(O i\/ (wB.heap.size<=i/\i<wr.heap.size))->(O i\/ gH w W5 i)/\W5.heap[i]?=wr.heap[i]?:=by
  intro i c
  rcases c with c| c
  ·have:=z i c;exact⟨.inl c,d.block i (by omega) (by unfold One;omega)⟩
  ·exact⟨.inr ⟨by omega,by omega⟩,d.block i (by omega) (by unfold One;omega)⟩
 refine⟨?_, ?_⟩
 ·unfold isJ;exact⟨f,c1,h,c2,rfl,x.carry fun i c=>carry i (.inr c),u,A.carry carry⟩
 ·exact(m.trans (j.below (by omega) fun k E=>by unfold One;omega)).trans (d.below (by omega) fun k E=>by unfold One;omega)
theorem cell_one_new(w:World)(v:Value)(t:Nat):∀j u, [v][j]?=some u->(w.alloc (.cells #[v] t)).cell? ((⟨w.heap.size,0,none⟩:Addr).add j)=some u:=by
 intro j u c
 match j,c with
 | 0,c=>simp at c;subst c;exact aQ (cur:= [_]) (heap_alloc_new _ _) 0 _ rfl
theorem lN(x:ByteArray):∀u∈ [Value.string x],u.oneCell'=true:=by
 intro u c;simp at c;subst c;rfl
theorem fK(w:World)(t:Nat)(y0 y1 y2 y3 y4:Value):∀j u, [y0,y1,y2,y3,y4][j]?=some u->(w.alloc (.cells #[y0,y1,y2,y3,y4] t)).cell? ((⟨w.heap.size,0,none⟩:Addr).add j)=some u:=by
 intro j u c;have e:(⟨w.heap.size,0,none⟩:Addr).add j=⟨w.heap.size,j,none⟩:=by unfold Addr.add;split<;>simp_all
 rw[e];exact aQ (cur:= [_,_,_,_,_]) (heap_alloc_new _ _) j u c
theorem Fg{O:Nat->Prop}{w:World}{ks:List ByteArray}{l:List J}{pk pl:Option Addr}{ck cl:Nat}(hk:j5 O w pk ck ks)(hj:isJs O w pl 0 l)(rM:ks.length=l.length)(hO:∀k,O k->k<w.heap.size)(hn:ks.length<=100000)(hd:ks.Pairwise (· ≠ ·)):
    Calls Tryz.prog 81 #[.slice pk ks.length ck,.slice pl l.length cl] w fun e w'=>∃cs,e=.returned (.agg cs)/\isJ (fun k=>O k\/ gH w w' k) w' (mapOf ks l) cs.toList/\Below w.heap.size w w':=by
 have D_:Hid (ks.length=l.length):=rM;clear rM;have dM:Below w.heap.size w ((w.alloc (.cells #[.int .i64 0,.int .i64 0,.string ⟨#[]⟩,.slice none 0 0,.slice none 0 0] 25)).alloc (.cells #[.int .i64 5,.int .i64 0,.string ⟨#[]⟩,.slice none 0 0,.slice none 0 0] 25)):=((Below.refl _ _).alloc (Nat.le_refl _) _).alloc (by simp) _;have GH:=hk.below hO dM;have zbt:((w.alloc (.cells #[.int .i64 0,.int .i64 0,.string ⟨#[]⟩,.slice none 0 0,.slice none 0 0] 25)).alloc (.cells #[.int .i64 5,.int .i64 0,.string ⟨#[]⟩,.slice none 0 0,.slice none 0 0] 25)).heap.size=w.heap.size+2:=by simp
 have yR:((w.alloc (.cells #[.int .i64 0,.int .i64 0,.string ⟨#[]⟩,.slice none 0 0,.slice none 0 0] 25)).alloc (.cells #[.int .i64 5,.int .i64 0,.string ⟨#[]⟩,.slice none 0 0,.slice none 0 0] 25)).heap[w.heap.size+1]?=some (.cells #[.int .i64 5,.int .i64 0,.string ⟨#[]⟩,.slice none 0 0,.slice none 0 0] 25 (0,0)):=by
  have:=heap_alloc_new (w.alloc (.cells #[.int .i64 0,.int .i64 0,.string ⟨#[]⟩,.slice none 0 0,.slice none 0 0] 25)) (.cells #[.int .i64 5,.int .i64 0,.string ⟨#[]⟩,.slice none 0 0,.slice none 0 0] 25);rw[show(w.alloc (.cells #[.int .i64 0,.int .i64 0,.string ⟨#[]⟩,.slice none 0 0,.slice none 0 0] 25)).heap.size=w.heap.size+1 by simp]at this;exact this
 have bq:((w.alloc (.cells #[.int .i64 0,.int .i64 0,.string ⟨#[]⟩,.slice none 0 0,.slice none 0 0] 25)).alloc (.cells #[.int .i64 5,.int .i64 0,.string ⟨#[]⟩,.slice none 0 0,.slice none 0 0] 25)).heap[w.heap.size]?=some (.cells #[.int .i64 0,.int .i64 0,.string ⟨#[]⟩,.slice none 0 0,.slice none 0 0] 25 (0,0)):=by
  rw[Below.heap_alloc _ _ _ (by simp)];exact heap_alloc_new _ _
 go_enter Tryz.func81,Tryz.ntmps81;go_wp2_with(first
  | (go_at_call 112;refine(BP GH (fun k hk=>by have:=hO k hk;rw[zbt];omega) (by omega)).mono ?_;rintro e wB ⟨g,L,rfl,hP,hg1,nM,uj⟩))
 rw[zbt]at hg1 uj;have RH:=uj.size;rw[zbt]at RH;have cB:L.length=ks.length:=by rw[hP.1.length_eq];simp
 have dK:Below w.heap.size w wB:=dM.trans (uj.mono (by omega));have zdx:MI O wB w.heap.size [] [] (.slice none 0 0) (.slice none 0 0) wB:=⟨(uj.block _ (by omega)).trans yR,(uj.block _ (by omega)).trans bq,World.ownsRow_nil _ _ _ _,⟨[],World.ownsRow_nil _ _ _ _,rfl⟩,(fun i h=>by cases h),ag.refl _ _,by omega,hO⟩;clear yR bq GH
 go_loopw [12] (fun i wr=>∃(k:Nat) (vk vl:Value),i=.int .i64 k/\k<=ks.length/\MI O wB w.heap.size ((DY ks l (L.take k)).map (·.1)) ((DY ks l (L.take k)).map (·.2)) vk vl wr) (fun i _=>ks.length - (intOf i).toNat)
 case atStart=>exact⟨0,_,_,rfl,Nat.zero_le _,zdx⟩
 case round=>
  clear zdx;obtain⟨k,vk,vl,rfl,IE,A⟩:=hrel
  by_cases bQ:k<ks.length
  ·obtain⟨a,ha⟩:∃a,L.getD k 0=a:=⟨_,rfl⟩;have rO:wr.cell? ⟨g,k,none⟩=some (.int .i64 (a:Int)):=by
    rw[A.bf.cell (p:=⟨g,k,none⟩) nM (by unfold One;simp only;omega),hP.2.2 k (by omega),ha]
   have Zl:a<ks.length:=by
    have hm:L.getD k 0∈L:=by rw[List.getD_eq_getElem?_getD,List.getElem?_eq_getElem (by omega)];exact List.getElem_mem _
    have:=hP.1.subset hm;rw[ha]at this;simpa using this
   have zbu:Hid (DY ks l (L.take (k+1))=DY ks l (L.take k)++ [(aM ks a,qF l a)]):=by
    unfold DY;rw[List.take_add_one,List.getElem?_eq_getElem (by omega:k<L.length),List.map_append];rw[List.getD_eq_getElem?_getD,List.getElem?_eq_getElem (by omega:k<L.length)]at ha;simp only[Option.getD_some]at ha;rw[ha];rfl
   obtain⟨x,hx⟩:∃x,aM ks a=x:=⟨_,rfl⟩;obtain⟨y,hy⟩:∃y,qF l a=y:=⟨_,rfl⟩;rw[hx,hy]at zbu;obtain⟨V,rfl,zbv,Bj⟩:=hk.2 a Zl;change w.cell? (V.add a)=some (.string (aM ks a))at Bj;rw[hx]at Bj;obtain⟨z,E,cs,rfl,zbw,RI,iV⟩:=isJs.at l 0 a hj (by rw[<-D_.out];exact Zl);change isJ O w (qF l a) cs at iV;rw[hy]at iV;rw[Nat.zero_add]at RI;obtain⟨y0,y1,y2,y3,y4,rfl⟩:∃y0 y1 y2 y3 y4,cs= [y0,y1,y2,y3,y4]:=by
    match cs,iV.qC with
    | [y0,y1,y2,y3,y4],_=>exact⟨y0,y1,y2,y3,y4,rfl⟩
   have P7:∀u∈ [y0,y1,y2,y3,y4],u.oneCell'=true:=mX iV;have zbx:(DY ks l (L.take k)).length=k:=by unfold DY;simp;omega
   have zdy:((DY ks l (L.take k)).map (·.1)).length=k:=by simp[zbx]
   have zdz:((DY ks l (L.take k)).map (·.2)).length=k:=by simp[zbx]
   obtain⟨Sk,L_⟩:∃Sk,(DY ks l (L.take k)).map (·.1)=Sk:=⟨_,rfl⟩;obtain⟨Sv,El⟩:∃Sv,(DY ks l (L.take k)).map (·.2)=Sv:=⟨_,rfl⟩;rw[L_]at zdy A;rw[El]at zdz A;have HSk:Hid ((DY ks l (L.take (k+1))).map (·.1)=Sk++ [x]):=by rw[zbu.out,List.map_append,L_];rfl
   have HSv:Hid ((DY ks l (L.take (k+1))).map (·.2)=Sv++ [y]):=by rw[zbu.out,List.map_append,El];rfl
   have MK:∀{N:List ByteArray} {I:List J} {kG iM:Value} {W:World},MI O wB w.heap.size N I kG iM W->∀i,O i->W.heap[i]?=w.heap[i]?:=by
    intro N I kG iM W h i hi;have:=hO i hi;rw[h.bf.block i (by omega) (by unfold One;omega),dK.block i this]
   have hcx:∀{N:List ByteArray} {I:List J} {kG iM:Value} (W:World),MI O wB w.heap.size N I kG iM W->W.cell? (V.add a)=some (.string x):=fun W h=>(World.cell?_of_block (by rw[bu];exact MK h _ zbv)).trans Bj;have RJ:∀i u, [y0,y1,y2,y3,y4][i]?=some u->w.cell? ⟨z,E+a*5+i,none⟩=some u:=RI;have U:∀{N:List ByteArray} {I:List J} {kG iM:Value} (W:World),MI O wB w.heap.size N I kG iM W->W.cell? ⟨z,E+a*5,none⟩=some y0/\W.cell? ⟨z,E+a*5+1,none⟩=some y1/\W.cell? ⟨z,E+a*5+2,none⟩=some y2/\W.cell? ⟨z,E+a*5+3,none⟩=some y3/\W.cell? ⟨z,E+a*5+4,none⟩=some y4:=by
    intro N I kG iM W h;have G:=MK h _ zbw;exact⟨(World.cell?_of_block G).trans (RJ 0 _ rfl),(World.cell?_of_block G).trans (RJ 1 _ rfl),(World.cell?_of_block G).trans (RJ 2 _ rfl),(World.cell?_of_block G).trans (RJ 3 _ rfl),(World.cell?_of_block G).trans (RJ 4 _ rfl)⟩
   have RL:∀{N:List ByteArray} {I:List J} {kG iM:Value} (W:World),MI O wB w.heap.size N I kG iM W->isJ O W y [y0,y1,y2,y3,y4]:=fun W h=>iV.carry fun i hi=>⟨hi,MK h i hi⟩;have zdA:∀{N:List ByteArray} {I:List J} {kG iM:Value} {W:World} {o:Obj} (W2:World),(W.alloc o).grownBy W2 kG.ownBlock->MI O wB w.heap.size N I kG iM W->W2.cell? (V.add a)=some (.string x):=by
    intro N I kG iM W o W2 hg h;have h1:=h.low _ zbv;have h2:=h.size;have h3:=h.lt;have r9:=aJ h.keys;rw[World.cell?_of_block (w:=W) (by rw[bu];exact bU hg (by omega) (fun e=>by have:=r9 _ e;omega))];exact hcx W h
   have zdB:∀{N:List ByteArray} {I:List J} {kG iM:Value} (W:World),MI O wB w.heap.size N I kG iM W->(W.alloc (.cells #[y0,y1,y2,y3,y4] 25)).drew.cell? ⟨z,E+a*5,none⟩=some y0/\(W.alloc (.cells #[y0,y1,y2,y3,y4] 25)).drew.cell? ⟨z,E+a*5+1,none⟩=some y1/\(W.alloc (.cells #[y0,y1,y2,y3,y4] 25)).drew.cell? ⟨z,E+a*5+2,none⟩=some y2/\(W.alloc (.cells #[y0,y1,y2,y3,y4] 25)).drew.cell? ⟨z,E+a*5+3,none⟩=some y3/\(W.alloc (.cells #[y0,y1,y2,y3,y4] 25)).drew.cell? ⟨z,E+a*5+4,none⟩=some y4:=by
    intro N I kG iM W h;have h1:=h.low _ zbw;have h2:=h.size;have h3:=h.lt;have G:(W.alloc (.cells #[y0,y1,y2,y3,y4] 25)).drew.heap[z]?=W.heap[z]?:=Below.heap_alloc W _ _ (by omega);obtain⟨g0,g1,g2,g3,g4⟩:=U W h;exact⟨(World.cell?_of_block G).trans g0,(World.cell?_of_block G).trans g1,(World.cell?_of_block G).trans g2,(World.cell?_of_block G).trans g3,(World.cell?_of_block G).trans g4⟩
   have Zm:∀{N:List ByteArray} {I:List J} {kG iM:Value} {W:World} {o:Obj} (W2:World),(W.alloc o).grownBy W2 iM.ownBlock->MI O wB w.heap.size N I kG iM W->W2.cell? ⟨z,E+a*5,none⟩=some y0/\W2.cell? ⟨z,E+a*5+1,none⟩=some y1/\W2.cell? ⟨z,E+a*5+2,none⟩=some y2/\W2.cell? ⟨z,E+a*5+3,none⟩=some y3/\W2.cell? ⟨z,E+a*5+4,none⟩=some y4:=by
    intro N I kG iM W o W2 hg h;have h1:=h.low _ zbw;have h2:=h.size;have h3:=h.lt;obtain⟨xs,S,_⟩:=h.eD;have o9:=aJ S;have G:W2.heap[z]?=W.heap[z]?:=bU hg (by omega) (fun e=>by have:=o9 _ e;omega);obtain⟨g0,g1,g2,g3,g4⟩:=U W h;exact⟨(World.cell?_of_block G).trans g0,(World.cell?_of_block G).trans g1,(World.cell?_of_block G).trans g2,(World.cell?_of_block G).trans g3,(World.cell?_of_block G).trans g4⟩
   have zhf:(a:Int)<(ks.length:Int):=by omega
   have zhg:(a:Int)<(l.length:Int):=by have:=D_.out;omega
   have zhh:Sk.length<=100000:=by omega
   have zhi:Sv.length<=100000:=by omega
   clear hx hy Bj RI RJ L_ El zbx hP hj hk iV ha zdy zdz;go_wp2;have m:=A.drew;have fM:wr.drew.cell? (V.add a)=some (.string x):=hcx wr A;have T:(wr.alloc (.cells #[.string x] 9)).drew.cell? (V.add a)=some (.string x):=by
    have G:=World.cell?_of_block (a:=V.add a) (Below.heap_alloc wr (.cells #[.string x] 9) (V.add a).block (by rw[bu];have:=A.size;have:=A.low _ zbv;have:=A.lt;omega));exact G.trans (hcx wr A)
   have d3:=m.c3;have d3a:(wr.alloc (.cells #[.string x] 9)).drew.cell? ⟨w.heap.size+1,3,none⟩=some vk:=by
    have G:=World.cell?_of_block (a:=⟨w.heap.size+1,3,none⟩) (Below.heap_alloc wr (.cells #[.string x] 9) (w.heap.size+1) (by have:=A.size;have:=A.lt;omega));exact G.trans A.c3
   refine aD (by kernel_rfl) (fun w'=>w'.cell? (V.add a)=some (.string x)) ?_;change wpIn _ _ _ _ _ _ _ _ (World.drew _);refine aa (i:=0) (d:=some 16) rfl ?_;refine aa (i:=2) (d:=some 18) rfl ?_;refine aa (i:=3) (d:=some 19) rfl ?_;refine aa (i:=4) (d:=some 20) rfl ?_;refine aa (i:=5) (d:=some 21) rfl ?_;refine bR (i:=1) (j:=6) fM (by kernel_rfl) rfl rfl (by rfl) (by rfl) ?_ ?_
   ·intro K f;go_simp;refine f _ _ ?_;clear f K;refine av (i:=6) fM rfl ?_;intro K f;go_simp;refine f _ _ ?_;clear f K;refine av (i:=7) T rfl ?_;intro K f;refine aP (.tmp 17) (.tmp 22) 22 rfl wB.heap.size 9 (.string ⟨#[]⟩) 1 16 Tryz.underlying22 Tryz.jM rfl (by decide) (by decide) _ Sk.length (Sk.map Value.string) rfl (m.keys.alloc _) _ [.string x] rfl rfl (cell_one_new _ _ _) (lN x) (by omega) (by have:=A.size;simp;omega) ?_;intro P8 W2 gI nM uD;refine f _ _ ?_;clear f K;obtain⟨q2,c2,fC⟩:∃q c,P8=.slice q (Sk.length+1) c:=by
     rcases gI.2 with⟨X,h0⟩| ⟨g',qI,cur,X,_⟩
     ·omega
     ·exact⟨_,_,X⟩
    subst fC;have jP:(wr.drew.alloc (.cells #[.string x] 9)).grownBy W2 vk.ownBlock:=nM;have Jc:(Value.slice q2 (Sk.length+1) c2).ownBlock=vk.ownBlock\/ (Value.slice q2 (Sk.length+1) c2).ownBlock=some (wr.drew.alloc (.cells #[.string x] 9)).heap.size:=uD;obtain⟨e3,f3,H⟩:=m.key gI jP Jc;have Z:=zdA W2 jP m;have Y:=hcx _ H;clear gI nM uD jP Jc d3 d3a T fM;refine aa (i:=8) (d:=some 24) rfl ?_;refine av (i:=9) Z rfl ?_;intro K f;go_simp;refine f _ _ ?_;clear f K;refine aB Y (by kernel_rfl) ?_ _;clear Z Y e3 f3 m A;go_wp2;obtain⟨F,Zn⟩:∃F,F=W2.setCell ⟨w.heap.size+1,3,none⟩ (.slice q2 (Sk.length+1) c2):=⟨_,rfl⟩;rw[<-Zn]at H ⊢;clear Zn;have m:=H.drew;obtain⟨xs,S,fC⟩:=m.eD;have fM:=U F.drew m;have T:=zdB F H;have d4:=m.c4;have d4a:(F.alloc (.cells #[y0,y1,y2,y3,y4] 25)).drew.cell? ⟨w.heap.size+1,4,none⟩=some vl:=by
     have G:=World.cell?_of_block (a:=⟨w.heap.size+1,4,none⟩) (Below.heap_alloc F (.cells #[y0,y1,y2,y3,y4] 25) (w.heap.size+1) (by have:=H.size;have:=H.lt;omega));exact G.trans H.c4
    refine aD (by kernel_rfl) (fun w'=>w'.cell? ⟨z,E+a*5,none⟩=some y0/\w'.cell? ⟨z,E+a*5+1,none⟩=some y1/\w'.cell? ⟨z,E+a*5+2,none⟩=some y2/\w'.cell? ⟨z,E+a*5+3,none⟩=some y3/\w'.cell? ⟨z,E+a*5+4,none⟩=some y4) ?_;change wpIn _ _ _ _ _ _ _ _ (World.drew _);refine aa (i:=0) (d:=some 25) rfl ?_;refine aa (i:=2) (d:=some 27) rfl ?_;refine aa (i:=3) (d:=some 28) rfl ?_;refine aa (i:=4) (d:=some 29) rfl ?_;refine aC (i:=5) (d:=some 30) rfl (by(intro wq hq;obtain⟨q0,q1,q2,q3,q4⟩:=hq;go_simp;first| done| with_reducible rfl)) ?_;refine bR (i:=1) (j:=6) fM (by kernel_rfl) rfl rfl (by rfl) (by rfl) ?_ ?_
    ·intro K f;go_simp;refine f _ _ ?_;clear f K;refine av (i:=6) fM rfl ?_;intro K f;go_simp;refine f _ _ ?_;clear f K;refine av (i:=7) T rfl ?_;intro K f;refine aP (.tmp 26) (.tmp 31) 23 rfl wB.heap.size 25 (.agg #[.int .i64 0,.int .i64 0,.string ⟨#[]⟩,.slice none 0 0,.slice none 0 0]) 5 80 Tryz.underlying23 Tryz.eB rfl (by decide) (by decide) _ Sv.length xs rfl (S.alloc _) _ [y0,y1,y2,y3,y4] rfl rfl (fK _ _ _ _ _ _ _) P7 (by omega) (by have:=H.size;simp;omega) ?_;intro oh W4 bY lZ ib;refine f _ _ ?_;clear f K;obtain⟨q4,c4,xM⟩:∃q c,oh=.slice q (Sv.length+1) c:=by
      rcases bY.2 with⟨X,h0⟩| ⟨g',qI,cur,X,_⟩
      ·omega
      ·exact⟨_,_,X⟩
     subst xM;have nN:(F.drew.alloc (.cells #[y0,y1,y2,y3,y4] 25)).grownBy W4 vl.ownBlock:=lZ;have lQ:(Value.slice q4 (Sv.length+1) c4).ownBlock=vl.ownBlock\/ (Value.slice q4 (Sv.length+1) c4).ownBlock=some (F.drew.alloc (.cells #[y0,y1,y2,y3,y4] 25)).heap.size:=ib;obtain⟨e4,f4,Ce⟩:=m.val S fC (RL F.drew m) bY nN lQ;have Z:=Zm W4 nN m;have Y:=U _ Ce;clear bY lZ ib nN lQ d4 d4a T fM S fC;refine aa (i:=8) (d:=some 33) rfl ?_;refine av (i:=9) Z rfl ?_;intro K f;go_simp;refine f _ _ ?_;clear f K;refine aB Y (by kernel_rfl) ?_ _;clear Z Y e4 f4 m H;go_wp2;go_roundw
     case rel=>exact⟨k+1,_,_,by go_num,by omega,by rw[HSk.out,HSv.out];exact Ce⟩
     case measure=>simp[intOf];omega
    ·intro K f;go_simp;refine f _ _ ?_;clear f K;refine av (i:=1) T rfl ?_;intro K f;go_simp;refine f _ _ ?_;clear f K;refine av (i:=7) T rfl ?_;intro K f;refine aP (.tmp 26) (.tmp 31) 23 rfl wB.heap.size 25 (.agg #[.int .i64 0,.int .i64 0,.string ⟨#[]⟩,.slice none 0 0,.slice none 0 0]) 5 80 Tryz.underlying23 Tryz.eB rfl (by decide) (by decide) _ Sv.length xs rfl (S.alloc _) _ [y0,y1,y2,y3,y4] rfl rfl (fK _ _ _ _ _ _ _) P7 (by omega) (by have:=H.size;simp;omega) ?_;intro oh W4 bY lZ ib;refine f _ _ ?_;clear f K;obtain⟨q4,c4,xM⟩:∃q c,oh=.slice q (Sv.length+1) c:=by
      rcases bY.2 with⟨X,h0⟩| ⟨g',qI,cur,X,_⟩
      ·omega
      ·exact⟨_,_,X⟩
     subst xM;have nN:(F.drew.alloc (.cells #[y0,y1,y2,y3,y4] 25)).grownBy W4 vl.ownBlock:=lZ;have lQ:(Value.slice q4 (Sv.length+1) c4).ownBlock=vl.ownBlock\/ (Value.slice q4 (Sv.length+1) c4).ownBlock=some (F.drew.alloc (.cells #[y0,y1,y2,y3,y4] 25)).heap.size:=ib;obtain⟨e4,f4,Ce⟩:=m.val S fC (RL F.drew m) bY nN lQ;have Z:=Zm W4 nN m;have Y:=U _ Ce;clear bY lZ ib nN lQ d4 d4a T fM S fC;refine aa (i:=8) (d:=some 33) rfl ?_;refine av (i:=9) Z rfl ?_;intro K f;go_simp;refine f _ _ ?_;clear f K;refine aB Y (by kernel_rfl) ?_ _;clear Z Y e4 f4 m H;go_wp2;go_roundw
     case rel=>exact⟨k+1,_,_,by go_num,by omega,by rw[HSk.out,HSv.out];exact Ce⟩
     case measure=>simp[intOf];omega
   ·intro K f;go_simp;refine f _ _ ?_;clear f K;refine av (i:=1) T rfl ?_;intro K f;go_simp;refine f _ _ ?_;clear f K;refine av (i:=7) T rfl ?_;intro K f;refine aP (.tmp 17) (.tmp 22) 22 rfl wB.heap.size 9 (.string ⟨#[]⟩) 1 16 Tryz.underlying22 Tryz.jM rfl (by decide) (by decide) _ Sk.length (Sk.map Value.string) rfl (m.keys.alloc _) _ [.string x] rfl rfl (cell_one_new _ _ _) (lN x) (by omega) (by have:=A.size;simp;omega) ?_;intro P8 W2 gI nM uD;refine f _ _ ?_;clear f K;obtain⟨q2,c2,fC⟩:∃q c,P8=.slice q (Sk.length+1) c:=by
     rcases gI.2 with⟨X,h0⟩| ⟨g',qI,cur,X,_⟩
     ·omega
     ·exact⟨_,_,X⟩
    subst fC;have jP:(wr.drew.alloc (.cells #[.string x] 9)).grownBy W2 vk.ownBlock:=nM;have Jc:(Value.slice q2 (Sk.length+1) c2).ownBlock=vk.ownBlock\/ (Value.slice q2 (Sk.length+1) c2).ownBlock=some (wr.drew.alloc (.cells #[.string x] 9)).heap.size:=uD;obtain⟨e3,f3,H⟩:=m.key gI jP Jc;have Z:=zdA W2 jP m;have Y:=hcx _ H;clear gI nM uD jP Jc d3 d3a T fM;refine aa (i:=8) (d:=some 24) rfl ?_;refine av (i:=9) Z rfl ?_;intro K f;go_simp;refine f _ _ ?_;clear f K;refine aB Y (by kernel_rfl) ?_ _;clear Z Y e3 f3 m A;go_wp2;obtain⟨F,Zn⟩:∃F,F=W2.setCell ⟨w.heap.size+1,3,none⟩ (.slice q2 (Sk.length+1) c2):=⟨_,rfl⟩;rw[<-Zn]at H ⊢;clear Zn;have m:=H.drew;obtain⟨xs,S,fC⟩:=m.eD;have fM:=U F.drew m;have T:=zdB F H;have d4:=m.c4;have d4a:(F.alloc (.cells #[y0,y1,y2,y3,y4] 25)).drew.cell? ⟨w.heap.size+1,4,none⟩=some vl:=by
     have G:=World.cell?_of_block (a:=⟨w.heap.size+1,4,none⟩) (Below.heap_alloc F (.cells #[y0,y1,y2,y3,y4] 25) (w.heap.size+1) (by have:=H.size;have:=H.lt;omega));exact G.trans H.c4
    refine aD (by kernel_rfl) (fun w'=>w'.cell? ⟨z,E+a*5,none⟩=some y0/\w'.cell? ⟨z,E+a*5+1,none⟩=some y1/\w'.cell? ⟨z,E+a*5+2,none⟩=some y2/\w'.cell? ⟨z,E+a*5+3,none⟩=some y3/\w'.cell? ⟨z,E+a*5+4,none⟩=some y4) ?_;change wpIn _ _ _ _ _ _ _ _ (World.drew _);refine aa (i:=0) (d:=some 25) rfl ?_;refine aa (i:=2) (d:=some 27) rfl ?_;refine aa (i:=3) (d:=some 28) rfl ?_;refine aa (i:=4) (d:=some 29) rfl ?_;refine aC (i:=5) (d:=some 30) rfl (by(intro wq hq;obtain⟨q0,q1,q2,q3,q4⟩:=hq;go_simp;first| done| with_reducible rfl)) ?_;refine bR (i:=1) (j:=6) fM (by kernel_rfl) rfl rfl (by rfl) (by rfl) ?_ ?_
    ·intro K f;go_simp;refine f _ _ ?_;clear f K;refine av (i:=6) fM rfl ?_;intro K f;go_simp;refine f _ _ ?_;clear f K;refine av (i:=7) T rfl ?_;intro K f;refine aP (.tmp 26) (.tmp 31) 23 rfl wB.heap.size 25 (.agg #[.int .i64 0,.int .i64 0,.string ⟨#[]⟩,.slice none 0 0,.slice none 0 0]) 5 80 Tryz.underlying23 Tryz.eB rfl (by decide) (by decide) _ Sv.length xs rfl (S.alloc _) _ [y0,y1,y2,y3,y4] rfl rfl (fK _ _ _ _ _ _ _) P7 (by omega) (by have:=H.size;simp;omega) ?_;intro oh W4 bY lZ ib;refine f _ _ ?_;clear f K;obtain⟨q4,c4,xM⟩:∃q c,oh=.slice q (Sv.length+1) c:=by
      rcases bY.2 with⟨X,h0⟩| ⟨g',qI,cur,X,_⟩
      ·omega
      ·exact⟨_,_,X⟩
     subst xM;have nN:(F.drew.alloc (.cells #[y0,y1,y2,y3,y4] 25)).grownBy W4 vl.ownBlock:=lZ;have lQ:(Value.slice q4 (Sv.length+1) c4).ownBlock=vl.ownBlock\/ (Value.slice q4 (Sv.length+1) c4).ownBlock=some (F.drew.alloc (.cells #[y0,y1,y2,y3,y4] 25)).heap.size:=ib;obtain⟨e4,f4,Ce⟩:=m.val S fC (RL F.drew m) bY nN lQ;have Z:=Zm W4 nN m;have Y:=U _ Ce;clear bY lZ ib nN lQ d4 d4a T fM S fC;refine aa (i:=8) (d:=some 33) rfl ?_;refine av (i:=9) Z rfl ?_;intro K f;go_simp;refine f _ _ ?_;clear f K;refine aB Y (by kernel_rfl) ?_ _;clear Z Y e4 f4 m H;go_wp2;go_roundw
     case rel=>exact⟨k+1,_,_,by go_num,by omega,by rw[HSk.out,HSv.out];exact Ce⟩
     case measure=>simp[intOf];omega
    ·intro K f;go_simp;refine f _ _ ?_;clear f K;refine av (i:=1) T rfl ?_;intro K f;go_simp;refine f _ _ ?_;clear f K;refine av (i:=7) T rfl ?_;intro K f;refine aP (.tmp 26) (.tmp 31) 23 rfl wB.heap.size 25 (.agg #[.int .i64 0,.int .i64 0,.string ⟨#[]⟩,.slice none 0 0,.slice none 0 0]) 5 80 Tryz.underlying23 Tryz.eB rfl (by decide) (by decide) _ Sv.length xs rfl (S.alloc _) _ [y0,y1,y2,y3,y4] rfl rfl (fK _ _ _ _ _ _ _) P7 (by omega) (by have:=H.size;simp;omega) ?_;intro oh W4 bY lZ ib;refine f _ _ ?_;clear f K;obtain⟨q4,c4,xM⟩:∃q c,oh=.slice q (Sv.length+1) c:=by
      rcases bY.2 with⟨X,h0⟩| ⟨g',qI,cur,X,_⟩
      ·omega
      ·exact⟨_,_,X⟩
     subst xM;have nN:(F.drew.alloc (.cells #[y0,y1,y2,y3,y4] 25)).grownBy W4 vl.ownBlock:=lZ;have lQ:(Value.slice q4 (Sv.length+1) c4).ownBlock=vl.ownBlock\/ (Value.slice q4 (Sv.length+1) c4).ownBlock=some (F.drew.alloc (.cells #[y0,y1,y2,y3,y4] 25)).heap.size:=ib;obtain⟨e4,f4,Ce⟩:=m.val S fC (RL F.drew m) bY nN lQ;have Z:=Zm W4 nN m;have Y:=U _ Ce;clear bY lZ ib nN lQ d4 d4a T fM S fC;refine aa (i:=8) (d:=some 33) rfl ?_;refine av (i:=9) Z rfl ?_;intro K f;go_simp;refine f _ _ ?_;clear f K;refine aB Y (by kernel_rfl) ?_ _;clear Z Y e4 f4 m H;go_wp2;go_roundw
     case rel=>exact⟨k+1,_,_,by go_num,by omega,by rw[HSk.out,HSv.out];exact Ce⟩
     case measure=>simp[intOf];omega
  ·obtain rfl:k=ks.length:=by omega
   have Ma:L.take ks.length=L:=List.take_of_length_le (by omega);rw[Ma,I4 hP hd D_.out]at A;obtain⟨xs,S,fC⟩:=A.eD;have gZ:((fT (ks.zip l)).map (·.1)).length=ks.length:=by rw[List.length_map,rU];simp;have:=D_.out;omega
   have xA:((fT (ks.zip l)).map (·.2)).length=ks.length:=by rw[List.length_map,rU];simp;have:=D_.out;omega
   obtain⟨q1,c1,GI,ll⟩:=nT A.keys;obtain⟨q2,c2,zfP,xN,RG⟩:=rZ S fC;subst GI zfP;obtain⟨j0,j1,j2,j3,j4⟩:=aj A.obj;obtain⟨i0,i1,i2,i3,i4⟩:=aj A.res;obtain⟨z0,z1,z2,z3,z4⟩:=aN A.res;have h5:=aK A.res (.int .i64 5) (.int .i64 0) (.string ⟨#[]⟩) (.slice q1 ((fT (ks.zip l)).map (·.1)).length c1) (.slice q2 ((fT (ks.zip l)).map (·.2)).length c2);have bn:ag (One w.heap.size) wr _:=aI wr w.heap.size (.int .i64 5) (.int .i64 0) (.string ⟨#[]⟩) (.slice q1 ((fT (ks.zip l)).map (·.1)).length c1) (.slice q2 ((fT (ks.zip l)).map (·.2)).length c2);have fI:=A.size;have uC:=A.bf;unfold di at h5 bn;have HRK:Hid (j5 (fun k=>wB.heap.size<=k/\k<wr.heap.size) wr q1 c1 ((fT (ks.zip l)).map (·.1))):=ll;have HRJ:Hid (isJs (fun k=>O k\/ (wB.heap.size<=k/\k<wr.heap.size)) wr q2 0 ((fT (ks.zip l)).map (·.2))):=RG;obtain⟨k0,k1,k2,k3,k4⟩:=aj h5;obtain⟨n1,Jd⟩:∃n1,((fT (ks.zip l)).map (·.1)).length=n1:=⟨_,rfl⟩;obtain⟨n2,GJ⟩:∃n2,((fT (ks.zip l)).map (·.2)).length=n2:=⟨_,rfl⟩;rw[Jd,GJ]at h5 bn k3 k4;rw[Jd]at j3 k0 k1 k2;rw[GJ]at j4 k0 k1 k2;clear ll RG S fC A hP gZ xA hk hj;go_wp2;refine bodyPost_ret (v:=.agg #[.int .i64 5,.int .i64 0,.string ⟨#[]⟩,.slice q1 n1 c1,.slice q2 n2 c2]) (by simp[results,Tryz.results81,go_sem,k0,k1,k2,k3,k4]) rfl ?_;obtain⟨r1,r2⟩:=Zk hO dK uC bn HRK.out HRJ.out xN (by omega);rw[Jd,GJ]at r1;exact⟨_,rfl,r1,r2⟩
end Go.Proofs.YtldkblgclochjaaGreatDoor

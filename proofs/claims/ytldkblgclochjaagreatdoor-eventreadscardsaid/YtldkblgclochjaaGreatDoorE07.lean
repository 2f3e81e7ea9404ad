/- A part. -/
import Derived.Test.YtldkblgclochjaaGreatDoorE06
import Derived.Lib.AppendStr
import Derived.Stop.FmtQuoteTie
import Derived.Lib.OthersKept
import Derived.Lib.AppendIntMem
set_option maxRecDepth 100000
set_option maxHeartbeats 16000000
namespace Go.Proofs.YtldkblgclochjaaGreatDoor
open Go.RowKit
theorem VD{w d w3 c:World}{R:Nat}{j:J}{cs:List Value}{o:Obj}(h2:w.heap.size<=d.heap.size)(x:R<d.heap.size)(m:isJ (gH d w3) w3 j cs)(f:ag (One R) (w3.alloc o) c):isJ (gH w c) c j cs:=by
 have u:=f.size;simp at u;refine m.carry fun k h=> ?_;have h1:=h.1;have h3:=h.2;exact⟨⟨by omega,by omega⟩,by rw[f.block k (by simp;omega) (by unfold One;omega),Below.heap_alloc _ _ _ h3]⟩
theorem RZ{w:World}{R:Nat}{s:ByteArray}{e l:Int}(hr:fw w R s 0 e l)(E:short s):
    Calls Tryz.prog 56 #[.pointer (some ⟨R,0,none⟩)] w fun x w'=>xL w w' R s (whole (ints s)) x:=by
 have fI:=E;unfold short at fI;have G:=hr.lt;have tO:fw (w.alloc zJ) R s 0 e l:=hr.bf (S:=fun _=>False) ((ag.refl _ _).alloc _) (fun h=>h);have bK:=fP (t:=ints s) (p:=0) (by simp);rw[ax]at bK;have nL:=qG (ints s) 12 (aF (ints s) 0) (by rw[ax];exact bK);have Z:=fun(wv:World) (e l:Int) (h:fw wv R s (aF (ints s) 0) e l)=>reads 12 (Nat.le_refl _) wv R (aF (ints s) 0) s e l 1 h E bK rfl;unfold zJ at tO
 cases hv:value (ints s) 12 (aF (ints s) 0)with
 | bad er la=>
  have K:Hid (whole (ints s)=.bad er la):=by unfold whole;rw[hv];rfl
  rw[hv]at Z;go_enter Tryz.func56,Tryz.ntmps56;go_wp2_with(first
   | (go_at_call 90;refine(bD tO E (Nat.zero_le _)).mono ?_;rintro x w2 ⟨rfl,⟨⟨e2,l2,rY⟩,u⟩⟩)
   | (go_at_call 91;refine(Z _ _ _ rY).mono ?_;rintro x w3 ⟨⟨c,f,d,rfl⟩,⟨q3,X⟩,H⟩
      unfold flat;have N:fw (w3.alloc (.cells #[.int .i64 c,.int .i64 f,.string d,.slice none 0 0,.slice none 0 0] 25)) R s q3 er la:=X.bf (S:=fun _=>False) ((ag.refl _ _).alloc _) (fun h=>h);have z:ag (One R) (w.alloc zJ) (w3.alloc (.cells #[.int .i64 c,.int .i64 f,.string d,.slice none 0 0,.slice none 0 0] 25)):=(u.then H).alloc _;have j:=bW z G;obtain⟨i0,i1,i2,i3,i4⟩:=aj j;obtain⟨z0,z1,z2,z3,z4⟩:=aN j))
  have h5:=aK j (.int .i64 0) (.int .i64 0) (.string ⟨#[]⟩) (.slice none 0 0) (.slice none 0 0);have k:ag (One w.heap.size) (w3.alloc (.cells #[.int .i64 c,.int .i64 f,.string d,.slice none 0 0,.slice none 0 0] 25)) _:=aI (w3.alloc (.cells #[.int .i64 c,.int .i64 f,.string d,.slice none 0 0,.slice none 0 0] 25)) w.heap.size (.int .i64 0) (.int .i64 0) (.string ⟨#[]⟩) (.slice none 0 0) (.slice none 0 0);unfold di at h5 k;obtain⟨I,U,T,k3,V⟩:=aj h5;refine bodyPost_ret (v:=.tuple #[.agg #[.int .i64 0,.int .i64 0,.string ⟨#[]⟩,.slice none 0 0,.slice none 0 0],.bool false]) (by simp[results,Tryz.results56,go_sem,I,U,T,k3,V]) rfl ?_;rw[K.out];exact⟨⟨0,0,aH,rfl⟩,kQ z N k G⟩
 | ok jv qv=>
  rw[hv]at Z nL;have Y:qv<=s.size:=by have:=nL.2;rw[ax]at this;exact this
  clear nL
  by_cases ht:aF (ints s) qv<s.size
  ·have K:Hid (whole (ints s)=.bad 16 (aF (ints s) qv)):=by unfold whole;rw[hv];show(if _ then _ else _)=_;rw[ax,if_pos ht]
   go_enter Tryz.func56,Tryz.ntmps56;go_wp2_with(first
    | (go_at_call 90;refine(bD N E Y).mono ?_;rintro x F ⟨rfl,⟨⟨e5,l5,m⟩,A⟩⟩
       have c0:=m.c0;have c1:=m.c1)
    | (go_at_call 90;refine(bD tO E (Nat.zero_le _)).mono ?_;rintro x w2 ⟨rfl,⟨⟨e2,l2,rY⟩,u⟩⟩)
    | (go_at_call 91;refine(Z _ _ _ rY).mono ?_;rintro x w3 ⟨⟨c,f,d,pk,nk,ck,pl,nl,cl,rfl,hj⟩,⟨e3,l3,X⟩,H⟩
       have N:fw (w3.alloc (.cells #[.int .i64 c,.int .i64 f,.string d,.slice pk nk ck,.slice pl nl cl] 25)) R s qv e3 l3:=X.bf (S:=fun _=>False) ((ag.refl _ _).alloc _) (fun h=>h)))
   go_quiet (fail);have zf0:fw (F.drewN nq) R s (aF (ints s) qv) e5 l5:=m;go_wp2_with(first
    | (go_at_call 92;refine(gN zf0 16 (aF (ints s) qv:Nat)).mono ?_;rintro x w6 ⟨rfl,uk,o_⟩
       have z:ag (One R) (w.alloc zJ) w6:=(((u.then H).alloc (.cells #[.int .i64 c,.int .i64 f,.string d,.slice pk nk ck,.slice pl nl cl] 25)).then (A.drewN nq)).then o_;have j:=bW z G;obtain⟨i0,i1,i2,i3,i4⟩:=aj j;obtain⟨z0,z1,z2,z3,z4⟩:=aN j))
   have h5:=aK j (.int .i64 0) (.int .i64 0) (.string ⟨#[]⟩) (.slice none 0 0) (.slice none 0 0);have k:ag (One w.heap.size) w6 _:=aI w6 w.heap.size (.int .i64 0) (.int .i64 0) (.string ⟨#[]⟩) (.slice none 0 0) (.slice none 0 0);unfold di at h5 k;obtain⟨I,U,T,k3,V⟩:=aj h5;refine bodyPost_ret (v:=.tuple #[.agg #[.int .i64 0,.int .i64 0,.string ⟨#[]⟩,.slice none 0 0,.slice none 0 0],.bool false]) (by simp[results,Tryz.results56,go_sem,I,U,T,k3,V]) rfl ?_;rw[K.out];exact⟨⟨0,0,aH,rfl⟩,kQ z uk k G⟩
  ·have K:Hid (whole (ints s)=.ok jv (aF (ints s) qv)):=by unfold whole;rw[hv];show(if _ then _ else _)=_;rw[ax,if_neg ht]
   go_enter Tryz.func56,Tryz.ntmps56;go_wp2_with(first
    | (go_at_call 90;refine(bD N E Y).mono ?_;rintro x F ⟨rfl,⟨⟨e5,l5,m⟩,A⟩⟩
       have c0:=m.c0;have c1:=m.c1)
    | (go_at_call 90;refine(bD tO E (Nat.zero_le _)).mono ?_;rintro x w2 ⟨rfl,⟨⟨e2,l2,rY⟩,u⟩⟩)
    | (go_at_call 91;refine(Z _ _ _ rY).mono ?_;rintro x w3 ⟨⟨c,f,d,pk,nk,ck,pl,nl,cl,rfl,hj⟩,⟨e3,l3,X⟩,H⟩
       have N:fw (w3.alloc (.cells #[.int .i64 c,.int .i64 f,.string d,.slice pk nk ck,.slice pl nl cl] 25)) R s qv e3 l3:=X.bf (S:=fun _=>False) ((ag.refl _ _).alloc _) (fun h=>h)))
   go_quiet (fail);have A:=A.drewN nq;have m:fw (F.drewN nq) R s (aF (ints s) qv) e5 l5:=m;have z:ag (One R) (w.alloc zJ) (F.drewN nq):=((u.then H).alloc (.cells #[.int .i64 c,.int .i64 f,.string d,.slice pk nk ck,.slice pl nl cl] 25)).then A;have hvb:(F.drewN nq).heap[w3.heap.size]?=some (.cells #[.int .i64 c,.int .i64 f,.string d,.slice pk nk ck,.slice pl nl cl] 25 (0,0)):=bW A (by have:=u.size;have:=H.size;simp at*;omega);obtain⟨j0,j1,j2,j3,j4⟩:=aj hvb;have j:=bW z G;obtain⟨i0,i1,i2,i3,i4⟩:=aj j;obtain⟨z0,z1,z2,z3,z4⟩:=aN j;go_wp2;have h5:=aK j (.int .i64 c) (.int .i64 f) (.string d) (.slice pk nk ck) (.slice pl nl cl);have k:ag (One w.heap.size) (F.drewN nq) _:=aI (F.drewN nq) w.heap.size (.int .i64 c) (.int .i64 f) (.string d) (.slice pk nk ck) (.slice pl nl cl);unfold di at h5 k;obtain⟨I,U,T,k3,V⟩:=aj h5;refine bodyPost_ret (v:=.tuple #[.agg #[.int .i64 c,.int .i64 f,.string d,.slice pk nk ck,.slice pl nl cl],.bool true]) (by simp[results,Tryz.results56,go_sem,I,U,T,k3,V]) rfl ?_;rw[K.out];exact⟨⟨_,_,_,_,_,_,_,_,_,rfl,Qc (VD u.size (by have:=u.size;simp at this;omega) hj A) k⟩,uJ z m k G⟩
def VE(s:ByteArray)(i:Nat):Bool:=decide (ah (ints s) i=239/\ah (ints s) (i+1)=191/\ah (ints s) (i+2)=189)
theorem MZ{l:List UInt8}{n:Nat}(h:n+3<=l.length):(l.drop n).take 3= [l[n],l[n+1],l[n+2]]:=by
 rw[List.drop_eq_getElem_cons (by omega),List.drop_eq_getElem_cons (i:=n+1) (by omega),List.drop_eq_getElem_cons (i:=n+2) (by omega)]
 rfl
theorem GR(a:UInt8)(n:Nat)(c:n<256):((a.toNat:Int)=(n:Int))↔a=UInt8.ofNat n:=by
 constructor
 ·intro h
  apply UInt8.toNat_inj.1
  have:a.toNat=n:=by omega
  rw[this];simp;omega
 ·intro h;subst h;simp;omega
theorem zbB(s:ByteArray)(i:Nat):decide ((s.data.toList.drop i).take 3= [239,191,189])=VE s i:=by
 unfold VE;rw[decide_eq_decide];have u:s.data.toList.length=s.size:=by simp
 by_cases h:i+3<=s.size
 ·rw[MZ (by omega),Bg s i (by omega),Bg s (i+1) (by omega),Bg s (i+2) (by omega)];have d:=GR s[i] 239 (by omega);have m:=GR s[i+1] 191 (by omega);have j:=GR s[i+2] 189 (by omega);have g:∀k (f:k<s.size),s.data.toList[k]'(by omega)=s[k]:=fun k f=>by simp[ByteArray.getElem_eq_getElem_data]
  rw[g i (by omega),g (i+1) (by omega),g (i+2) (by omega)];simp only[List.cons.injEq,and_true];exact and_congr d.symm (and_congr m.symm j.symm)
 ·constructor
  ·intro c;have:=congrArg List.length c;simp at this;omega
  ·intro c;have:=mD s (i+2) (by omega);omega
theorem VF(s:ByteArray)(i:Nat):(((s.extract i s.size).extract 0 3).toList== [239,191,189])=VE s i:=by
 rw[<-zbB,Lib.toList_data,ByteArray.data_extract,Array.toList_extract,ByteArray.data_extract,Array.toList_extract];simp only[List.extract_eq_take_drop,List.drop_zero,Nat.sub_zero];have:(s.data.toList.drop i).take (s.size - i)=s.data.toList.drop i:=List.take_of_length_le (by simp);rw[this,Bool.eq_iff_iff];simp only[beq_iff_eq,decide_eq_true_eq]
theorem VG(s:ByteArray)(i:Nat)(w:World)(x:i<=s.size)(z:s.size<=1000000000):
    Calls Tryz.prog 118 #[.string (s.extract i s.size),.string ⟨#[239,191,189]⟩] w fun e w'=>e=.returned (.bool (VE s i))/\w=w':=by
 have h1:=VF s i;have d:(s.extract i s.size).size=s.size - i:=by simp
 by_cases h:i+3<=s.size
 ·obtain⟨u,c⟩:∃u,s.extract i s.size=u:=⟨_,rfl⟩;rw[c]at h1 d ⊢;have f:3<=u.size:=by omega
  have k:u.size<=1000000000:=by omega
  clear d c
  cases hb:VE s i
  all_goals
   rw[hb]at h1;go_enter Tryz.func118,Tryz.ntmps118;go_wp2;go_ret;exact⟨rfl,rfl⟩
 ·have j:VE s i=false:=by
    unfold VE
    apply decide_eq_false
    intro m;have:=mD s (i+2) (by omega);omega
  rw[j];obtain⟨u,c⟩:∃u,s.extract i s.size=u:=⟨_,rfl⟩;rw[c]at h1 d ⊢;have f:u.size<3:=by omega
  clear d c h1;go_enter Tryz.func118,Tryz.ntmps118;go_wp2;go_ret;exact⟨rfl,rfl⟩
theorem Co(s:ByteArray)(i:Nat)(w:World)(c:i<=s.size)(d:s.size<=1000000000):
    Calls Tryz.prog 89 #[.string (s.extract i s.size),.string ⟨#[239,191,189]⟩] w fun e w'=>e=.returned (.bool (VE s i))/\w=w':=by
 go_enter Tryz.func89,Tryz.ntmps89;go_wp2_with(go_at_call 118;refine(VG s i _ c d).mono ?_;rintro x w' ⟨rfl,rfl⟩);go_ret;exact⟨rfl,rfl⟩
def R3(r:Option Nat)(x:Ending):Prop:=match r with
 | none=>x=.returned (.tuple #[.int .i64 0,.bool false])
 | some p=>x=.returned (.tuple #[.int .i64 p,.bool true])
theorem Fs(s:ByteArray)(w:World)(I:s.size<=1000000000):
    Calls Tryz.prog 55 #[.string s] w fun x w'=>R3 (iB (ints s)) x/\∃pos,w'=w.iter s pos:=by
 go_enter Tryz.func55,Tryz.ntmps55;go_wp2
 go_loopw [4] (fun _ wr=>∃(pos m:Nat),wr=w.iter s pos/\strayL (ints s) m pos=iB (ints s)/\s.size<=pos+m) (fun _ wr=>s.size - wr.iterPos w.heap.size)
 case atStart=>exact⟨0,s.size,rfl,by unfold iB;rw[ax],by omega⟩
 case round=>
  obtain⟨pos,m,rfl,F,T⟩:=hrel;have f:Hid (strayL (ints s) m pos=iB (ints s)):=F;clear F
  by_cases A:pos<s.size
  ·have k:∀j,(Instr.next (.pointer (some ⟨w.heap.size,0,none⟩)) true j).run Tryz.prog (w.iter s pos)=_:=fun j=>run_next_any w s pos j A;have h:=uw s pos;obtain⟨m,rfl⟩:∃N,m=N+1:=⟨m - 1,by omega⟩;unfold strayL at f;rw[ax,if_pos A]at f
   by_cases h0:(bJ (ints s) pos).2=0
   ·rw[if_pos h0]at f h;have E:VE s pos=false:=by
     unfold VE
     apply decide_eq_false
     rintro⟨a,b,c⟩;rw[yO _ _ a b c]at h0
     cases h0
    have z:=fun w'=>Co s pos w' (by omega) I;rw[E]at z;rw[h]at k;go_wp2_with(go_at_call 89;refine(z _).mono ?_;rintro x w' ⟨rfl,rfl⟩);go_ret2;rw[<-f.out];exact⟨rfl,_,rfl⟩
   ·rw[if_neg h0]at f h;have H:=BL (ints s) pos
    by_cases G:(bJ (ints s) pos).1=65533
    ·have E:VE s pos=true:=decide_eq_true (PW (ints s) pos (j6 s) h0 G);have z:=fun w'=>Co s pos w' (by omega) I;rw[E]at z;rw[G]at h;rw[h]at k;obtain⟨wd,d⟩:∃wd,(bJ (ints s) pos).2=wd:=⟨_,rfl⟩;rw[d]at k f h0 H;clear h d;go_wp2_with(go_at_call 89;refine(z _).mono ?_;rintro x w' ⟨rfl,rfl⟩);go_roundw
     case rel=>exact⟨pos+wd,m,rfl,f.out,by omega⟩
     case measure=>simp;omega
    ·obtain⟨c,u⟩:∃c,(bJ (ints s) pos).1.toNat=c:=⟨_,rfl⟩;have S:(c:Int)≠65533:=by omega
     rw[u]at h;rw[h]at k;obtain⟨wd,d⟩:∃wd,(bJ (ints s) pos).2=wd:=⟨_,rfl⟩;rw[d]at k f h0 H;clear h d u;go_wp2;go_roundw
     case rel=>exact⟨pos+wd,m,rfl,f.out,by omega⟩
     case measure=>simp;omega
  ·have k:∀j,(Instr.next (.pointer (some ⟨w.heap.size,0,none⟩)) true j).run Tryz.prog (w.iter s pos)=_:=fun j=>run_next_end w s pos j A;go_wp2;go_ret2;have K:strayL (ints s) m pos=none:=by
    cases m with
    | zero=>rfl
    | succ m=>unfold strayL;rw[ax,if_neg A]
   rw[<-f.out,K];exact⟨rfl,_,rfl⟩
def decode(t:List Int):Res J:=if 16384<t.length then .bad 13 16384 else match iB t with
 | some p=>.bad 10 p
 | none=>whole t
def Zv(w w':World)(r:Res J)(x:Ending):Prop:=match r with
 | .ok j _=>(∃k i t pk nk ck pl nl cl,x=.returned (.tuple #[.agg #[.int .i64 k,.int .i64 i,.string t,.slice pk nk ck,.slice pl nl cl],.int .i64 0,.int .i64 0])/\isJ (gH w w') w' j [.int .i64 k,.int .i64 i,.string t,.slice pk nk ck,.slice pl nl cl])/\Below w.heap.size w w'
 | .bad e l=>x=.returned (.tuple #[.agg (flat 0 0 aH),.int .i64 e,.int .i64 l])/\Below w.heap.size w w'
theorem R4{B:Nat}{w:World}{p:Option Addr}{c:Nat}{d:List Int}(h:Rd B w p c d):
    (convert 36 9 (.slice p d.length c)).run Tryz.prog w=.ok (.string (strOfNums d)) w:=by
 cases p with
 | none=>
  have h0:d= []:=by
   cases d with
   | nil=>rfl
   | cons x r=>obtain⟨a,k,_⟩:=h.2.2 0 (by simp);cases k
  subst h0;exact run_convert_bytes_nil w 36 5 Tryz.underlying36 Tryz.underlying5 0 c 9 Tryz.underlying9
 | some a=>
  have:=run_convert_bytes_back (P:=Tryz.prog) w 36 9 5 a c (d.map fun n=>UInt8.ofNat n.toNat) Tryz.underlying36 Tryz.underlying5 Tryz.underlying9 (fun j z=>by
   have f:j<d.length:=by simpa using z
   obtain⟨E,k,_,u⟩:=h.2.2 j f
   cases k
   rw[u,List.getElem_map];have A:=h.2.1 d[j] (List.getElem_mem f);have m:d[j].toNat<256:=by omega
   rw[UInt8.toNat_ofNat_of_lt' m,List.getD_eq_getElem?_getD,List.getElem?_eq_getElem f]
   congr 2
   simp;omega)
  rw[List.length_map]at this;exact this
theorem M3{w:World}{B:Nat}{v:Value}{L:List Int}(h:w.ownsRow B 5 1 v L.length (L.map (Value.int .u8)))(f:∀x∈L,0<=x/\x<=255):∃q d,v=.slice q L.length d/\Rd w.heap.size w q d L:=by
 rcases h.2 with⟨rfl,m⟩| ⟨g,cap,cur,rfl,u,k,h1,h2,h3,h4⟩
 ·obtain rfl:L= []:=List.eq_nil_of_length_eq_zero m;exact⟨none,0,rfl,Nat.le_refl _,f,fun j c=>by simp at c⟩
 ·refine⟨_,cap,rfl,h1,f,fun j c=>⟨_,rfl,(Array.getElem?_eq_some_iff.1 k).1, ?_⟩⟩;have e:(⟨g,0,none⟩:Addr).add j=⟨g,j,none⟩:=by unfold Addr.add;split<;>simp_all
  rw[e,h.cellAt j (by omega),List.getElem?_map,List.getElem?_eq_getElem c,List.getD_eq_getElem?_getD,List.getElem?_eq_getElem c]
  rfl
theorem yX{w w3 W5:World}{o c:Obj}{R:Nat}(d:R=w.heap.size+1)(m:ag (One R) ((w.alloc o).alloc c) w3)(u:ag (One w.heap.size) w3 W5):Below w.heap.size w W5:=by
 subst d;have f:ag (fun _=>False) w ((w.alloc o).alloc c):=((ag.refl _ _).alloc _).alloc _;have k:=f.trans m (S:=fun _=>False) fun i x h=>by unfold One at h;omega
 have j:=k.trans u (S:=fun _=>False) fun i x h=>by unfold One at h;omega
 exact j.below (Nat.le_refl _) fun _ _ h=>h
theorem GU{w w3:World}{d:Obj}{cs:Array Value}(c:ag (One (w.heap.size+1)) ((w.alloc (.cells cs 25)).alloc d) w3):w3.heap[w.heap.size]?=some (.cells cs 25 (0,0)):=by
 rw[c.block w.heap.size (by simp;omega) (fun h=>by unfold One at h;omega),Below.heap_alloc _ _ _ (by simp)];exact heap_alloc_new _ _
theorem Zw(w:World)(s:ByteArray)(pos:Nat):fw (((w.alloc zJ).alloc (.cells #[.string s,.int .i64 0,.int .i64 0,.int .i64 0] 84)).iter s pos) (w.heap.size+1) s 0 0 0:=by
 unfold fw World.iter;rw[Below.heap_alloc _ _ _ (by simp)];have:=heap_alloc_new (w.alloc zJ) (.cells #[.string s,.int .i64 0,.int .i64 0,.int .i64 0] 84);rw[show(w.alloc zJ).heap.size=w.heap.size+1 by simp]at this;exact this
theorem zdN{w f w3 W5:World}{o2:Obj}{j:J}{cs:List Value}(m:isJ (gH f w3) w3 j cs)(c:ag (One w.heap.size) (w3.alloc o2) W5)(h1:w.heap.size<f.heap.size):isJ (gH w W5) W5 j cs:=by
 have u:=c.size;simp at u;refine m.carry fun k d=> ?_;have x:=d.1;have h:=d.2;exact⟨⟨by omega,by omega⟩,by rw[c.block k (by simp;omega) (by unfold One;omega),Below.heap_alloc _ _ _ h]⟩
theorem M4{w:World}{p:Option Addr}{c:Nat}{f:List Int}(mF:Rd w.heap.size w p c f)(hn:f.length<=1000000):
    Calls Tryz.prog 26 #[.slice p f.length c] w fun x w'=>Zv w w' (decode f) x:=by
 obtain⟨n,E⟩:∃n,f.length=n:=⟨_,rfl⟩
 by_cases lC:16384<n
 ·have T:Hid (decode f=.bad 13 16384):=by unfold decode;rw[E,if_pos lC];rfl
  rw[E];have zaW:=heap_alloc_new w zJ;unfold zJ at zaW;have k:(w.alloc (.cells #[.int .i64 0,.int .i64 0,.string ⟨#[]⟩,.slice none 0 0,.slice none 0 0] 25)).heap[w.heap.size]?=some (.cells #[.int .i64 0,.int .i64 0,.string ⟨#[]⟩,.slice none 0 0,.slice none 0 0] 25 (0,0)):=zaW;go_enter Tryz.func26,Tryz.ntmps26;go_wp2;obtain⟨N,V,U,Y,X⟩:=aj k;refine bodyPost_ret (v:=.tuple #[.agg #[.int .i64 0,.int .i64 0,.string ⟨#[]⟩,.slice none 0 0,.slice none 0 0],.int .i64 13,.int .i64 16384]) (by simp[results,Tryz.results26,go_sem,N,V,U,Y,X]) rfl ?_;rw[T.out];exact⟨rfl,(Below.refl _ _).alloc (Nat.le_refl _) _⟩
 ·have hcv:(convert 36 9 (.slice p n c)).run Tryz.prog (w.alloc zJ)=.ok (.string (strOfNums f)) (w.alloc zJ):=by
    rw[<-E];exact R4 (B:=w.heap.size) ⟨mF.1,mF.2.1,fun j hj=>by
     obtain⟨a,ha,hB,hc⟩:=mF.2.2 j hj;exact⟨a,ha,hB,(World.cell?_of_block (by rw[bu];exact Below.heap_alloc _ _ _ hB)).trans hc⟩⟩
  have zfG:ints (strOfNums f)=f:=xD f mF.2.1;have zf1:(strOfNums f).size=n:=by rw[fZ];exact E
  have H:Hid (decode f=match iB (ints (strOfNums f))with| some p=>.bad 10 p| none=>whole (ints (strOfNums f))):=by unfold decode;rw[E,if_neg lC,zfG];rfl
  rw[E];obtain⟨s,Z⟩:∃s,strOfNums f=s:=⟨_,rfl⟩;rw[Z]at hcv H zf1;clear Z zfG;have hs:short s:=by unfold short;omega
  have sa:=fun w'=>Fs s w' (by omega);have lY:=Zw w s;unfold zJ at hcv lY
  cases lM:iB (ints s)with
  | some at1=>
   have T:Hid (decode f=.bad 10 at1):=by rw[H.out,lM];rfl
   rw[lM]at sa;clear H;go_enter Tryz.func26,Tryz.ntmps26;go_wp2_with(first
    | (go_at_call 55;refine(sa _).mono ?_;rintro x w1 ⟨rfl,pos,rfl⟩
       have F:ag (One (w.heap.size+1)) ((w.alloc (.cells #[.int .i64 0,.int .i64 0,.string ⟨#[]⟩,.slice none 0 0,.slice none 0 0] 25)).alloc (.cells #[.string s,.int .i64 0,.int .i64 0,.int .i64 0] 84)) (((w.alloc (.cells #[.int .i64 0,.int .i64 0,.string ⟨#[]⟩,.slice none 0 0,.slice none 0 0] 25)).alloc (.cells #[.string s,.int .i64 0,.int .i64 0,.int .i64 0] 84)).iter s pos):=(ag.refl _ _).alloc _;have k:=GU F;obtain⟨i0,i1,i2,i3,i4⟩:=aj k;obtain⟨z0,z1,z2,z3,z4⟩:=aN k))
   have h5:=aK k (.int .i64 0) (.int .i64 0) (.string ⟨#[]⟩) (.slice none 0 0) (.slice none 0 0);have G:ag (One w.heap.size) (((w.alloc (.cells #[.int .i64 0,.int .i64 0,.string ⟨#[]⟩,.slice none 0 0,.slice none 0 0] 25)).alloc (.cells #[.string s,.int .i64 0,.int .i64 0,.int .i64 0] 84)).iter s pos) _:=aI (((w.alloc (.cells #[.int .i64 0,.int .i64 0,.string ⟨#[]⟩,.slice none 0 0,.slice none 0 0] 25)).alloc (.cells #[.string s,.int .i64 0,.int .i64 0,.int .i64 0] 84)).iter s pos) w.heap.size (.int .i64 0) (.int .i64 0) (.string ⟨#[]⟩) (.slice none 0 0) (.slice none 0 0);unfold di at h5 G;obtain⟨N,V,U,Y,X⟩:=aj h5;refine bodyPost_ret (v:=.tuple #[.agg #[.int .i64 0,.int .i64 0,.string ⟨#[]⟩,.slice none 0 0,.slice none 0 0],.int .i64 10,.int .i64 at1]) (by simp[results,Tryz.results26,go_sem,N,V,U,Y,X]) rfl ?_;rw[T.out];exact⟨rfl,yX rfl F G⟩
  | none=>
   rw[lM]at sa;have H:Hid (decode f=whole (ints s)):=by rw[H.out,lM];rfl
   have hW:=fun pos=>RZ (lY pos) hs
   cases hv:whole (ints s)with
   | bad er la=>
    have T:Hid (decode f=.bad er la):=by rw[H.out,hv];rfl
    rw[hv]at hW;clear H;go_enter Tryz.func26,Tryz.ntmps26;go_wp2_with(first
     | (go_at_call 55;refine(sa _).mono ?_;rintro x w1 ⟨rfl,pos,rfl⟩)
     | (go_at_call 56;refine(hW _).mono ?_;rintro x w3 ⟨⟨m,A,z,rfl⟩,⟨I,iL⟩,fB⟩
        unfold flat;have F:ag (One (w.heap.size+1)) ((w.alloc (.cells #[.int .i64 0,.int .i64 0,.string ⟨#[]⟩,.slice none 0 0,.slice none 0 0] 25)).alloc (.cells #[.string s,.int .i64 0,.int .i64 0,.int .i64 0] 84)) (w3.alloc (.cells #[.int .i64 m,.int .i64 A,.string z,.slice none 0 0,.slice none 0 0] 25)):=(((ag.refl _ _).alloc _).then fB).alloc _;have MX:fw (w3.alloc (.cells #[.int .i64 m,.int .i64 A,.string z,.slice none 0 0,.slice none 0 0] 25)) (w.heap.size+1) s I er la:=iL.bf (S:=fun _=>False) ((ag.refl _ _).alloc _) (fun h=>h);have k:=GU F))
    refine aD (by kernel_rfl) (fun w'=>fw w' (w.heap.size+1) s I er la) ?_;change wpIn _ _ _ _ _ _ _ _ (World.drew _);have fM:fw (w3.alloc (.cells #[.int .i64 m,.int .i64 A,.string z,.slice none 0 0,.slice none 0 0] 25)).drew (w.heap.size+1) s I er la:=MX;have F:=F.drew;have k:(w3.alloc (.cells #[.int .i64 m,.int .i64 A,.string z,.slice none 0 0,.slice none 0 0] 25)).drew.heap[w.heap.size]?=some (.cells #[.int .i64 0,.int .i64 0,.string ⟨#[]⟩,.slice none 0 0,.slice none 0 0] 25 (0,0)):=k;generalize (w3.alloc (.cells #[.int .i64 m,.int .i64 A,.string z,.slice none 0 0,.slice none 0 0] 25)).drew=W0 at fM F k ⊢;obtain⟨i0,i1,i2,i3,i4⟩:=aj k;obtain⟨z0,z1,z2,z3,z4⟩:=aN k;refine aC (i:=0) (d:=some 32) rfl (by(intro wq u;have q2:=fw.c2 u;have I:=fw.c3 u;go_simp;first| done| with_reducible rfl)) ?_;refine aC (i:=1) (d:=some 33) rfl (by(intro wq u;have q2:=fw.c2 u;have I:=fw.c3 u;go_simp;first| done| with_reducible rfl)) ?_;refine aC (i:=2) (d:=some 34) rfl (by(intro wq u;have q2:=fw.c2 u;have I:=fw.c3 u;go_simp;first| done| with_reducible rfl)) ?_;refine aC (i:=3) (d:=some 35) rfl (by(intro wq u;have q2:=fw.c2 u;have I:=fw.c3 u;go_simp;first| done| with_reducible rfl)) ?_;refine aC (i:=4) (d:=some 36) rfl (by(intro wq u;have q2:=fw.c2 u;have I:=fw.c3 u;go_simp;first| done| with_reducible rfl)) ?_;refine av (i:=5) fM rfl ?_;intro K hK;go_simp;refine hK _ _ ?_;clear hK K;have HK6:ag (One w.heap.size) W0 _:=aI W0 w.heap.size (.int .i64 0) (.int .i64 0) (.string ⟨#[]⟩) (.slice none 0 0) (.slice none 0 0);have iI:=fM.bf HK6 (by unfold One;omega);unfold di at iI HK6;refine aa (i:=6) (d:=some 3) rfl ?_;refine aa (i:=7) (d:=some 4) rfl ?_;refine aB iI (by kernel_rfl) ?_ _;go_wp2;have h5:=aK k (.int .i64 0) (.int .i64 0) (.string ⟨#[]⟩) (.slice none 0 0) (.slice none 0 0);have G:ag (One w.heap.size) W0 _:=aI W0 w.heap.size (.int .i64 0) (.int .i64 0) (.string ⟨#[]⟩) (.slice none 0 0) (.slice none 0 0);unfold di at h5 G;obtain⟨N,V,U,Y,X⟩:=aj h5;refine bodyPost_ret (v:=.tuple #[.agg #[.int .i64 0,.int .i64 0,.string ⟨#[]⟩,.slice none 0 0,.slice none 0 0],.int .i64 er,.int .i64 la]) (by simp[results,Tryz.results26,go_sem,N,V,U,Y,X]) rfl ?_;rw[T.out];exact⟨rfl,yX rfl F G⟩
   | ok jv qv=>
    have T:Hid (decode f=.ok jv qv):=by rw[H.out,hv];rfl
    rw[hv]at hW;clear H;go_enter Tryz.func26,Tryz.ntmps26;go_wp2_with(first
     | (go_at_call 55;refine(sa _).mono ?_;rintro x w1 ⟨rfl,pos,rfl⟩)
     | (go_at_call 56;refine(hW _).mono ?_;rintro x w3 ⟨⟨m,A,z,pk,nk,ck,pl,nl,cl,rfl,hj⟩,⟨e3,l3,iL⟩,fB⟩
        have F:ag (One (w.heap.size+1)) ((w.alloc (.cells #[.int .i64 0,.int .i64 0,.string ⟨#[]⟩,.slice none 0 0,.slice none 0 0] 25)).alloc (.cells #[.string s,.int .i64 0,.int .i64 0,.int .i64 0] 84)) (w3.alloc (.cells #[.int .i64 m,.int .i64 A,.string z,.slice pk nk ck,.slice pl nl cl] 25)):=(((ag.refl _ _).alloc _).then fB).alloc _;have hvb:(w3.alloc (.cells #[.int .i64 m,.int .i64 A,.string z,.slice pk nk ck,.slice pl nl cl] 25)).heap[w3.heap.size]?=some (.cells #[.int .i64 m,.int .i64 A,.string z,.slice pk nk ck,.slice pl nl cl] 25 (0,0)):=heap_alloc_new _ _;have k:=GU F;obtain⟨i0,i1,i2,i3,i4⟩:=aj k;obtain⟨z0,z1,z2,z3,z4⟩:=aN k))
    have h5:=aK k (.int .i64 m) (.int .i64 A) (.string z) (.slice pk nk ck) (.slice pl nl cl);have G:ag (One w.heap.size) (w3.alloc (.cells #[.int .i64 m,.int .i64 A,.string z,.slice pk nk ck,.slice pl nl cl] 25)) _:=aI (w3.alloc (.cells #[.int .i64 m,.int .i64 A,.string z,.slice pk nk ck,.slice pl nl cl] 25)) w.heap.size (.int .i64 m) (.int .i64 A) (.string z) (.slice pk nk ck) (.slice pl nl cl);unfold di at h5 G;obtain⟨N,V,U,Y,X⟩:=aj h5;refine bodyPost_ret (v:=.tuple #[.agg #[.int .i64 m,.int .i64 A,.string z,.slice pk nk ck,.slice pl nl cl],.int .i64 0,.int .i64 0]) (by simp[results,Tryz.results26,go_sem,N,V,U,Y,X]) rfl ?_;rw[T.out];exact⟨⟨_,_,_,_,_,_,_,_,_,rfl,zdN hj G (by simp[World.iter];omega)⟩,yX rfl F G⟩
structure NB(B K:Nat)(w w':World):Prop where
 os:w'.os=w.os
 tape:w'.tape=w.tape
 output:w'.output=w.output
 size:w.heap.size<=w'.heap.size
 block:∀k,k<w.heap.size->k≠K->(k<B\/ ∀cur fr,w.heap[k]?≠some (.cells cur 5 fr))->w'.heap[k]?=w.heap[k]?
theorem NB.refl(B K:Nat)(w:World):NB B K w w:=⟨rfl,rfl,rfl,Nat.le_refl _,fun _ _ _ _=>rfl⟩
theorem NB.trans{B K:Nat}{a b c:World}(h:NB B K a b)(g:NB B K b c):NB B K a c:=
 ⟨g.os.trans h.os,g.tape.trans h.tape,g.output.trans h.output,Nat.le_trans h.size g.size,fun k d f j=>by
  have e:=h.block k d f j;exact(g.block k (Nat.lt_of_lt_of_le d h.size) f (j.imp id fun u cur m=>by rw[e];exact u cur m)).trans e⟩
theorem NB.alloc{B K:Nat}{a b:World}(h:NB B K a b)(o:Obj):NB B K a (b.alloc o):=
 h.trans ⟨rfl,rfl,rfl,by simp,fun k c _ _=>Below.heap_alloc _ _ _ c⟩
theorem NB.bf{B K:Nat}{a b:World}(h:ag (One K) a b):NB B K a b:=⟨h.os,h.tape,h.output,h.size,fun k c d _=>h.block k c d⟩
theorem NB.below{B K:Nat}{a b:World}(h:NB B K a b)(f:K<=B)(c:K<=a.heap.size):Below K a b:=⟨h.os,h.tape,h.output,h.size,fun k d=>h.block k (by omega) (by omega) (.inl (by omega))⟩
structure Ea(w:World)(B K:Nat)(out:List Int):Prop where
 row:∃v,w.heap[K]?=some (.cells #[v] 90 (0,0))/\w.ownsRow B 5 1 v out.length (out.map (Value.int .u8))
 lt:K<B
 size:B<=w.heap.size
theorem Fu{w:World}{B n:Nat}{v:Value}{xs:List Value}(h:w.ownsRow B 5 1 v n xs):∀k,v.ownBlock=some k->B<=k/\∃cur f,w.heap[k]?=some (.cells cur 5 f):=by
 intro k c
 rcases h.2 with⟨rfl,_⟩| ⟨g,cap,cur,rfl,j,d,_⟩
 ·cases c
 ·cases c;exact⟨j,cur,_,d⟩
theorem Ea.alloc{w:World}{B K:Nat}{out:List Int}(h:Ea w B K out)(o:Obj):Ea (w.alloc o) B K out:=by
 obtain⟨v,h1,h2⟩:=h.row;have:=h.lt;have:=h.size;exact⟨⟨v,by rw[Below.heap_alloc _ _ _ (by omega)];exact h1,h2.alloc o⟩,h.lt,by simp;omega⟩
theorem GV{w:World}{K:Nat}{v:Value}{t:TypeId}(h:w.heap[K]?=some (.cells #[v] t (0,0))):w.cell? ⟨K,0,none⟩=some v:=aQ (cur:= [_]) h 0 _ rfl
def iW(w w':World)(B K:Nat)(out s:List Int)(x:Ending):Prop:=x=.returned (.tuple #[])/\(∃xe,IV out s xe/\xe.length<=20000/\Ea w' B K xe)/\NB B K w w'
theorem Cq{w:World}{B K:Nat}{out:List Int}(h:Ea w B K out):
    Calls Tryz.prog 65 #[.pointer (some ⟨K,0,none⟩)] w fun x w'=>x=.returned (.bool (decide (16384<out.length)))/\w=w':=by
 obtain⟨v,h1,h2⟩:=h.row;obtain⟨q,c,rfl,_⟩:∃q c,v=.slice q out.length c/\True:=by
  rcases h2.2 with⟨rfl,d⟩| ⟨g,cap,cur,rfl,_⟩
  ·exact⟨none,0,by rw[d],trivial⟩
  ·exact⟨_,_,rfl,trivial⟩
 have c0:=GV h1;obtain⟨n,d⟩:∃n,out.length=n:=⟨_,rfl⟩;rw[d]at c0 ⊢;go_enter Tryz.func65,Tryz.ntmps65;go_wp2;go_ret;refine⟨ak ?_,rfl⟩;rw[decide_eq_decide];omega
theorem Ep(s:ByteArray):Lib.strCells s=(ints s).map (Value.int .u8):=by
 unfold Lib.strCells ints;simp
theorem j_{w:World}{B K:Nat}{out:List Int}(h:Ea w B K out)(S:out.length<=20000)(s:ByteArray)(hs:s.size<=100):
    Calls Tryz.prog 100 #[.pointer (some ⟨K,0,none⟩),.string s] w fun x w'=>iW w w' B K out (ints s) x:=by
 have u:=Cq h;have j:=IV.one out (ints s)
 by_cases m:16384<out.length
 ·rw[decide_eq_true m]at u;rw[if_pos m]at j;go_enter Tryz.func100,Tryz.ntmps100;go_wp2_with(go_at_call 65;refine u.mono ?_;rintro x w' ⟨rfl,rfl⟩)
  go_end0
  exact⟨rfl,⟨out,j,S,h⟩,NB.refl _ _ _⟩
 ·rw[decide_eq_false m]at u;rw[if_neg m]at j;obtain⟨v,h1,h2⟩:=h.row;have c0:=GV h1;have Y:=h.size;have T:=h.lt;obtain⟨i0,X,I,V,U⟩:=info_parts Tryz.IX;go_enter Tryz.func100,Tryz.ntmps100;go_wp2_with(first
   | (go_at_call 65;refine u.mono ?_;rintro x w' ⟨rfl,rfl⟩)
   | (at_builtin;refine Lib.wpList_append_own_string _ rfl _ _ 36 9 rfl B 5 i0 Tryz.underlying36 Tryz.underlying9 X I V U _ _ _ rfl h2 s rfl ?c3 ?c4 ?c5 ?_
      case c3=>unfold maxLen;omega
      case c4=>omega
      case c5=>exact Y
      intro v' f A c _;have F:=Fu h2;have d:f.heap[K]?=some (.cells #[v] 90 (0,0)):=by
       rw[c.block K (by omega) (fun e=>by have:=(F K e.symm).1;omega)];exact h1
      have d0:=GV d;have z0:f.frozen? ⟨K,0,none⟩=false:=frozen_of_row f K 0 _ _ d;obtain⟨G,Z,c5,N⟩:=gp A;subst N))
  go_end0
  have K3:ag (One K) f (f.setCell ⟨K,0,none⟩ (.slice G Z c5)):=ag.setCell (ag.refl _ _) (fun _=>(rfl:K=K)) _;refine⟨rfl,⟨out++ints s,j,by rw[List.length_append,ax];omega,⟨⟨_,by rw[heap_setCell_same _ K 0 _ _ _ d];rfl, ?_⟩,T, ?_⟩⟩, ?_⟩
  ·rw[List.length_append,ax,List.map_append,<-Ep];exact aX A K3 fun k e=>by have:=(Fu A k e).1;unfold One;omega
  ·have:=c.size;simp;omega
  ·refine NB.trans (b:=f) ⟨c.os,c.tape,c.output,c.size,fun k hk hn z=>c.block k hk fun e=> ?_⟩ (NB.bf K3);obtain⟨e1,cur,H,e2⟩:=F k e.symm
   rcases z with E| E
   ·omega
   ·exact E cur H e2
theorem Fv{w:World}{B K:Nat}{out:List Int}(d:Ea w B K out)(c:out.length<=20000)(i:Nat)(m:i<=1000000):
    Calls Tryz.prog 135 #[.pointer (some ⟨K,0,none⟩),.int .i64 i] w fun x w'=>iW w w' B K out (if i=0 then []else [44]) x:=by
 by_cases h0:i=0
 ·subst h0;go_enter Tryz.func135,Tryz.ntmps135;go_wp2
  go_end0
  exact⟨rfl,⟨out,IV.nil _,c,d⟩,NB.refl _ _ _⟩
 ·have k:0<i:=by omega
  have h:=j_ d c ⟨#[44]⟩ (by decide);rw[if_neg h0];go_enter Tryz.func135,Tryz.ntmps135;go_wp2_with(go_at_call 100;refine h.mono ?_;rintro x j ⟨rfl,f⟩)
  go_end0
  exact⟨rfl,f⟩
def escRune(l:Int):List Int:=if l<128 then aG l else Lib.encodeRuneZ l
theorem R5(w:World):Calls Tryz.prog 134 #[.int .i32 0] w fun x w'=>x=.returned (.string (strOfNums (aG 0)))/\ag (fun _=>False) w w':=by
 have c:bits .and .i32 0 15=0:=by kernel_rfl
 go_enter Tryz.func134,Tryz.ntmps134;go_wp2;go_quiet (fail);go_wp2;go_ret;exact⟨by kernel_rfl,(ag.refl _ _).drewN _⟩
theorem R6(w:World):Calls Tryz.prog 134 #[.int .i32 1] w fun x w'=>x=.returned (.string (strOfNums (aG 1)))/\ag (fun _=>False) w w':=by
 have c:bits .and .i32 1 15=1:=by kernel_rfl
 go_enter Tryz.func134,Tryz.ntmps134;go_wp2;go_quiet (fail);go_wp2;go_ret;exact⟨by kernel_rfl,(ag.refl _ _).drewN _⟩
theorem R7(w:World):Calls Tryz.prog 134 #[.int .i32 2] w fun x w'=>x=.returned (.string (strOfNums (aG 2)))/\ag (fun _=>False) w w':=by
 have c:bits .and .i32 2 15=2:=by kernel_rfl
 go_enter Tryz.func134,Tryz.ntmps134;go_wp2;go_quiet (fail);go_wp2;go_ret;exact⟨by kernel_rfl,(ag.refl _ _).drewN _⟩
theorem R8(w:World):Calls Tryz.prog 134 #[.int .i32 3] w fun x w'=>x=.returned (.string (strOfNums (aG 3)))/\ag (fun _=>False) w w':=by
 have c:bits .and .i32 3 15=3:=by kernel_rfl
 go_enter Tryz.func134,Tryz.ntmps134;go_wp2;go_quiet (fail);go_wp2;go_ret;exact⟨by kernel_rfl,(ag.refl _ _).drewN _⟩
theorem R9(w:World):Calls Tryz.prog 134 #[.int .i32 4] w fun x w'=>x=.returned (.string (strOfNums (aG 4)))/\ag (fun _=>False) w w':=by
 have c:bits .and .i32 4 15=4:=by kernel_rfl
 go_enter Tryz.func134,Tryz.ntmps134;go_wp2;go_quiet (fail);go_wp2;go_ret;exact⟨by kernel_rfl,(ag.refl _ _).drewN _⟩
theorem R_(w:World):Calls Tryz.prog 134 #[.int .i32 5] w fun x w'=>x=.returned (.string (strOfNums (aG 5)))/\ag (fun _=>False) w w':=by
 have c:bits .and .i32 5 15=5:=by kernel_rfl
 go_enter Tryz.func134,Tryz.ntmps134;go_wp2;go_quiet (fail);go_wp2;go_ret;exact⟨by kernel_rfl,(ag.refl _ _).drewN _⟩
theorem Sa(w:World):Calls Tryz.prog 134 #[.int .i32 6] w fun x w'=>x=.returned (.string (strOfNums (aG 6)))/\ag (fun _=>False) w w':=by
 have c:bits .and .i32 6 15=6:=by kernel_rfl
 go_enter Tryz.func134,Tryz.ntmps134;go_wp2;go_quiet (fail);go_wp2;go_ret;exact⟨by kernel_rfl,(ag.refl _ _).drewN _⟩
theorem Sb(w:World):Calls Tryz.prog 134 #[.int .i32 7] w fun x w'=>x=.returned (.string (strOfNums (aG 7)))/\ag (fun _=>False) w w':=by
 have c:bits .and .i32 7 15=7:=by kernel_rfl
 go_enter Tryz.func134,Tryz.ntmps134;go_wp2;go_quiet (fail);go_wp2;go_ret;exact⟨by kernel_rfl,(ag.refl _ _).drewN _⟩
theorem M5(w:World):Calls Tryz.prog 134 #[.int .i32 11] w fun x w'=>x=.returned (.string (strOfNums (aG 11)))/\ag (fun _=>False) w w':=by
 have c:bits .and .i32 11 15=11:=by kernel_rfl
 go_enter Tryz.func134,Tryz.ntmps134;go_wp2;go_quiet (fail);go_wp2;go_ret;exact⟨by kernel_rfl,(ag.refl _ _).drewN _⟩
theorem M6(w:World):Calls Tryz.prog 134 #[.int .i32 14] w fun x w'=>x=.returned (.string (strOfNums (aG 14)))/\ag (fun _=>False) w w':=by
 have c:bits .and .i32 14 15=14:=by kernel_rfl
 go_enter Tryz.func134,Tryz.ntmps134;go_wp2;go_quiet (fail);go_wp2;go_ret;exact⟨by kernel_rfl,(ag.refl _ _).drewN _⟩
theorem M7(w:World):Calls Tryz.prog 134 #[.int .i32 15] w fun x w'=>x=.returned (.string (strOfNums (aG 15)))/\ag (fun _=>False) w w':=by
 have c:bits .and .i32 15 15=15:=by kernel_rfl
 go_enter Tryz.func134,Tryz.ntmps134;go_wp2;go_quiet (fail);go_wp2;go_ret;exact⟨by kernel_rfl,(ag.refl _ _).drewN _⟩
theorem M8(w:World):Calls Tryz.prog 134 #[.int .i32 16] w fun x w'=>x=.returned (.string (strOfNums (aG 16)))/\ag (fun _=>False) w w':=by
 have c:bits .and .i32 16 15=0:=by kernel_rfl
 go_enter Tryz.func134,Tryz.ntmps134;go_wp2;go_quiet (fail);go_wp2;go_ret;exact⟨by kernel_rfl,(ag.refl _ _).drewN _⟩
theorem M9(w:World):Calls Tryz.prog 134 #[.int .i32 17] w fun x w'=>x=.returned (.string (strOfNums (aG 17)))/\ag (fun _=>False) w w':=by
 have c:bits .and .i32 17 15=1:=by kernel_rfl
 go_enter Tryz.func134,Tryz.ntmps134;go_wp2;go_quiet (fail);go_wp2;go_ret;exact⟨by kernel_rfl,(ag.refl _ _).drewN _⟩
theorem M_(w:World):Calls Tryz.prog 134 #[.int .i32 18] w fun x w'=>x=.returned (.string (strOfNums (aG 18)))/\ag (fun _=>False) w w':=by
 have c:bits .and .i32 18 15=2:=by kernel_rfl
 go_enter Tryz.func134,Tryz.ntmps134;go_wp2;go_quiet (fail);go_wp2;go_ret;exact⟨by kernel_rfl,(ag.refl _ _).drewN _⟩
theorem Na(w:World):Calls Tryz.prog 134 #[.int .i32 19] w fun x w'=>x=.returned (.string (strOfNums (aG 19)))/\ag (fun _=>False) w w':=by
 have c:bits .and .i32 19 15=3:=by kernel_rfl
 go_enter Tryz.func134,Tryz.ntmps134;go_wp2;go_quiet (fail);go_wp2;go_ret;exact⟨by kernel_rfl,(ag.refl _ _).drewN _⟩
theorem Nb(w:World):Calls Tryz.prog 134 #[.int .i32 20] w fun x w'=>x=.returned (.string (strOfNums (aG 20)))/\ag (fun _=>False) w w':=by
 have c:bits .and .i32 20 15=4:=by kernel_rfl
 go_enter Tryz.func134,Tryz.ntmps134;go_wp2;go_quiet (fail);go_wp2;go_ret;exact⟨by kernel_rfl,(ag.refl _ _).drewN _⟩
theorem Nc(w:World):Calls Tryz.prog 134 #[.int .i32 21] w fun x w'=>x=.returned (.string (strOfNums (aG 21)))/\ag (fun _=>False) w w':=by
 have c:bits .and .i32 21 15=5:=by kernel_rfl
 go_enter Tryz.func134,Tryz.ntmps134;go_wp2;go_quiet (fail);go_wp2;go_ret;exact⟨by kernel_rfl,(ag.refl _ _).drewN _⟩
theorem Nf(w:World):Calls Tryz.prog 134 #[.int .i32 22] w fun x w'=>x=.returned (.string (strOfNums (aG 22)))/\ag (fun _=>False) w w':=by
 have c:bits .and .i32 22 15=6:=by kernel_rfl
 go_enter Tryz.func134,Tryz.ntmps134;go_wp2;go_quiet (fail);go_wp2;go_ret;exact⟨by kernel_rfl,(ag.refl _ _).drewN _⟩
theorem Ng(w:World):Calls Tryz.prog 134 #[.int .i32 23] w fun x w'=>x=.returned (.string (strOfNums (aG 23)))/\ag (fun _=>False) w w':=by
 have c:bits .and .i32 23 15=7:=by kernel_rfl
 go_enter Tryz.func134,Tryz.ntmps134;go_wp2;go_quiet (fail);go_wp2;go_ret;exact⟨by kernel_rfl,(ag.refl _ _).drewN _⟩
theorem Nh(w:World):Calls Tryz.prog 134 #[.int .i32 24] w fun x w'=>x=.returned (.string (strOfNums (aG 24)))/\ag (fun _=>False) w w':=by
 have c:bits .and .i32 24 15=8:=by kernel_rfl
 go_enter Tryz.func134,Tryz.ntmps134;go_wp2;go_quiet (fail);go_wp2;go_ret;exact⟨by kernel_rfl,(ag.refl _ _).drewN _⟩
theorem Ni(w:World):Calls Tryz.prog 134 #[.int .i32 25] w fun x w'=>x=.returned (.string (strOfNums (aG 25)))/\ag (fun _=>False) w w':=by
 have c:bits .and .i32 25 15=9:=by kernel_rfl
 go_enter Tryz.func134,Tryz.ntmps134;go_wp2;go_quiet (fail);go_wp2;go_ret;exact⟨by kernel_rfl,(ag.refl _ _).drewN _⟩
theorem Nj(w:World):Calls Tryz.prog 134 #[.int .i32 26] w fun x w'=>x=.returned (.string (strOfNums (aG 26)))/\ag (fun _=>False) w w':=by
 have c:bits .and .i32 26 15=10:=by kernel_rfl
 go_enter Tryz.func134,Tryz.ntmps134;go_wp2;go_quiet (fail);go_wp2;go_ret;exact⟨by kernel_rfl,(ag.refl _ _).drewN _⟩
theorem Nk(w:World):Calls Tryz.prog 134 #[.int .i32 27] w fun x w'=>x=.returned (.string (strOfNums (aG 27)))/\ag (fun _=>False) w w':=by
 have c:bits .and .i32 27 15=11:=by kernel_rfl
 go_enter Tryz.func134,Tryz.ntmps134;go_wp2;go_quiet (fail);go_wp2;go_ret;exact⟨by kernel_rfl,(ag.refl _ _).drewN _⟩
theorem Nl(w:World):Calls Tryz.prog 134 #[.int .i32 28] w fun x w'=>x=.returned (.string (strOfNums (aG 28)))/\ag (fun _=>False) w w':=by
 have c:bits .and .i32 28 15=12:=by kernel_rfl
 go_enter Tryz.func134,Tryz.ntmps134;go_wp2;go_quiet (fail);go_wp2;go_ret;exact⟨by kernel_rfl,(ag.refl _ _).drewN _⟩
theorem Nn(w:World):Calls Tryz.prog 134 #[.int .i32 29] w fun x w'=>x=.returned (.string (strOfNums (aG 29)))/\ag (fun _=>False) w w':=by
 have c:bits .and .i32 29 15=13:=by kernel_rfl
 go_enter Tryz.func134,Tryz.ntmps134;go_wp2;go_quiet (fail);go_wp2;go_ret;exact⟨by kernel_rfl,(ag.refl _ _).drewN _⟩
theorem Np(w:World):Calls Tryz.prog 134 #[.int .i32 30] w fun x w'=>x=.returned (.string (strOfNums (aG 30)))/\ag (fun _=>False) w w':=by
 have c:bits .and .i32 30 15=14:=by kernel_rfl
 go_enter Tryz.func134,Tryz.ntmps134;go_wp2;go_quiet (fail);go_wp2;go_ret;exact⟨by kernel_rfl,(ag.refl _ _).drewN _⟩
theorem Nq(w:World):Calls Tryz.prog 134 #[.int .i32 31] w fun x w'=>x=.returned (.string (strOfNums (aG 31)))/\ag (fun _=>False) w w':=by
 have c:bits .and .i32 31 15=15:=by kernel_rfl
 go_enter Tryz.func134,Tryz.ntmps134;go_wp2;go_quiet (fail);go_wp2;go_ret;exact⟨by kernel_rfl,(ag.refl _ _).drewN _⟩
theorem Nr(w:World):Calls Tryz.prog 134 #[.int .i32 34] w fun x w'=>x=.returned (.string (strOfNums (aG 34)))/\ag (fun _=>False) w w':=by
 go_enter Tryz.func134,Tryz.ntmps134;go_wp2;go_ret;exact⟨by kernel_rfl,ag.refl _ _⟩
theorem Ns(w:World):Calls Tryz.prog 134 #[.int .i32 92] w fun x w'=>x=.returned (.string (strOfNums (aG 92)))/\ag (fun _=>False) w w':=by
 go_enter Tryz.func134,Tryz.ntmps134;go_wp2;go_ret;exact⟨by kernel_rfl,ag.refl _ _⟩
theorem Sc(w:World):Calls Tryz.prog 134 #[.int .i32 8] w fun x w'=>x=.returned (.string (strOfNums (aG 8)))/\ag (fun _=>False) w w':=by
 go_enter Tryz.func134,Tryz.ntmps134;go_wp2;go_ret;exact⟨by kernel_rfl,ag.refl _ _⟩
theorem Sd(w:World):Calls Tryz.prog 134 #[.int .i32 9] w fun x w'=>x=.returned (.string (strOfNums (aG 9)))/\ag (fun _=>False) w w':=by
 go_enter Tryz.func134,Tryz.ntmps134;go_wp2;go_ret;exact⟨by kernel_rfl,ag.refl _ _⟩
theorem Nt(w:World):Calls Tryz.prog 134 #[.int .i32 10] w fun x w'=>x=.returned (.string (strOfNums (aG 10)))/\ag (fun _=>False) w w':=by
 go_enter Tryz.func134,Tryz.ntmps134;go_wp2;go_ret;exact⟨by kernel_rfl,ag.refl _ _⟩
theorem Nu(w:World):Calls Tryz.prog 134 #[.int .i32 12] w fun x w'=>x=.returned (.string (strOfNums (aG 12)))/\ag (fun _=>False) w w':=by
 go_enter Tryz.func134,Tryz.ntmps134;go_wp2;go_ret;exact⟨by kernel_rfl,ag.refl _ _⟩
theorem Nv(w:World):Calls Tryz.prog 134 #[.int .i32 13] w fun x w'=>x=.returned (.string (strOfNums (aG 13)))/\ag (fun _=>False) w w':=by
 go_enter Tryz.func134,Tryz.ntmps134;go_wp2;go_ret;exact⟨by kernel_rfl,ag.refl _ _⟩
theorem Nw(r:Nat):Utf8.encode (r:Int)=strOfNums (Lib.encodeRuneZ (r:Int)):=by
 rw[<-Go.Extern.FmtText.encode_eq];exact(BJ _).symm
theorem Jv(l:Nat)(h:32<=l)(h1:l<=1114111)(j:l≠34)(f:l≠92)(w:World):Calls Tryz.prog 134 #[.int .i32 l] w fun x w'=>x=.returned (.string (strOfNums (Lib.encodeRuneZ l)))/\ag (fun _=>False) w w':=by
 have c:(l:Int)≠34:=by omega
 have d:(l:Int)≠92:=by omega
 go_enter Tryz.func134,Tryz.ntmps134;go_wp2;go_ret;exact⟨Zd (Nw l),ag.refl _ _⟩
theorem Jw(l:Nat)(h1:l<=1114111)(w:World):Calls Tryz.prog 134 #[.int .i32 l] w fun x w'=>x=.returned (.string (strOfNums (escRune l)))/\ag (fun _=>False) w w':=by
 by_cases h:l<32\/ l=34\/ l=92
 ·have e:escRune (l:Int)=aG l:=by unfold escRune;rw[if_pos (by omega)]
  rw[e];have c:l=0\/ l=1\/ l=2\/ l=3\/ l=4\/ l=5\/ l=6\/ l=7\/ l=8\/ l=9\/ l=10\/ l=11\/ l=12\/ l=13\/ l=14\/ l=15\/ l=16\/ l=17\/ l=18\/ l=19\/ l=20\/ l=21\/ l=22\/ l=23\/ l=24\/ l=25\/ l=26\/ l=27\/ l=28\/ l=29\/ l=30\/ l=31\/ l=34\/ l=92:=by omega
  rcases c with rfl| rfl| rfl| rfl| rfl| rfl| rfl| rfl| rfl| rfl| rfl| rfl| rfl| rfl| rfl| rfl| rfl| rfl| rfl| rfl| rfl| rfl| rfl| rfl| rfl| rfl| rfl| rfl| rfl| rfl| rfl| rfl| rfl| rfl
  ·exact R5 w
  ·exact R6 w
  ·exact R7 w
  ·exact R8 w
  ·exact R9 w
  ·exact R_ w
  ·exact Sa w
  ·exact Sb w
  ·exact Sc w
  ·exact Sd w
  ·exact Nt w
  ·exact M5 w
  ·exact Nu w
  ·exact Nv w
  ·exact M6 w
  ·exact M7 w
  ·exact M8 w
  ·exact M9 w
  ·exact M_ w
  ·exact Na w
  ·exact Nb w
  ·exact Nc w
  ·exact Nf w
  ·exact Ng w
  ·exact Nh w
  ·exact Ni w
  ·exact Nj w
  ·exact Nk w
  ·exact Nl w
  ·exact Nn w
  ·exact Np w
  ·exact Nq w
  ·exact Nr w
  ·exact Ns w
 ·have e:escRune (l:Int)=Lib.encodeRuneZ l:=by
    unfold escRune
    split
    ·rw[Lib.encodeRuneZ_one (by omega) (by omega)];unfold aG;rw[if_neg (by omega),if_neg (by omega),if_neg (by omega),if_neg (by omega),if_neg (by omega),if_neg (by omega),if_neg (by omega),if_neg (by omega)]
    ·rfl
  rw[e];exact Jv l (by omega) h1 (by omega) (by omega) w
theorem VH{t:List Int}{p:Nat}(h:p+1<t.length):(t.drop p).take 2= [ah t p,ah t (p+1)]:=by
 unfold ah;rw[List.drop_eq_getElem_cons (by omega),List.drop_eq_getElem_cons (i:=p+1) (by omega)];simp only[List.take_succ_cons,List.take_zero,Option.getD_some,List.getD_eq_getElem?_getD,List.getElem?_eq_getElem (show p<t.length by omega),List.getElem?_eq_getElem h]
theorem Ny{t:List Int}{p:Nat}(h:p+2<t.length):(t.drop p).take 3= [ah t p,ah t (p+1),ah t (p+2)]:=by
 unfold ah;rw[List.drop_eq_getElem_cons (by omega),List.drop_eq_getElem_cons (i:=p+1) (by omega),List.drop_eq_getElem_cons (i:=p+1+1) (by omega)];simp only[List.take_succ_cons,List.take_zero,Option.getD_some,List.getD_eq_getElem?_getD,List.getElem?_eq_getElem (show p<t.length by omega),List.getElem?_eq_getElem (show p+1<t.length by omega),List.getElem?_eq_getElem h]
theorem Sg{t:List Int}{p:Nat}(h:p+3<t.length):(t.drop p).take 4= [ah t p,ah t (p+1),ah t (p+2),ah t (p+3)]:=by
 unfold ah;rw[List.drop_eq_getElem_cons (by omega),List.drop_eq_getElem_cons (i:=p+1) (by omega),List.drop_eq_getElem_cons (i:=p+1+1) (by omega),List.drop_eq_getElem_cons (i:=p+1+1+1) (by omega)];simp only[List.take_succ_cons,List.take_zero,Option.getD_some,List.getD_eq_getElem?_getD,List.getElem?_eq_getElem (show p<t.length by omega),List.getElem?_eq_getElem (show p+1<t.length by omega),List.getElem?_eq_getElem (show p+2<t.length by omega),List.getElem?_eq_getElem h]
theorem xV(l:List Int)(h:∀c∈l,128<=c):l.flatMap aG=l:=by
 induction l with
 | nil=>rfl
 | cons a r ih=>
  have f:=h a (List.mem_cons_self ..);rw[List.flatMap_cons,ih fun c d=>h c (List.mem_cons_of_mem _ d)];have:aG a= [a]:=by
   unfold aG;rw[if_neg (by omega),if_neg (by omega),if_neg (by omega),if_neg (by omega),if_neg (by omega),if_neg (by omega),if_neg (by omega),if_neg (by omega)]
  rw[this];rfl
theorem se{t:List Int}{i:Nat}(h:dm t i=true):i<t.length/\ah t i / 64=2:=by
 unfold dm at h;have h:=of_decide_eq_true h;exact⟨bz (fun e=>by rw[e]at h;exact absurd h (by decide)),h⟩
theorem Jy{t:List Int}{p:Nat}{c:Int}{wd:Nat}(h:∀i,0<=ah t i/\ah t i<=255)(k:p<t.length)(d:bJ t p=(c,wd))(h0:wd≠0):
    ((t.drop p).take wd).flatMap aG=escRune c/\p+wd<=t.length/\0<=c/\c<=1114111:=by
 have b0:=h p;have b1:=h (p+1);have b2:=h (p+2);have b3:=h (p+3);unfold bJ at d
 split at d
 ·rename_i h1;obtain⟨rfl,rfl⟩:=Prod.mk.inj d;refine⟨?_,by omega,by omega,by omega⟩;have e:(t.drop p).take 1= [ah t p]:=by
   unfold ah;rw[List.drop_eq_getElem_cons k];simp only[List.take_succ_cons,List.take_zero,Option.getD_some,List.getD_eq_getElem?_getD,List.getElem?_eq_getElem k]
  rw[e];unfold escRune;rw[if_pos h1];simp
 ·split at d
  ·rename_i h1 h2;simp only[Bool.and_eq_true,decide_eq_true_eq]at h2;obtain⟨j,c1⟩:=se h2.2
   split at d
   ·rename_i h3;obtain⟨rfl,rfl⟩:=Prod.mk.inj d;refine⟨?_,by omega,by omega,by omega⟩;rw[VH j,xV _ (by intro c f;simp at f;omega)];unfold escRune;rw[if_neg (by omega),Lib.encodeRuneZ_two (by omega) (by omega)];simp only[List.cons.injEq,and_true];omega
   ·obtain⟨_,rfl⟩:=Prod.mk.inj d;exact absurd rfl h0
  ·split at d
   ·rename_i h1 h2 h3;simp only[Bool.and_eq_true,decide_eq_true_eq]at h3;obtain⟨j,c1⟩:=se h3.1.2;obtain⟨m,c2⟩:=se h3.2
    split at d
    ·rename_i h4;simp only[dY,Bool.and_eq_true,Bool.or_eq_true,decide_eq_true_eq]at h4;obtain⟨rfl,rfl⟩:=Prod.mk.inj d;refine⟨?_,by omega,by omega,by omega⟩;rw[Ny m,xV _ (by intro c f;simp at f;omega)];unfold escRune;rw[if_neg (by omega),Lib.encodeRuneZ_three (by omega)];simp only[List.cons.injEq,and_true];omega
    ·obtain⟨_,rfl⟩:=Prod.mk.inj d;exact absurd rfl h0
   ·split at d
    ·rename_i h1 h2 h3 h4;simp only[Bool.and_eq_true,decide_eq_true_eq]at h4;obtain⟨j,c1⟩:=se h4.1.1.2;obtain⟨m,c2⟩:=se h4.1.2;obtain⟨u,c3⟩:=se h4.2
     split at d
     ·rename_i h5;simp only[dY,Bool.and_eq_true,Bool.or_eq_true,decide_eq_true_eq]at h5;obtain⟨rfl,rfl⟩:=Prod.mk.inj d;refine⟨?_,by omega,by omega,by omega⟩;rw[Sg u,xV _ (by intro c f;simp at f;omega)];unfold escRune;rw[if_neg (by omega),Lib.encodeRuneZ_four (by omega) (by omega)];simp only[List.cons.injEq,and_true];omega
     ·obtain⟨_,rfl⟩:=Prod.mk.inj d;exact absurd rfl h0
    ·obtain⟨_,rfl⟩:=Prod.mk.inj d;exact absurd rfl h0
theorem Cr{c:Int}(h:0<=c/\c<=255):(∀x∈aG c,0<=x/\x<=255)/\(aG c).length<=6:=by
 unfold aG Eh
 (repeat' split);all_goals
  refine⟨fun x d=> ?_,by simp⟩;simp at d;omega
theorem Nz{c:Int}(h0:0<=c):(∀x∈escRune c,0<=x/\x<=255)/\(escRune c).length<=6:=by
 unfold escRune
 split
 ·exact Cr ⟨h0,by omega⟩
 ·exact⟨fun x d=>by have:=Lib.encodeRuneZ_byte c x d;omega,by have:=(Lib.encodeRuneZ_length c).2;omega⟩
theorem NB.iterAt{B K:Nat}{w wr:World}(h:NB B K w wr){k:Nat}(m:w.heap.size<=k)(s:ByteArray)(p:Nat):NB B K w (wr.iterAt k s p):=
 ⟨h.os,h.tape,h.output,by rw[Lib.iterAt_size];exact h.size,fun j c d f=>by rw[Lib.iterAt_other _ _ _ _ _ (by omega)];exact h.block j c d f⟩
theorem Ea.iterAt{w:World}{B K k:Nat}{out:List Int}{s s':ByteArray}{p p':Nat}(h:Ea w B K out)(m:w.heap[k]?=some (.stringIter s p))(u:B<=k):Ea (w.iterAt k s' p') B K out:=by
 obtain⟨v,h1,h2⟩:=h.row;have j:=h.lt;refine⟨⟨v,by rw[Lib.iterAt_other _ _ _ _ _ (by omega)];exact h1,h2.1, ?_⟩,j,by rw[Lib.iterAt_size];exact h.size⟩
 rcases h2.2 with f| ⟨g,cap,cur,rfl,d,c,rest⟩
 ·exact .inl f
 ·refine .inr ⟨g,cap,cur,rfl,d, ?_,rest⟩;rw[Lib.iterAt_other _ _ _ _ _ (fun e=>by rw[e,m]at c;cases c)];exact c
theorem NA{B K k:Nat}{w w':World}{s:ByteArray}{p:Nat}(h:NB B K w w')(c:w.heap[k]?=some (.stringIter s p))(d:k≠K):w'.heap[k]?=some (.stringIter s p):=by
 rw[h.block k (Array.getElem?_eq_some_iff.1 c).1 d (.inr fun cur f e=>by rw[c]at e;cases e)];exact c
theorem iterPos_of{w:World}{k:Nat}{s:ByteArray}{p:Nat}(h:w.heap[k]?=some (.stringIter s p)):w.iterPos k=p:=by simp[World.iterPos,h]
theorem Ea.zaX{w w':World}{B K:Nat}{out:List Int}(h:Ea w B K out)(c:ag (fun _=>False) w w'):Ea w' B K out:=by
 obtain⟨v,h1,h2⟩:=h.row;have:=h.lt;have:=h.size;have:=c.size;exact⟨⟨v,(c.block K (by omega) fun h=>h).trans h1,aX h2 c fun _ _ h=>h⟩,h.lt,by omega⟩
theorem Si{t:List Int}{pos wd:Nat}:t.take (pos+wd)=t.take pos++(t.drop pos).take wd:=List.take_add
theorem Jz{w:World}{B K:Nat}{out:List Int}(N:Ea w B K out)(ho:out.length<=20000)(s:ByteArray)(V:iB (ints s)=none):
    Calls Tryz.prog 103 #[.pointer (some ⟨K,0,none⟩),.string s] w fun x w'=>iW w w' B K out (quote (ints s)) x:=by
 have hq:=j_ N ho ⟨#[34]⟩ (by decide);have IK:Hid (K<B/\B<=w.heap.size):=⟨N.lt,N.size⟩;go_enter Tryz.func103,Tryz.ntmps103;go_wp2_with(go_at_call 100;refine hq.mono ?_;rintro x d ⟨rfl,⟨VI,E,H,YL⟩,Y⟩)
 go_loopw [5] (fun _ wr=>∃(pos m:Nat) (xe:List Int),wr.heap[d.heap.size]?=some (.stringIter s pos)/\pos<=s.size/\s.size<=pos+m/\strayL (ints s) m pos=none/\IV out (34::((ints s).take pos).flatMap aG) xe/\xe.length<=20000/\Ea wr B K xe/\NB B K w wr) (fun _ wr=>s.size - wr.iterPos d.heap.size)
 case atStart=>exact⟨0,s.size,VI,World.iter_heap d s 0,Nat.zero_le _,by omega,by unfold iB at V;rw[ax]at V;exact V,E,H,YL.alloc _,Y.alloc _⟩
 case round=>
  obtain⟨pos,m,zdO,hit,hps,hpm,f,Ju,Uw,JA,GJ⟩:=hrel;have HN:Hid (w.heap.size<=d.heap.size):=Y.size;clear hq N E H YL Y V;have zdP:=iterPos_of hit;have VJ:=IK.out;have hNN:=HN.out
  by_cases S:pos<s.size
  ·have I:∀j,(Instr.next (.pointer (some ⟨d.heap.size,0,none⟩)) true j).run Tryz.prog wr=_:=fun j=>Lib.run_next_any_at wr d.heap.size s pos j hit S;obtain⟨m,rfl⟩:∃m',m=m'+1:=⟨m - 1,by omega⟩;unfold strayL at f;rw[ax,if_pos S]at f;have z:=uw s pos;obtain⟨⟨c,wd⟩,hr⟩:∃r,bJ (ints s) pos=r:=⟨_,rfl⟩;rw[hr]at f z;have h0:wd≠0:=fun e=>by simp only[e,if_true]at f;cases f
   simp only[if_neg h0]at f z;obtain⟨he,Eg,Ux,M0⟩:=Jy (j6 s) (by rw[ax];exact S) hr h0;rw[ax]at Eg;obtain⟨c,rfl⟩:∃n:Nat,c=n:=⟨c.toNat,by omega⟩;rw[show((c:Int).toNat)=c by simp]at z;rw[z]at I;have k:=Lib.iterAt_heap wr d.heap.size s pos (pos+wd) hit;have T:=GJ.iterAt hNN s (pos+wd);have X:=JA.iterAt (s':=s) (p':=pos+wd) hit (by omega);obtain⟨W1,F⟩:∃W1,W1=wr.iterAt d.heap.size s (pos+wd):=⟨_,rfl⟩;simp only at I;rw[<-F]at I k T X;have A:=Jw c (by omega) W1;obtain⟨oV,zZ⟩:=Nz Ux;obtain⟨u,U⟩:∃u,strOfNums (escRune (c:Int))=u:=⟨_,rfl⟩;have HU:Hid (ints u=escRune (c:Int)):=by show ints u=_;rw[<-U];exact xD _ oV
   have Z:u.size<=100:=by rw[<-U,fZ];omega
   rw[U]at A;have vv:Hid (strayL (ints s) m (pos+wd)=none):=f;clear F hit U z f oV zZ;go_wp2_with(first
    | (go_at_call 134;refine A.mono ?_;rintro x w4 ⟨rfl,uF⟩
       have IJ:=X.zaX uF;have zf2:=(uF.block _ (Array.getElem?_eq_some_iff.1 k).1 (fun h=>h)).trans k;have hpt:=j_ IJ Uw u Z)
    | (go_at_call 100;refine hpt.mono ?_;rintro x w5 ⟨rfl,⟨zdQ,hp5,ho5,hw5⟩,Zx⟩))
   have G:=NA Zx zf2 (by omega);have zdS:=iterPos_of G;go_roundw
   case rel=>
    refine⟨pos+wd,m,zdQ,G,Eg,by omega,vv.out, ?_,ho5,hw5,(T.trans (NB.bf (uF.mono fun _ _ h=>h.elim))).trans Zx⟩;have:=Ju.trans hp5;rw[HU.out,<-he]at this;rw[Si,List.flatMap_append];exact this
   case measure=>rw[zdS,zdP];omega
  ·have I:∀j,(Instr.next (.pointer (some ⟨d.heap.size,0,none⟩)) true j).run Tryz.prog wr=_:=fun j=>Lib.run_next_end_at wr d.heap.size s pos j hit S;have Zy:=j_ JA Uw ⟨#[34]⟩ (by decide);go_wp2_with(go_at_call 100;refine Zy.mono ?_;rintro x w3 ⟨rfl,⟨JB,Zz,VK,X⟩,T⟩)
   go_end0
   refine⟨rfl,⟨JB, ?_,VK,X⟩,GJ.trans T⟩;have:=Ju.trans Zz;rw[List.take_of_length_le (by rw[ax];omega)]at this;exact this
theorem yY(j:J):∀(l:List J) (b:Bool),gM b (l++ [j])=gM b l++((if l.length=0/\b=true then []else [44])++aY j)
 | [],b=>by
  rw[List.nil_append,iw]
  cases b<;>simp[gM]
 | i::r,b=>by
  rw[List.cons_append,iw,iw,yY j r false];simp
theorem yZ(j:J):∀(l:List J) (ks:List ByteArray) (b:Bool),gG b ks (l++ [j])=gG b ks l++((if l.length=0/\b=true then []else [44])++(quote (ints (ks.getD l.length aH))++(58::aY j)))
 | [],ks,b=>by
  rw[List.nil_append,iZ]
  cases b<;>cases ks<;>simp[gG]
 | i::r,ks,b=>by
  rw[List.cons_append,iZ,iZ,yZ j r ks.tail false]
  cases ks<;>simp
abbrev Uy(K:Nat)(w:World):Prop:=Lib.TabBelow Tryz.prog K w "internal/strconv.uint64pow10" .u64 Lib.pow10Tab
theorem NC{B K:Nat}{w w':World}(h:Uy K w)(n:NB B K w w')(f:K<=B)(c:K<=w.heap.size):Uy K w':=fun d h2=>h d ((n.below f c).trans h2)
def wideJ:Nat->J->Bool
 | 0,_=>true
 | d+1,.mk _ _ _ _ l=>decide (l.length<=100000)&&l.all (wideJ d)
def qK(d:Nat)(j:J):Bool:=goodJ d j&&wideJ d j
def y9(d:Nat):Prop:=∀(w:World) (B K:Nat) (out:List Int) (O:Nat->Prop) (j:J) (k i:Int) (t:ByteArray) (pk pl:Option Addr) (nk ck nl cl:Nat),Ea w B K out->out.length<=20000->(∀x,O x->x<B/\x≠K)->Uy K w→
 qK d j=true->isJ O w j [.int .i64 k,.int .i64 i,.string t,.slice pk nk ck,.slice pl nl cl]→
 Calls Tryz.prog 64 #[.pointer (some ⟨K,0,none⟩),.agg #[.int .i64 k,.int .i64 i,.string t,.slice pk nk ck,.slice pl nl cl]] w fun x w'=>iW w w' B K out (aY j) x
theorem dD{O:Nat->Prop}{w:World}{j:J}{cs:List Value}(h:isJ O w j cs):∃k i t pk nk ck pl nl cl,cs= [.int .i64 k,.int .i64 i,.string t,.slice pk nk ck,.slice pl nl cl]:=by
 cases j
 unfold isJ at h;obtain⟨pk,ck,pl,cl,e,_⟩:=h;exact⟨_,_,_,_,_,_,_,_,_,e⟩
theorem mI{B K:Nat}{w w':World}{O:Nat->Prop}(n:NB B K w w')(f:B<=w.heap.size)(d:∀x,O x->x<B/\x≠K):∀x,O x->O x/\w'.heap[x]?=w.heap[x]?:=
 fun x c=>⟨c,n.block x (by have:=(d x c).1;omega) (d x c).2 (.inl (d x c).1)⟩
theorem iA{l:List J}{k:Nat}(h:k<l.length):l.take (k+1)=l.take k++ [l.getD k J.zero]:=by
 rw[List.take_add_one,List.getElem?_eq_getElem h,List.getD_eq_getElem?_getD,List.getElem?_eq_getElem h]
 rfl
theorem Cs{B K:Nat}{wr w3:World}{cs:Array Value}(n:NB B K (wr.alloc (.cells cs 25)) w3)(d:K<wr.heap.size):w3.heap[wr.heap.size]?=some (.cells cs 25 (0,0)):=by
 have h:=heap_alloc_new wr (.cells cs 25);rw[n.block wr.heap.size (by simp) (by omega) (.inr fun cur c e=>by rw[h]at e;injection e with e;injection e with _ e2 _;exact absurd e2 (by decide))];exact h
theorem zbD{d:Nat}(V:y9 d){w:World}{B K:Nat}{out:List Int}{O:Nat->Prop}{l:List J}{pl:Option Addr}{cl:Nat}(Z:Ea w B K out)(ho:out.length<=20000)(hO:∀x,O x->x<B/\x≠K)(hT:Uy K w)
    (hg:l.all (qK d)=true) (hj:isJs O w pl 0 l) (hc:l.length<=cl) (cB:l.length<=1000000):
    Calls Tryz.prog 104 #[.pointer (some ⟨K,0,none⟩),.slice pl l.length cl] w fun x w'=>iW w w' B K out (91::(gM true l++ [93])) x:=by
 have hq:=j_ Z ho ⟨#[91]⟩ (by decide);have IK:Hid (K<B/\B<=w.heap.size):=⟨Z.lt,Z.size⟩;obtain⟨n,hn⟩:∃n,l.length=n:=⟨_,rfl⟩;have HN:Hid (l.length=n):=hn;rw[hn]at hc cB ⊢;clear hn;go_enter Tryz.func104,Tryz.ntmps104;go_wp2_with(go_at_call 100;refine hq.mono ?_;rintro x w1 ⟨rfl,⟨VI,j,u,YL⟩,Jd⟩)
 go_loopw [10] (fun i wr=>∃(k:Nat) (xe:List Int),i=.int .i64 k/\k<=n/\IV out (91::gM true (l.take k)) xe/\xe.length<=20000/\Ea wr B K xe/\NB B K w wr) (fun i _=>n - (intOf i).toNat)
 case atStart=>exact⟨0,VI,rfl,Nat.zero_le _,by rw[List.take_zero];exact j,u,YL,Jd⟩
 case round=>
  clear j u YL Jd hq;obtain⟨k,zdO,rfl,hk,tV,Uw,JA,U⟩:=hrel;have VJ:=IK.out
  by_cases gZ:k<n
  ·have T:k<l.length:=by rw[HN.out];exact gZ
   obtain⟨A,lo,cs,rO,za,bL,iV⟩:=isJs.at l 0 k hj T;subst rO;obtain⟨f,S,z,N,nv,G,E,F,I,rfl⟩:=dD iV;have gT:=(mI U VJ.2 hO A za).2;have c:∀m v, [Value.int .i64 f,.int .i64 S,.string z,.slice N nv G,.slice E F I][m]?=some v->wr.cell? ⟨A,lo+k*5+m,none⟩=some v:=fun m v h=>by
    have:=bL m v h;rw[Nat.zero_add]at this;exact(World.cell?_of_block (a:=⟨A,lo+k*5+m,none⟩) gT).trans this
   have y0:wr.cell? ⟨A,lo+k*5,none⟩=some (.int .i64 f):=c 0 _ rfl;have y1:=c 1 _ rfl;have y2:=c 2 _ rfl;have y3:=c 3 _ rfl;have y4:=c 4 _ rfl;clear c bL;have JC:(k:Int)<(n:Int):=by omega
   have hm:=Fv (JA.alloc (.cells #[.int .i64 f,.int .i64 S,.string z,.slice N nv G,.slice E F I] 25)) Uw k (by omega);have HG:Hid (qK d (l.getD k J.zero)=true):=by
    have:=List.all_eq_true.1 hg (l.getD k J.zero) (by rw[List.getD_eq_getElem?_getD,List.getElem?_eq_getElem T];exact List.getElem_mem T);exact this
   go_wp2_with(first
    | (go_at_call 135;refine hm.mono ?_;rintro x w3 ⟨rfl,⟨JB,Zz,VK,Qe⟩,H⟩
       have hvb:=Cs H (by have:=U.size;omega);obtain⟨j0,j1,j2,j3,j4⟩:=aj hvb;have IL:=(U.alloc (.cells #[.int .i64 f,.int .i64 S,.string z,.slice N nv G,.slice E F I] 25)).trans H;have hV:=V w3 B K JB O _ f S z N E nv G F I Qe VK hO (NC hT IL (by omega) (by omega)) HG.out (iV.carry (mI IL VJ.2 hO)))
    | (go_at_call 64;refine hV.mono ?_;rintro x w4 ⟨rfl,⟨Y,X,dJ,IJ⟩,hn4⟩))
   go_roundw
   case rel=>
    refine⟨k+1,Y,by go_num,gZ, ?_,dJ,IJ,IL.trans hn4⟩;have:=(tV.trans Zz).trans X;rw[iA T,yY,List.length_take,Nat.min_eq_left (by omega)];simp only[and_true];simpa using this
   case measure=>simp[intOf];omega
  ·obtain rfl:k=n:=by omega
   have Zy:=j_ JA Uw ⟨#[93]⟩ (by decide);go_wp2_with(go_at_call 100;refine Zy.mono ?_;rintro x w3 ⟨rfl,⟨JB,Zz,VK,Qe⟩,H⟩)
   go_end0
   refine⟨rfl,⟨JB, ?_,VK,Qe⟩,U.trans H⟩;have:=tV.trans Zz;rw[List.take_of_length_le (by rw[HN.out];omega)]at this;exact this
theorem ZA{d:Nat}(V:y9 d){w:World}{B K:Nat}{out:List Int}{O:Nat->Prop}{ks:List ByteArray}{l:List J}{pk pl:Option Addr}{ck cl:Nat}(hw:Ea w B K out)(ho:out.length<=20000)(Y:∀x,O x->x<B/\x≠K)(hT:Uy K w)
    (hg:l.all (qK d)=true) (Bn:ks.all letters=true) (IE:ks.length=l.length) (ll:j5 O w pk ck ks) (hj:isJs O w pl 0 l) (hc:l.length<=cl) (cB:l.length<=1000000):
    Calls Tryz.prog 105 #[.pointer (some ⟨K,0,none⟩),.slice pk ks.length ck,.slice pl l.length cl] w fun x w'=>iW w w' B K out (123::(gG true ks l++ [125])) x:=by
 have hq:=j_ hw ho ⟨#[123]⟩ (by decide);have IK:Hid (K<B/\B<=w.heap.size):=⟨hw.lt,hw.size⟩;obtain⟨n,F⟩:∃n,l.length=n:=⟨_,rfl⟩;have HN:Hid (l.length=n):=F;have f:Hid (ks.length=n):=IE.trans F;rw[IE.trans F];rw[F]at hc cB ⊢;clear F IE;go_enter Tryz.func105,Tryz.ntmps105;go_wp2_with(go_at_call 100;refine hq.mono ?_;rintro x w1 ⟨rfl,⟨VI,E,G,YL⟩,Jd⟩)
 go_loopw [12] (fun i wr=>∃(k:Nat) (xe:List Int),i=.int .i64 k/\k<=n/\IV out (123::gG true ks (l.take k)) xe/\xe.length<=20000/\Ea wr B K xe/\NB B K w wr) (fun i _=>n - (intOf i).toNat)
 case atStart=>exact⟨0,VI,rfl,Nat.zero_le _,by rw[List.take_zero];exact E,G,YL,Jd⟩
 case round=>
  clear E G YL Jd hq;obtain⟨k,zdO,rfl,hk,tV,Uw,JA,GJ⟩:=hrel;have VJ:=IK.out
  by_cases N:k<n
  ·have y_:k<l.length:=by rw[HN.out];exact N
   obtain⟨S,lo,cs,rO,za,bL,iV⟩:=isJs.at l 0 k hj y_;subst rO;obtain⟨u,iv,I,pv,nv,X,T,U,dv,rfl⟩:=dD iV;have gT:=(mI GJ VJ.2 Y S za).2;have j:∀m v, [Value.int .i64 u,.int .i64 iv,.string I,.slice pv nv X,.slice T U dv][m]?=some v->wr.cell? ⟨S,lo+k*5+m,none⟩=some v:=fun m v h=>by
    have:=bL m v h;rw[Nat.zero_add]at this;exact(World.cell?_of_block (a:=⟨S,lo+k*5+m,none⟩) gT).trans this
   have y0:wr.cell? ⟨S,lo+k*5,none⟩=some (.int .i64 u):=j 0 _ rfl;have y1:=j 1 _ rfl;have y2:=j 2 _ rfl;have y3:=j 3 _ rfl;have y4:=j 4 _ rfl;clear j bL;obtain⟨ad,Ct,xf,jr⟩:=ll.2 k (by rw[f.out];exact N);subst Ct;obtain⟨key,H⟩:∃key,ks.getD k aH=key:=⟨_,rfl⟩;rw[H]at jr;have HKE:Hid (ks.getD k aH=key):=H;have zf3:iB (ints key)=none:=by
    have A:=List.all_eq_true.1 Bn (ks.getD k aH) (by rw[List.getD_eq_getElem?_getD,List.getElem?_eq_getElem (by rw[f.out];exact N)];exact List.getElem_mem _);rw[H]at A;unfold letters at A;exact Option.isNone_iff_eq_none.1 A
   clear H;have Bj:n<=ck:=by have:=ll.1;rw[f.out]at this;exact this
   have JC:(k:Int)<(n:Int):=by omega
   have A:=Fv (JA.alloc (.cells #[.int .i64 u,.int .i64 iv,.string I,.slice pv nv X,.slice T U dv] 25)) Uw k (by omega);have HG:Hid (qK d (l.getD k J.zero)=true):=by
    have:=List.all_eq_true.1 hg (l.getD k J.zero) (by rw[List.getD_eq_getElem?_getD,List.getElem?_eq_getElem y_];exact List.getElem_mem y_);exact this
   go_wp2_with(first
    | (go_at_call 135;refine A.mono ?_;rintro x w3 ⟨rfl,⟨JB,Zz,VK,Qe⟩,Z⟩
       have IL:=(GJ.alloc (.cells #[.int .i64 u,.int .i64 iv,.string I,.slice pv nv X,.slice T U dv] 25)).trans Z;have zhc:w3.cell? (ad.add k)=some (.string key):=(World.cell?_of_block (by rw[bu];exact(mI IL VJ.2 Y ad.block xf).2)).trans jr;have hx:=Jz Qe VK key zf3)
    | (go_at_call 103;refine hx.mono ?_;rintro x w5 ⟨rfl,⟨zdQ,hp5,ho5,hw5⟩,Zx⟩
       have ZB:=j_ hw5 ho5 ⟨#[58]⟩ (by decide))
    | (go_at_call 100;refine ZB.mono ?_;rintro x w6 ⟨rfl,⟨zf4,hp6,ho6,hw6⟩,z⟩
       have zf5:=Cs ((Z.trans Zx).trans z) (by have:=GJ.size;omega);obtain⟨j0,j1,j2,j3,j4⟩:=aj zf5;have c:=(IL.trans Zx).trans z;have hV:=V w6 B K zf4 O _ u iv I pv T nv X U dv hw6 ho6 Y (NC hT c (by omega) (by omega)) HG.out (iV.carry (mI c VJ.2 Y)))
    | (go_at_call 64;refine hV.mono ?_;rintro x w4 ⟨rfl,⟨zbE,hp4,dJ,IJ⟩,hn4⟩))
   go_roundw
   case rel=>
    refine⟨k+1,zbE,by go_num,N, ?_,dJ,IJ,c.trans hn4⟩;have:=(((tV.trans Zz).trans hp5).trans hp6).trans hp4;rw[iA y_,yZ,List.length_take,Nat.min_eq_left (by omega)];rw[HKE.out];have e58:ints ⟨#[58]⟩= [58]:=rfl;rw[e58]at this;simpa using this
   case measure=>simp[intOf];omega
  ·obtain rfl:k=n:=by omega
   have Zy:=j_ JA Uw ⟨#[125]⟩ (by decide);go_wp2_with(go_at_call 100;refine Zy.mono ?_;rintro x w3 ⟨rfl,⟨JB,Zz,VK,Qe⟩,Z⟩)
   go_end0
   refine⟨rfl,⟨JB, ?_,VK,Qe⟩,GJ.trans Z⟩;have:=tV.trans Zz;rw[List.take_of_length_le (by rw[HN.out];omega)]at this;exact this
end Go.Proofs.YtldkblgclochjaaGreatDoor

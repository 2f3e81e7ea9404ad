/- A part. -/
import Derived.Test.YtldkblgclochjaaGreatDoorE04
import Derived.Maps.OwnSet
set_option maxRecDepth 100000
set_option maxHeartbeats 16000000
namespace Go.Proofs.YtldkblgclochjaaGreatDoor
open Go.RowKit
theorem U6{t:List Int}{p q:Nat}{c:Int}(h:lg t p=.ok c q):0<=c/\c<=1114111:=by
 have d:=BX t (p+2);unfold lg at h
 split at h
 ·cases h
 split at h
 ·cases h;omega
 split at h
 ·cases h
 split at h
 ·cases h
 ·rename_i l hl;have:=Jb hl
  cases h;omega
theorem RN{t:List Int}{p q:Nat}{c:Int}(h:escape t p=.ok c q):0<=c/\c<=1114111:=by
 unfold escape at h;simp only at h
 split at h
 ·rename_i h1;cases h;omega
 split at h
 ·cases h;omega
 split at h
 ·cases h;omega
 split at h
 ·cases h;omega
 split at h
 ·cases h;omega
 split at h
 ·cases h;omega
 split at h
 ·exact U6 h
 ·cases h
theorem Cf(t:List Int):∀(m p:Nat) (out r:List Int) (q:Nat),quoL t m p out=.ok r q->r.length<=out.length+4*(q - p)/\p<=q
 | 0,_,_,_,_,h=>by cases h
 | m+1,p,out,r,q,h=>by
  rw[lh]at h
  split at h
  ·cases h;omega
  split at h
  ·cases he:escape t p with
   | bad e a=>rw[he]at h;cases h
   | ok c p'=>
    rw[he]at h;simp only[Res.bind]at h;have h1:=Cf t m p' _ r q h;have f:p<p':=by
     rename_i Ej;have:=wU (t:=t) (p:=p) (bz (by rw[Ej];decide));rw[he]at this;exact this.1
    have d:(Lib.encodeRuneZ c).length<=4:=by
     unfold Lib.encodeRuneZ
     (repeat' split);all_goals simp
    rw[List.length_append]at h1;omega
  split at h
  ·cases h
  ·have h1:=Cf t m (p+1) _ r q h;rw[List.length_append]at h1;simp only[List.length_cons,List.length_nil]at h1;omega
def U7(w w':World)(R:Nat)(s:ByteArray)(r:Res (List Int))(x:Ending):Prop:=match r with
 | .ok c q=>x=.returned (.tuple #[.string (strOfNums c),.bool true])/\oU w w' R s q
 | .bad e l=>x=.returned (.tuple #[.string aH,.bool false])/\zY w w' R s e l
theorem Cg{w:World}{R p:Nat}{s:ByteArray}{e l:Int}(hr:fw w R s p e l)(hs:short s)(hp:p<s.size):
    Calls Tryz.prog 122 #[.pointer (some ⟨R,0,none⟩)] w fun x w'=>U7 w w' R s (quoted (ints s) p) x:=by
 unfold short at hs;have c1:=hr.c1;have f1:=hr.fz 1;have hRw:=hr.lt;have HR0:fw (w.setCell ⟨R,1,none⟩ (.int .i64 ((p:Int)+1))) R s (p+1) e l:=hr.at (p+1);have HK0:ag (One R) w (w.setCell ⟨R,1,none⟩ (.int .i64 ((p:Int)+1))):=fw.setAt w R (p+1);go_enter Tryz.func122,Tryz.ntmps122;go_wp2;clear c1 f1
 go_loopw [4] (fun v wr=>∃(q m:Nat) (out:List Int),q<=s.size/\s.size<q+m/\out.length<=4*q/\quoL (ints s) m q out=quoted (ints s) p/\wr.ownsRow w.heap.size 5 1 v out.length (out.map (Value.int .u8))/\(∃e l,fw wr R s q e l)/\ag (One R) w wr) (fun _ wr=>s.size - posOf R wr)
 case atStart=>
  refine⟨p+1,s.size+1, [],hp,by omega,by simp, ?_,World.ownsRow_nil _ _ _ _,⟨e,l,HR0⟩,HK0⟩;unfold quoted;rw[ax]
 case round=>
  clear HR0 HK0 hr;obtain⟨q,m,out,hq,hm,YH,hx,U,⟨e1,l1,j⟩,I⟩:=hrel;obtain⟨A,rfl⟩:∃A,m=A+1:=⟨m - 1,by omega⟩;rw[lh]at hx;have X:Hid ((if ah (ints s) q=34 then .ok out (q+1)else if ah (ints s) q=92 then(escape (ints s) q).bind fun l q=>quoL (ints s) A q (out++Lib.encodeRuneZ l)else if ah (ints s) q<32 then .bad 11 q else quoL (ints s) A (q+1) (out++ [ah (ints s) q]))=quoted (ints s) p):=hx;clear hx;have c1:=j.c1;have f1:=j.fz 1;have fI:=I.size;have ui:=j6 s q;have wW:=aJ U;have T:fw (wr.setCell ⟨R,1,none⟩ (.int .i64 ((q:Int)+1))) R s (q+1) e1 l1:=j.at (q+1);have d:ag (One R) wr (wr.setCell ⟨R,1,none⟩ (.int .i64 ((q:Int)+1))):=fw.setAt wr R (q+1);have Rw:=h_ j
  by_cases F:ah (ints s) q=34
  ·have z:Hid (quoted (ints s) p=.ok out (q+1)):=by rw[<-X.out,if_pos F];rfl
   have hcv:=Ms (aX U d fun k u=>by have:=wW k u;unfold One;omega);have pk:=dZ j;rw[F]at pk;go_wp2_with(go_at_call 119;refine pk.mono ?_;rintro x w' ⟨rfl,rfl⟩);go_ret2;rw[z.out];exact⟨rfl,⟨_,_,T⟩,I.then d⟩
  by_cases H:ah (ints s) q=92
  ·have pk:=dZ j;rw[H]at pk;have es:=MJ j (by omega);have nL:=wU (t:=ints s) (p:=q) (bz (by rw[H];decide))
   cases he:escape (ints s) q with
   | bad e' l'=>
    have z:Hid (quoted (ints s) p=.bad e' l'):=by rw[<-X.out,if_neg F,if_pos H,he];rfl
    rw[he]at es;go_wp2_with(first
     | (go_at_call 119;refine pk.mono ?_;rintro x w' ⟨rfl,rfl⟩)
     | (go_at_call 144;refine es.mono ?_;rintro x f ⟨rfl,K⟩))
    go_ret2;rw[z.out];exact⟨rfl,K.1,I.then K.2⟩
   | ok c q'=>
    have z:Hid (quoL (ints s) A q' (out++Lib.encodeRuneZ c)=quoted (ints s) p):=by rw[<-X.out,if_neg F,if_pos H,he];rfl
    have DX:=RN he;rw[he]at es nL;have Z:q<q'/\q'<=(ints s).length:=nL;rw[ax]at Z;have Y:(Lib.encodeRuneZ c).length<=4:=by
     unfold Lib.encodeRuneZ
     (repeat' split);all_goals simp
    have HL4:Hid ((Lib.encodeRuneZ c).length<=4):=Y;clear Y nL;go_wp2_with(first
     | (go_at_call 119;refine pk.mono ?_;rintro x w' ⟨rfl,rfl⟩)
     | (go_at_call 144;refine es.mono ?_;rintro x f ⟨rfl,⟨⟨e2,l2,rY⟩,jk⟩⟩;have gI:=aX U jk fun k u=>by have:=wW k u;unfold One;omega)
     | (go_at_call 145;refine(Tryz.utf8_AppendRune_plain w.heap.size _ out.length _ c (by omega) (by omega) _ gI (by omega) (by have:=jk.size;omega)).mono ?_;rintro x w3 ⟨v',rfl,zdC,o,hg3⟩))
    have N:=aJ gI;have zhj:=jk.size;have GH:ag (One R) w (f.alloc o):=(I.then jk).alloc o;have fB:ag (One R) w w3:=GH.grown hg3 fun k u=>(N k u).1;have iL:fw w3 R s q' e2 l2:=by
     have zfQ:fw (f.alloc o) R s q' e2 l2:=rY.bf (S:=fun _=>False) ((ag.refl _ _).alloc o) (fun h=>h);refine zfQ.bf (S:=fun k=>some k=Value.ownBlock _) (ag.dt hg3 fun _ _ e=>e.symm) fun e=> ?_;have:=(N R e.symm).1;omega
    have E:=h_ iL;go_roundw
    case rel=>
     refine⟨q',A,out++Lib.encodeRuneZ c,Z.2,by omega, ?_,z.out, ?_,⟨e2,l2,iL⟩,fB⟩
     ·rw[List.length_append];have:=HL4.out;omega
     ·have e:(out++Lib.encodeRuneZ c).map (Value.int .u8)=out.map (Value.int .u8)++Lib.runeCells c:=by rw[List.map_append];rfl
      have e':(out++Lib.encodeRuneZ c).length=out.length+(Lib.runeCells c).length:=by rw[List.length_append];simp[Lib.runeCells]
      rw[e,e'];exact zdC
    case measure=>rw[E,Rw];omega
  have pk:=dZ j
  by_cases G:ah (ints s) q<32
  ·have z:Hid (quoted (ints s) p=.bad 11 q):=by rw[<-X.out,if_neg F,if_neg H,if_pos G];rfl
   go_wp2_with(first
    | (go_at_call 119;refine pk.mono ?_;rintro x w' ⟨rfl,rfl⟩)
    | (go_at_call 92;refine(gN j 11 (q:Int)).mono ?_;rintro x f ⟨rfl,V,K⟩))
   go_ret2;rw[z.out];exact⟨rfl,⟨_,V⟩,I.then K⟩
  ·have z:Hid (quoL (ints s) A (q+1) (out++ [ah (ints s) q])=quoted (ints s) p):=by rw[<-X.out,if_neg F,if_neg H,if_neg G];rfl
   have bQ:q<s.size:=by
    have:=bz (t:=ints s) (p:=q) (by omega);rw[ax]at this;exact this
   obtain⟨y,hy⟩:∃y,ah (ints s) q=y:=⟨_,rfl⟩;have HY:Hid (ah (ints s) q=y):=hy;rw[hy]at pk F H G ui;clear hy T d f1;go_wp2_with(first
    | (go_at_call 119;refine pk.mono ?_;rintro x w' ⟨rfl,rfl⟩)
    | (at_builtin;refine o5 rfl (.tmp 17) (.tmp 19) 36 5 .u8 1 rfl Tryz.underlying36 Tryz.IX (by decide) w.heap.size _ out rfl ?a0 _ y rfl ?a1 ?a2 ?a3 ?_))
   case a0=>exact U.alloc _
   case a1=>exact aQ (cur:= [_]) (heap_alloc_new _ _) 0 _ rfl
   case a2=>omega
   case a3=>simp;omega
   intro v' f uE hg1;have K:ag (One R) w f:=(I.alloc _).grown hg1 fun k u=>(wW k u).1;have V:fw f R s q e1 l1:=by
    refine(j.bf (S:=fun _=>False) ((ag.refl _ _).alloc _) (fun h=>h)).bf (S:=fun k=>some k=Value.ownBlock _) (ag.dt hg1 fun _ _ e=>e.symm) fun e=> ?_;have:=(wW R e.symm).1;omega
   have d1:=V.c1;have g1:=V.fz 1;have T:fw (f.setCell ⟨R,1,none⟩ (.int .i64 ((q:Int)+1))) R s (q+1) e1 l1:=V.at (q+1);have d:ag (One R) f (f.setCell ⟨R,1,none⟩ (.int .i64 ((q:Int)+1))):=fw.setAt f R (q+1);have E:=h_ T;have zfR:=aJ uE;have gI:=aX uE d fun k u=>(by have:=zfR k u;unfold One;omega);clear U c1;have HO2:Hid ((f.setCell ⟨R,1,none⟩ (.int .i64 ((q:Int)+1))).ownsRow w.heap.size 5 1 v' (out++ [y]).length ((out++ [y]).map (Value.int .u8))):=by rw[List.length_append,List.map_append];exact gI
   clear gI uE;go_wp2;go_roundw
   case rel=>exact⟨q+1,A,out++ [y],bQ,by omega,by rw[List.length_append];simp only[List.length_cons,List.length_nil];omega,by rw[<-HY.out];exact z.out,HO2.out,⟨e1,l1,T⟩,K.then d⟩
   case measure=>rw[E,Rw];omega
open Go.RowKit Go.Maps
def Bl(s:ByteArray):Lit:=.string s.data.toList
def vw(s:ByteArray):Prop:=s.size<=maxLen
theorem vz{s t:ByteArray}(h:Bl s=Bl t):s=t:=by
 unfold Bl at h
 cases s;cases t
 simp only[Lit.string.injEq]at h;rw[Array.toList_inj.1 h]
theorem RO{s:ByteArray}(h:vw s):keyOf Tryz.prog 9 (.string s)=some (Bl s):=WideMaps.keyOf_string_mk Tryz.underlying9 h
theorem yS:Keyed Tryz.prog 9:=string_keyed Tryz.underlying9
theorem U8(w:World):(zeroValue 139).run Tryz.prog w=.ok (.agg #[]) w:=by kernel_rfl
def vY(ks:List ByteArray)(s:ByteArray):Bool:=ks.any (fun k=>decide (k.data=s.data))
def Stood(w:World)(M:Nat)(ks:List ByteArray):Prop:=
 ∃D:DataW Unit,w.ownsMap Tryz.prog 9 (unitElem (H:=Unit)) M ks.length D/\IsMap D/\∀s,vw s->Maps.has D (Bl s)=vY ks s
theorem Stood.bf{S:Nat->Prop}{w w':World}{M:Nat}{ks:List ByteArray}(h:Stood w M ks)(f:ag S w w')(m:¬S M):Stood w' M ks:=by
 obtain⟨D,⟨es,clock,c,F,k,u⟩,j,d⟩:=h;exact⟨D,⟨es,clock,(f.block M (Array.getElem?_eq_some_iff.1 c).1 m).trans c,F,k,u⟩,j,d⟩
theorem Stood.lt{w:World}{M:Nat}{ks:List ByteArray}(h:Stood w M ks):M<w.heap.size:=by
 obtain⟨D,⟨es,clock,c,_⟩,_⟩:=h;exact(Array.getElem?_eq_some_iff.1 c).1
theorem Stood.made(w:World):Stood (w.alloc (.map #[] 0)) w.heap.size []:=
 ⟨.map [],World.ownsMap_made _ _ _ _,⟨[],rfl⟩,fun _ _=>rfl⟩
theorem Fh(ks:List ByteArray)(k s:ByteArray):vY (ks++ [k]) s=(vY ks s || decide (k.data=s.data)):=by
 unfold vY;rw[List.any_append];simp
theorem Stood.put{w:World}{M:Nat}{ks:List ByteArray}{D:DataW Unit}{s:ByteArray}(j:w.ownsMap Tryz.prog 9 (unitElem (H:=Unit)) M (ks.length+1) (D.put (Bl s) (.agg [])))(d:IsMap D)(f:∀s,vw s->Maps.has D (Bl s)=vY ks s)(k:vw s):Stood w M (ks++ [s]):=by
 refine⟨D.put (Bl s) (.agg []),by rw[List.length_append];exact j, ?_,fun x h=> ?_⟩
 ·obtain⟨es,rfl⟩:=d;exact⟨_,rfl⟩
 ·rw[Fh]
  by_cases e:x=s
  ·subst e;rw[has_put_same d (show WideAt.IsKeyLit (Bl x)from trivial)];simp
  ·rw[has_put_other (fun c=>e (vz c)),f x h];have:decide (s.data=x.data)=false:=by
    apply decide_eq_false
    intro c
    apply e
    cases x;cases s
    simp only at c;rw[c]
   rw[this,Bool.or_false]
def dU(R M:Nat):Nat->Prop:=fun k=>k=R\/ k=M
def Zo(w w':World)(R M:Nat)(s:ByteArray)(ks:List ByteArray)(r:Res ByteArray)(x:Ending):Prop:=match r with
 | .ok c q=>x=.returned (.tuple #[.string c,.bool true])/\(∃e l,fw w' R s q e l)/\Stood w' M (ks++ [c])/\ag (dU R M) w w'
 | .bad e l=>x=.returned (.tuple #[.string aH,.bool false])/\(∃q,fw w' R s q e l)/\ag (dU R M) w w'
theorem ag.kP{R M:Nat}{w w':World}(h:ag (One R) w w'):ag (dU R M) w w':=h.mono fun _ _ h=>.inl h
theorem Zp{w:World}{R M p:Nat}{s:ByteArray}{e l:Int}{ks:List ByteArray}(hr:fw w R s p e l)(hs:short s)(lM:Stood w M ks)(d:R≠M)(gZ:ks.length<=100000):
    Calls Tryz.prog 147 #[.pointer (some ⟨R,0,none⟩),.map (some M)] w fun x w'=>Zo w w' R M s ks (ku (ints s) ks p) x:=by
 have fI:=hs;unfold short at fI;have c1:=hr.c1;have pk:=dZ hr
 by_cases T:ah (ints s) p=34
 ·have bQ:p<s.size:=by
    have:=bz (t:=ints s) (p:=p) (by rw[T];decide);rw[ax]at this;exact this
  rw[T]at pk;have Y:=Cg hr hs bQ;have nL:=wV (t:=ints s) (p:=p) (by rw[ax];exact bQ)
  cases hq:quoted (ints s) p with
  | bad e' l'=>
   have A:Hid (ku (ints s) ks p=.bad e' l'):=by unfold ku;rw[if_pos T,hq];rfl
   rw[hq]at Y;go_enter Tryz.func147,Tryz.ntmps147;go_wp2_with(first
    | (go_at_call 119;refine pk.mono ?_;rintro x w' ⟨rfl,rfl⟩)
    | (go_at_call 122;refine Y.mono ?_;rintro x m ⟨rfl,f⟩))
   go_ret2;rw[A.out];exact⟨rfl,f.1,f.2.kP⟩
  | ok c q=>
   rw[hq]at Y nL;have E:p<q/\q<=s.size:=by have h:p<q/\q<=(ints s).length:=nL;rw[ax]at h;exact h
   have cB:=(Cf _ _ _ _ _ _ hq).1;have xO:vw (strOfNums c):=by
    unfold vw;rw[fZ];simp only[List.length_nil]at cB;unfold maxLen;omega
   have N:=RO xO;have A:Hid (ku (ints s) ks p=if vY ks (strOfNums c)=true then .bad 14 p else(qz (ints s) 58 (aF (ints s) q)).bind fun _ r=>.ok (strOfNums c) (aF (ints s) r)):=by unfold ku;rw[if_pos T,hq];rfl
   obtain⟨u,hu⟩:∃u,strOfNums c=u:=⟨_,rfl⟩;rw[hu]at xO N A;have G:Calls Tryz.prog 122 #[.pointer (some ⟨R,0,none⟩)] w fun x w'=>x=.returned (.tuple #[.string u,.bool true])/\oU w w' R s q:=by rw[<-hu];exact Y
   clear Y hu cB;obtain⟨D,aV,xP,RP⟩:=lM;have zhk:=aV.lt;have HH:Hid (∀s,vw s->Maps.has D (Bl s)=vY ks s):=RP;have HM:Hid (IsMap D):=xP;have j:=RP u xO;have Je:Hid (ks.length<maxLen):=by show _<_;unfold maxLen;omega
   have HV:Hid (unitElem (H:=Unit) (.agg #[])=some (.agg [], [])):=unitElem_mk;clear RP xP;have Be:∀m:World,ag (One R) w m->m.ownsMap Tryz.prog 9 (unitElem (H:=Unit)) M ks.length D:=by
    intro m f;obtain⟨es,clock,hb,F,hs',hD⟩:=aV;exact⟨es,clock,(f.block M (Array.getElem?_eq_some_iff.1 hb).1 (fun h=>d h.symm)).trans hb,F,hs',hD⟩
   cases hhk:vY ks u with
   | true=>
    rw[hhk]at j;have Z:Hid (ku (ints s) ks p=.bad 14 p):=by rw[A.out,if_pos hhk];rfl
    go_enter Tryz.func147,Tryz.ntmps147;go_wp2_with(first
     | (go_at_call 119;refine pk.mono ?_;rintro x w' ⟨rfl,rfl⟩)
     | (go_at_call 122;refine G.mono ?_;rintro x m ⟨rfl,⟨⟨e1,l1,X⟩,f⟩⟩;have I:=Be m f;have zfS:=X.bf (S:=fun _=>False) ((ag.refl _ _).alloc (.cells #[] 139)) (fun h=>h))
     | (at_lookup;refine wpList_lookup_own_unit _ rfl _ _ 138 rfl 9 139 yS Tryz.underlying138 (U8 _) M ks.length D rfl I _ _ rfl N ?_;rw[j])
     | (go_at_call 92;refine(gN zfS 14 (p:Int)).mono ?_;rintro x w3 ⟨rfl,K,z⟩))
    go_ret2;rw[Z.out];exact⟨rfl,⟨_,K⟩,((f.alloc _).then z).kP⟩
   | false=>
    rw[hhk]at j;have zZ:=fP (t:=ints s) (p:=q) (by rw[ax];exact E.2);rw[ax]at zZ
    by_cases V:ah (ints s) (aF (ints s) q)=58
    ·have ML:aF (ints s) q<s.size:=by
       have:=bz (t:=ints s) (p:=aF (ints s) q) (by rw[V];decide);rw[ax]at this;exact this
     have Z:Hid (ku (ints s) ks p=.ok u (aF (ints s) (aF (ints s) q+1))):=by rw[A.out,if_neg (by simp[hhk])];unfold qz;rw[if_pos V];rfl
     go_enter Tryz.func147,Tryz.ntmps147;go_wp2_with(first
      | (go_at_call 119;refine pk.mono ?_;rintro x w' ⟨rfl,rfl⟩)
      | (go_at_call 122;refine G.mono ?_;rintro x m ⟨rfl,⟨⟨e1,l1,X⟩,f⟩⟩;have I:=Be m f;have MM:=I.alloc (.cells #[] 139))
      | (at_lookup;refine wpList_lookup_own_unit _ rfl _ _ 138 rfl 9 139 yS Tryz.underlying138 (U8 _) M ks.length D rfl I _ _ rfl N ?_;rw[j])
      | (at_mapUpdate;refine wpList_mapUpdate_own _ rfl _ _ _ 138 rfl 9 139 yS Tryz.underlying138 _ M ks.length D rfl MM Je.out _ _ _ rfl rfl N (.agg []) [] HV.out ?_;intro U gI nM
         have rY:fw U R s q e1 l1:=(X.bf (S:=fun _=>False) ((ag.refl _ _).alloc (.cells #[] 139)) (fun h=>h)).bf (S:=fun k=>k=M) (ag.dt nM fun _ _ e=>(Option.some.inj e).symm) d;have jk:ag (dU R M) w U:=((f.alloc (.cells #[] 139)).kP (M:=M)).trans (S':=fun k=>k=M) (ag.dt nM fun _ _ e=>(Option.some.inj e).symm) fun _ _ h=>.inr h)
      | (go_at_call 90;have _h:=Jf;refine(bD Jf hs ML).mono ?_;rintro x w5 ⟨rfl,⟨⟨e5,l5,GK⟩,nG⟩⟩)
      | (go_at_call 90;refine(bD rY hs E.2).mono ?_;rintro x w3 ⟨rfl,⟨⟨e3,l3,K⟩,z⟩⟩)
      | (go_at_call 143;refine(qH K (by omega) 58 V).mono ?_;rintro x w4 ⟨rfl,⟨⟨e4,l4,Jf⟩,uF⟩⟩))
     go_ret2;rw[Z.out];have zby:=Stood.put gI HM.out HH.out xO;exact⟨rfl,⟨_,_,GK⟩,((zby.bf z fun h=>d h.symm).bf uF fun h=>d h.symm).bf nG fun h=>d h.symm,((jk.then z.kP).then uF.kP).then nG.kP⟩
    ·have Z:Hid (ku (ints s) ks p=.bad 11 (aF (ints s) q)):=by rw[A.out,if_neg (by simp[hhk])];unfold qz;rw[if_neg V];rfl
     go_enter Tryz.func147,Tryz.ntmps147;go_wp2_with(first
      | (go_at_call 119;refine pk.mono ?_;rintro x w' ⟨rfl,rfl⟩)
      | (go_at_call 122;refine G.mono ?_;rintro x m ⟨rfl,⟨⟨e1,l1,X⟩,f⟩⟩;have I:=Be m f;have MM:=I.alloc (.cells #[] 139))
      | (at_lookup;refine wpList_lookup_own_unit _ rfl _ _ 138 rfl 9 139 yS Tryz.underlying138 (U8 _) M ks.length D rfl I _ _ rfl N ?_;rw[j])
      | (at_mapUpdate;refine wpList_mapUpdate_own _ rfl _ _ _ 138 rfl 9 139 yS Tryz.underlying138 _ M ks.length D rfl MM Je.out _ _ _ rfl rfl N (.agg []) [] HV.out ?_;intro U gI nM
         have rY:fw U R s q e1 l1:=(X.bf (S:=fun _=>False) ((ag.refl _ _).alloc (.cells #[] 139)) (fun h=>h)).bf (S:=fun k=>k=M) (ag.dt nM fun _ _ e=>(Option.some.inj e).symm) d;have jk:ag (dU R M) w U:=((f.alloc (.cells #[] 139)).kP (M:=M)).trans (S':=fun k=>k=M) (ag.dt nM fun _ _ e=>(Option.some.inj e).symm) fun _ _ h=>.inr h)
      | (go_at_call 90;refine(bD rY hs E.2).mono ?_;rintro x w3 ⟨rfl,⟨⟨e3,l3,K⟩,z⟩⟩)
      | (go_at_call 143;refine(vo K 58 V).mono ?_;rintro x w4 ⟨rfl,⟨⟨q4,Jf⟩,uF⟩⟩))
     go_ret2;rw[Z.out];exact⟨rfl,⟨_,Jf⟩,(jk.then z.kP).then uF.kP⟩
 ·have hb:(ah (ints s) p !=34)=true:=by simp[T]
  have A:Hid (ku (ints s) ks p=.bad 11 p):=by unfold ku;rw[if_neg T];rfl
  go_enter Tryz.func147,Tryz.ntmps147;go_wp2_with(first
   | (go_at_call 119;refine pk.mono ?_;rintro x w' ⟨rfl,rfl⟩)
   | (go_at_call 92;refine(gN hr 11 (p:Int)).mono ?_;rintro x w3 ⟨rfl,K,z⟩))
  go_ret2;rw[A.out];exact⟨rfl,⟨_,K⟩,z.kP⟩
open Go.RowKit
def Elt(B:Nat)(v:Value)(w:World):Nat->Prop:=fun k=>B<=k/\k<w.heap.size/\v.ownBlock≠some k
def Em(B:Nat)(w:World)(v:Value)(dF:List J):Prop:=∃xs,w.ownsRow B 25 5 v dF.length xs/\isRow (Elt B v w) w dF xs
theorem Em.nil(B:Nat)(w:World):Em B w (.slice none 0 0) []:=⟨[],World.ownsRow_nil _ _ _ _,rfl⟩
theorem Em.bf{B:Nat}{S:Nat->Prop}{w w':World}{v:Value}{dF:List J}(h:Em B w v dF)(d:ag S w w')(f:∀k,B<=k->¬S k):Em B w' v dF:=by
 obtain⟨xs,h1,h2⟩:=h;have j:=d.size;refine⟨xs,aX h1 d fun k e=>f k (aJ h1 k e).1,h2.carry fun k c=>⟨⟨c.1,by have:=c.2.1;omega,c.2.2⟩,d.block k c.2.1 (f k c.1)⟩⟩
theorem Em.push{B:Nat}{W W2:World}{v d:Value}{dF:List J}{y:J}{cs xs:List Value}{o:Obj}(h2:isRow (Elt B v W) W dF xs)(j:isJ (Elt B v W) W y cs)
    (u:W2.ownsRow B 25 5 d (dF.length+1) (xs++cs)) (f:(W.alloc o).grownBy W2 v.ownBlock) (m:d.ownBlock=v.ownBlock\/ d.ownBlock=some (W.alloc o).heap.size):Em B W2 d (dF++ [y]):=by
 have x:=f.size;simp at x;have carry:∀k,Elt B v W k->Elt B d W2 k/\W2.heap[k]?=W.heap[k]?:=by
  intro k c;refine⟨⟨c.1,by have:=c.2.1;omega,fun e=> ?_⟩,bU f c.2.1 c.2.2⟩
  rcases m with h| h
  ·exact c.2.2 (h ▸ e)
  ·rw[h]at e;have h3:(W.alloc o).heap.size=k:=Option.some.inj e;simp at h3;have:=c.2.1;omega
 exact⟨xs++cs,by rw[List.length_append];exact u,isRow.snoc j.qC (j.carry carry) dF xs (h2.carry carry)⟩
structure LI(B R b:Nat)(WA:World)(dF:List J)(vl:Value)(wr:World):Prop where
 obj:wr.heap[b+1]?=some (.cells #[.int .i64 4,.int .i64 0,.string ⟨#[]⟩,.slice none 0 0,vl] 25 (0,0))
 res:wr.heap[b]?=some (.cells #[.int .i64 0,.int .i64 0,.string ⟨#[]⟩,.slice none 0 0,.slice none 0 0] 25 (0,0))
 eD:Em B wr vl dF
 bf:ag (dU R (b+1)) WA wr
 MN:WA.heap.size=B
 lt:b+1<B
 rb:R<b
section
variable {B R b : Nat} {WA W W2 : World} {dF : List J} {vl iM : Value}
theorem LI.size(h:LI B R b WA dF vl W):B<=W.heap.size:=by have:=h.bf.size;have:=h.MN;omega
theorem LI.one(h:LI B R b WA dF vl W)(c:ag (One R) W W2):LI B R b WA dF vl W2:=by
 have h1:=h.size;have h2:=h.lt;have h3:=h.rb;exact⟨(c.block _ (by omega) (by unfold One;omega)).trans h.obj,(c.block _ (by omega) (by unfold One;omega)).trans h.res,h.eD.bf c fun k d=>by unfold One;omega,h.bf.then c.kP,h.MN,h2,h3⟩
theorem LI.alloc(h:LI B R b WA dF vl W)(o:Obj):LI B R b WA dF vl (W.alloc o):=h.one ((ag.refl _ _).alloc o)
theorem LI.c4(h:LI B R b WA dF vl W):W.cell? ⟨b+1,4,none⟩=some vl:=aZ h.obj
theorem LI.push(h:LI B R b WA dF vl W){y:J}{cs xs:List Value}{o:Obj}(h1:W.ownsRow B 25 5 vl dF.length xs)(h2:isRow (Elt B vl W) W dF xs)(x:isJ (Elt B vl W) W y cs)
    (F:W2.ownsRow B 25 5 iM (dF.length+1) (xs++cs)) (c:(W.alloc o).grownBy W2 vl.ownBlock) (u:iM.ownBlock=vl.ownBlock\/ iM.ownBlock=some (W.alloc o).heap.size):
    W2.cell? ⟨b+1,4,none⟩=some vl/\W2.frozen? ⟨b+1,4,none⟩=false/\LI B R b WA (dF++ [y]) iM (W2.setCell ⟨b+1,4,none⟩ iM):=by
 have H:=h.size;have z:=h.lt;have f:=h.rb;have d:=aJ h1;have j:W2.heap[b+1]?=some (.cells #[.int .i64 4,.int .i64 0,.string ⟨#[]⟩,.slice none 0 0,vl] 25 (0,0)):=by
  rw[bU c (by omega) (fun e=>by have:=d _ e;omega)];exact h.obj
 have m:W2.heap[b]?=some (.cells #[.int .i64 0,.int .i64 0,.string ⟨#[]⟩,.slice none 0 0,.slice none 0 0] 25 (0,0)):=by
  rw[bU c (by omega) (fun e=>by have:=d _ e;omega)];exact h.res
 have K3:ag (One (b+1)) W2 (W2.setCell ⟨b+1,4,none⟩ iM):=ag.setCell (ag.refl _ _) (fun _=>(rfl:b+1=b+1)) _;refine⟨aZ j,iU j 4,⟨?_, ?_, ?_, ?_,h.MN,z,f⟩⟩
 ·rw[heap_setCell_same _ (b+1) 4 _ _ _ j];rfl
 ·rw[K3.block b (by have:=(Array.getElem?_eq_some_iff.1 m).1;omega) (by unfold One;omega)];exact m
 ·exact(Em.push h2 x F c u).bf K3 fun k I=>by unfold One;omega
 ·have G:ag (dU R (b+1)) WA (W.alloc o):=h.bf.alloc o;have A:ag (dU R (b+1)) WA W2:=G.grown c fun k e=>by have:=(d k e).1;have:=h.MN;omega
  exact A.then (K3.mono fun i _ E=>.inr E)
end
theorem r_{w:World}{dQ:Array Oper}{rest:List Oper}{o:Oper}{a:Act}{Q:Exit->Act->World->Prop}(N:o.guard=none)(s x:Operand)(t:TypeId)
    (E:o.op=.call {callee:=.builtin .append,args:=#[s,x],argTypes:=#[t,t]})
    (base:Nat) (e:TypeId) (z:Value) (size bytes:Nat) (k:Tryz.prog.underlying t=some (.slice e)) (F:(Tryz.prog.info? e).map (fun i=>(i.zero,i.size,i.bytes))=some (some z,size,bytes))
    (d:z.cells.size=size) (A:0<size) (I:bytes<=100)
    (v:Value) (n:Nat) (xs:List Value) (V:a.eval s=v) (S:w.ownsRow base e size v n xs)
    (f:Addr) (news:List Value) (T:a.eval x=.slice (some f) 1 1) (U:news.length=size) (m:∀j u,news[j]?=some u->w.cell? (f.add j)=some u) (h1:∀u∈news,u.oneCell'=true)
    (G:n<=1000000) (K:base<=w.heap.size)
    (h:∀c w',w'.ownsRow base e size c (n+1) (xs++news)->w.grownBy w' v.ownBlock->(c.ownBlock=v.ownBlock\/ c.ownBlock=some w.heap.size)->wpList Tryz.prog dQ Q rest (a.put o.dst c) w'):wpList Tryz.prog dQ Q (o::rest) a w:=
 wpList_plain N fun _ H=>aP s x t E base e z size bytes k F d A I v n xs V S f news T U m h1 G K fun c w' h2 h3 h4=>H _ _ (h c w' h2 h3 h4)
def tQ(u:Nat):List Int:=(Lib.decDigits u).map fun c=>(c.toNat:Int)
theorem om(u:Nat)(h:u<10):tQ u= [48+(u:Int)]:=by
 unfold tQ;rw[Lib.decDigits,dif_pos h];simp;omega
theorem xQ(u:Nat)(h:¬u<10):tQ u=tQ (u / 10)++ [48+((u % 10:Nat):Int)]:=by
 unfold tQ;rw[Lib.decDigits,dif_neg h,List.map_append];simp;omega
theorem xR(u:Nat):∀c∈tQ u,df c=true:=by
 induction u using Nat.strongRecOn with
 | _ u ih=>
  intro c d
  by_cases h:u<10
  ·rw[om u h]at d;simp at d;unfold df;simp;omega
  ·rw[xQ u h]at d
   rcases List.mem_append.1 d with h1| h1
   ·exact ih (u / 10) (by omega) c h1
   ·simp at h1;unfold df;simp;omega
theorem RQ(l:List Int)(c:Int):oD (l++ [c])=if oD l<=bI then oD l*10+(c - 48)else oD l:=by
 unfold oD;rw[List.foldl_append]
 rfl
theorem Zq(u:Nat)(c:(u:Int)<=bI):oD (tQ u)=u:=by
 induction u using Nat.strongRecOn with
 | _ u ih=>
  by_cases h:u<10
  ·rw[om u h];unfold oD bI;simp;omega
  ·unfold bI at c;rw[xQ u h,RQ,ih (u / 10) (by omega) (by unfold bI;omega),if_pos (by unfold bI;omega)];omega
theorem U9(u:Nat):tQ u≠ []:=by
 by_cases h:u<10
 ·rw[om u h];simp
 ·rw[xQ u h];simp
theorem Jg(u:Nat)(h1:1<=u):∃c r,tQ u=c::r/\c≠48/\df c=true:=by
 induction u using Nat.strongRecOn with
 | _ u ih=>
  by_cases h:u<10
  ·exact⟨48+u, [],om u h,by omega,by unfold df;simp;omega⟩
  ·obtain⟨c,r,e,d⟩:=ih (u / 10) (by omega) (by omega);exact⟨c,r++ [48+((u % 10:Nat):Int)],by rw[xQ u h,e];rfl,d⟩
def P9(r:List Int):Prop:=∀c,r.head?=some c->df c=false
theorem RU(x r:List Int)(f:∀c∈x,df c=true)(h:P9 r):(x++r).takeWhile df=x:=by
 induction x with
 | nil=>
  cases r with
  | nil=>rfl
  | cons c r=>rw[List.nil_append,List.takeWhile_cons,h c rfl];rfl
 | cons c x ih=>
  rw[List.cons_append,List.takeWhile_cons,f c (by simp)];simp only[if_true];rw[ih fun d j=>f d (by simp[j])]
theorem Aa{t r:List Int}{p u:Nat}(j:(u:Int)<=bI)(h:P9 r)(d:t.drop p=tQ u++r):digits t p=((u:Int),p+(tQ u).length):=by
 unfold digits
 by_cases h0:u=0
 ·subst h0;have e:tQ 0= [48]:=om 0 (by omega);rw[e]at d ⊢;rw[if_pos (bG d)]
  rfl
 ·obtain⟨c,x,e,f,_⟩:=Jg u (by omega);have k:ah t p=c:=bG (r:=x++r) (by rw[d,e];rfl);rw[if_neg (by rw[k];exact f),d,RU _ _ (xR u) h,Zq u j]
theorem Jh{t r:List Int}{p:Nat}{i:Int}(h0: -bI<=i)(h1:i<=bI)(I:P9 r)(S:∀c,r.head?=some c->c≠46/\c≠101/\c≠69)(d:t.drop p=vU i++r):
    number t p=.ok (.mk 2 i aH [] []) (p+(vU i).length)/\(ah t p=45\/ df (ah t p)=true):=by
 have A:∀q,t.drop q=r->¬(ah t q=46\/ ah t q=101\/ ah t q=69):=by
  intro q m
  cases r with
  | nil=>rw[UZ m];decide
  | cons c r=>
   rw[bG m];have:=S c rfl;omega
 unfold vU Lib.itoa at d ⊢
 by_cases K:i<0
 ·rw[if_pos K]at d ⊢;obtain⟨u,U⟩:∃u:Nat,i= -(u:Int):=⟨i.natAbs,by omega⟩;have N:i.natAbs=u:=by omega
  rw[N]at d ⊢;have k:t.drop p=45::(tQ u++r):=by rw[d];rfl
  have b0:=bG k;have H:=drop_tail k;have E:1<=u:=by omega
  obtain⟨c,x,e,_,j⟩:=Jg u E;have b1:ah t (p+1)=c:=bG (r:=x++r) (by rw[H,e];rfl);have f:=Aa (t:=t) (p:=p+1) (u:=u) (by omega) I H;refine⟨?_,.inl b0⟩;unfold number;rw[if_pos b0,b1,if_pos j];simp only[f];have m:=A (p+1+(tQ u).length) (jN H);rw[if_neg (by intro h;rcases h with h| h;{omega};{exact m h}),if_pos b0]
  congr 1
  ·rw[U]
  ·simp only[List.map_cons,List.length_cons];unfold tQ;omega
 ·rw[if_neg K]at d ⊢;obtain⟨u,rfl⟩:∃u:Nat,i=(u:Int):=⟨i.toNat,by omega⟩;rw[Int.toNat_natCast]at d ⊢;have k:t.drop p=tQ u++r:=d;have F:∃c x,tQ u=c::x/\df c=true:=by
   cases he:tQ u with
   | nil=>exact absurd he (U9 u)
   | cons c x=>exact⟨c,x,rfl,xR u c (by rw[he];simp)⟩
  obtain⟨c,x,e,j⟩:=F;have b0:ah t p=c:=bG (r:=x++r) (by rw[k,e];rfl);have T:c≠45:=by intro h;rw[h]at j;revert j;decide
  have f:=Aa (t:=t) (p:=p) (u:=u) h1 I k;refine⟨?_,.inr (by rw[b0];exact j)⟩;unfold number;have z:¬ah t p=45:=by rw[b0];exact T
  have G:(if ah t p=45 then p+1 else p)=p:=if_neg z;rw[G,if_pos (by rw[b0];exact j)];simp only[f];have m:=A (p+(tQ u).length) (jN k);rw[if_neg (by intro h;rcases h with h| h;{omega};{exact m h}),if_neg z]
  rfl
def Stop(r:List Int):Prop:=∀c,r.head?=some c->c=44\/ c=93\/ c=125
theorem U_{r:List Int}(h:Stop r):P9 r:=fun c d=>by
 rcases h c d with rfl| rfl| rfl<;>decide
theorem RV{r:List Int}(h:Stop r):∀c,r.head?=some c->c≠46/\c≠101/\c≠69:=fun c d=>by
 rcases h c d with rfl| rfl| rfl<;>decide
theorem fD{t r:List Int}{p:Nat}{c:Int}(f:t.drop p=c::r)(d:jG c=false):aF t p=p:=by
 unfold aF;rw[f,List.takeWhile_cons,d]
 rfl
theorem MO{t:List Int}{p:Nat}(c:t.drop p= []):aF t p=p:=by
 unfold aF;rw[c]
 rfl
theorem Fj{t r:List Int}{p:Nat}{c:Int}(d:t.drop p=c::r):qz t c p=.ok () (p+1):=by
 unfold qz;rw[if_pos (bG d)]
theorem vB{t:List Int}:∀(l r:List Int) (p:Nat),t.drop p=l++r->word t l p=.ok () (p+l.length)
 | [],_,_,_=>rfl
 | c::l,r,p,hd=>by
  unfold word;rw[Fj (r:=l++r) hd];simp only[Res.bind];rw[vB l r (p+1) (drop_tail hd)];simp only[List.length_cons]
  congr 1
  omega
theorem qJ(d:Nat)(j:J)(m:goodJ d j=true):∃c r,aY j=c::r/\jG c=false/\oC c=true/\c≠93/\c≠125:=by
 cases j with
 | mk k i t ks l=>
  cases d with
  | zero=>cases m
  | succ d=>
   unfold goodJ at m;simp only[Bool.and_eq_true]at m;have h:=m.2;unfold aY
   split
   ·exact⟨110,_,rfl,by decide,by decide,by decide,by decide⟩
   split
   ·split
    ·exact⟨116,_,rfl,by decide,by decide,by decide,by decide⟩
    ·exact⟨102,_,rfl,by decide,by decide,by decide,by decide⟩
   split
   ·unfold vU Lib.itoa
    split
    ·exact⟨45,_,rfl,by decide,by decide,by decide,by decide⟩
    ·have x:=U9 i.toNat;have u:=xR i.toNat;unfold tQ at x u
     cases he:(Lib.decDigits i.toNat).map fun c=>(c.toNat:Int)with
     | nil=>exact absurd he x
     | cons c r=>
      have f:=u c (by rw[he];simp);refine⟨c,r,rfl, ?_,by unfold oC;rw[f];simp, ?_, ?_⟩
      ·unfold df at f;unfold jG;simp at f ⊢;omega
      ·unfold df at f;simp at f;omega
      ·unfold df at f;simp at f;omega
   split
   ·exact⟨34,_,rfl,by decide,by decide,by decide,by decide⟩
   split
   ·exact⟨91,_,rfl,by decide,by decide,by decide,by decide⟩
   split
   ·exact⟨123,_,rfl,by decide,by decide,by decide,by decide⟩
   ·rename_i h0 h1 h2 h3 h4 h5;rw[if_neg h0,if_neg h1,if_neg h2,if_neg h3,if_neg h4,if_neg h5]at h
    cases h
theorem iw(b:Bool)(j:J)(r:List J):gM b (j::r)=(if b then []else [44])++(aY j++gM false r):=by rw[gM]
theorem iZ(b:Bool)(ks:List ByteArray)(j:J)(r:List J):gG b ks (j::r)=(if b then []else [44])++(quote (ints (ks.headD aH))++(58::(aY j++gG false ks.tail r))):=by rw[gG]
theorem Ch(t:List Int)(f:Nat->Res J)(m p:Nat)(dF:List J):listL t f (m+1) p dF=(f (aF t p)).bind fun v q=>
    if ah t (aF t q)=93 then .ok (.mk 4 0 aH [] (dF++ [v])) (aF t q+1)
    else if ah t (aF t q)=44 then listL t f m (aF t q+1) (dF++ [v])
    else .bad 11 (aF t q):=rfl
theorem Ab(t:List Int)(f:Nat->Res J)(m p:Nat)(ks:List ByteArray)(dF:List J):pairsL t f (m+1) p ks dF=(ku t ks (aF t p)).bind fun s q=>(f q).bind fun v r=>
    if ah t (aF t r)=125 then .ok (mapOf (ks++ [s]) (dF++ [v])) (aF t r+1)
    else if ah t (aF t r)=44 then pairsL t f m (aF t r+1) (ks++ [s]) (dF++ [v])
    else .bad 11 (aF t r):=rfl
theorem Fp{t:List Int}{d:Nat}{f:Nat->Res J}(G:∀(j:J) (p:Nat) (r:List Int),goodJ d j=true->inOrd j=true->t.drop p=aY j++r->Stop r->f p=.ok j (p+(aY j).length)):
    ∀(l:List J) (m p:Nat) (dF:List J) (r:List Int),l≠ []->l.all (goodJ d)=true->inOrdL l=true->l.length<m->t.drop p=gM true l++93::r→
     listL t f m p dF=.ok (.mk 4 0 aH [] (dF++l)) (p+(gM true l).length+1)
 | [],_,_,_,_,h,_,_,_,_=>absurd rfl h
 | j::l,0,_,_,_,_,_,_,hm,_=>by omega
 | j::l,m+1,p,dF,r,_,hg,ho,hm,hd=>by
  simp only[List.all_cons,Bool.and_eq_true]at hg;have H:inOrd j=true/\inOrdL l=true:=by unfold inOrdL at ho;simpa using ho
  have A:gM true (j::l)=aY j++gM false l:=by rw[iw];simp
  rw[A,List.append_assoc]at hd;obtain⟨c,x,N,S,_⟩:=qJ d j hg.1;have K:t.drop p=c::(x++(gM false l++93::r)):=by rw[hd,N];rfl
  have T:=fD K S;have E:=jN hd;have I:Stop (gM false l++93::r):=by
   intro y z
   cases l with
   | nil=>unfold gM at z;simp at z;omega
   | cons u l2=>unfold gM at z;simp at z;omega
  rw[Ch,T,G j p _ hg.1 H.1 hd I];simp only[Res.bind]
  cases l with
  | nil=>
   have k:t.drop (p+(aY j).length)=93::r:=by rw[E];unfold gM;rfl
   rw[fD k (by decide),if_pos (bG k),A];unfold gM;simp
  | cons u l2=>
   have F:gM false (u::l2)=44::gM true (u::l2):=by rw[iw,iw];simp
   have k:t.drop (p+(aY j).length)=44::(gM true (u::l2)++93::r):=by rw[E,F];rfl
   rw[fD k (by decide),if_neg (by rw[bG k];decide),if_pos (bG k)];rw[Fp G (u::l2) m (p+(aY j).length+1) (dF++ [j]) r (by simp) hg.2 H.2 (by simp at hm ⊢;omega) (drop_tail k),A,F];simp only[List.append_assoc,List.singleton_append,List.length_append,List.length_cons]
   congr 1
   omega
theorem Vb{t r:List Int}{p:Nat}{ks:List ByteArray}{k:ByteArray}{c:Int}(F:∀x∈ks,x≠k)(A:jG c=false)(j:t.drop p=quote (ints k)++58::c::r):
    ku t ks p=.ok k (p+(quote (ints k)).length+1):=by
 obtain⟨u,E⟩:=zX (nR k) j;have f:=jN j;have z:=drop_tail f;unfold ku;rw[if_pos E,u];simp only[Res.bind,BJ];rw[if_neg,fD f (by decide),Fj f]
 ·simp only;rw[fD z A]
 ·intro h;obtain⟨x,m,d⟩:=List.any_eq_true.1 h;refine F x m ?_
  cases x;cases k
  simp at d;rw[d]
theorem Ci{t:List Int}{d:Nat}{f:Nat->Res J}(S:∀(j:J) (p:Nat) (r:List Int),goodJ d j=true->inOrd j=true->t.drop p=aY j++r->Stop r->f p=.ok j (p+(aY j).length)):
    ∀(l:List J) (ks u:List ByteArray) (m p:Nat) (dF:List J) (r:List Int),l≠ []->ks.length=l.length->rises (u++ks)=true->l.all (goodJ d)=true->inOrdL l=true->l.length<m->t.drop p=gG true ks l++125::r→
     pairsL t f m p u dF=.ok (mapOf (u++ks) (dF++l)) (p+(gG true ks l).length+1)
 | [],_,_,_,_,_,_,h,_,_,_,_,_,_=>absurd rfl h
 | j::l, [],_,_,_,_,_,_,h,_,_,_,_,_=>by simp at h
 | j::l,k::ks,_,0,_,_,_,_,_,_,_,_,hm,_=>by omega
 | j::l,k::ks,u,m+1,p,dF,r,_,hl,hr,hg,ho,hm,hd=>by
  simp only[List.all_cons,Bool.and_eq_true]at hg;have T:inOrd j=true/\inOrdL l=true:=by unfold inOrdL at ho;simpa using ho
  have G:gG true (k::ks) (j::l)=quote (ints k)++(58::(aY j++gG false ks l)):=by rw[iZ];simp
  rw[G]at hd;obtain⟨c,x,I,Z,_⟩:=qJ d j hg.1;have F:t.drop p=quote (ints k)++58::c::(x++(gG false ks l++125::r)):=by rw[hd,I];simp
  have X:t.drop p=34::((ints k).flatMap aG++ [34]++58::c::(x++(gG false ks l++125::r))):=by rw[F];unfold quote;simp
  have o7:=fD X (by decide);have U:=Vb (Rk hr) Z F;have H:t.drop (p+(quote (ints k)).length+1)=aY j++(gG false ks l++125::r):=by
   have:=drop_tail (jN F);rw[this,I];rfl
  have V:Stop (gG false ks l++125::r):=by
   intro y E
   cases l with
   | nil=>unfold gG at E;simp at E;omega
   | cons A l2=>unfold gG at E;simp at E;omega
  rw[Ab,o7,U];simp only[Res.bind];rw[S j _ _ hg.1 T.1 H V];simp only;have K:=jN H
  cases l with
  | nil=>
   have Y:ks= []:=List.eq_nil_of_length_eq_zero (by simpa using hl);subst Y;have z:t.drop (p+(quote (ints k)).length+1+(aY j).length)=125::r:=by rw[K];unfold gG;rfl
   rw[fD z (by decide),if_pos (bG z),G];unfold gG;simp only[List.length_append,List.length_cons,List.length_nil]
   congr 1
   omega
  | cons A l2=>
   have N:gG false ks (A::l2)=44::gG true ks (A::l2):=by rw[iZ,iZ];simp
   have z:t.drop (p+(quote (ints k)).length+1+(aY j).length)=44::(gG true ks (A::l2)++125::r):=by rw[K,N];rfl
   rw[fD z (by decide),if_neg (by rw[bG z];decide),if_pos (bG z)];rw[Ci S (A::l2) ks (u++ [k]) m _ (dF++ [j]) r (by simp) (by simpa using hl) (by rw[List.append_assoc];exact hr) hg.2 T.2 (by simp at hm ⊢;omega) (drop_tail z),G,N];simp only[List.append_assoc,List.singleton_append,List.length_append,List.length_cons]
   congr 1
   omega
theorem wZ{t:ByteArray}(h:t.size=0):t=aH:=by
 cases t with
 | mk a=>
  have:a=#[]:=Array.eq_empty_of_size_eq_zero h;rw[this];rfl
theorem Vd(l:List J):∀b,(∀j∈l,1<=(aY j).length)->l.length<=(gM b l).length:=by
 induction l with
 | nil=>intro b _;simp
 | cons j l ih=>
  intro b h;have h1:=h j (by simp);have h2:=ih false fun x c=>h x (by simp[c]);unfold gM;simp only[List.length_append,List.length_cons];omega
theorem Ve(l:List J):∀b ks,l.length<=(gG b ks l).length:=by
 induction l with
 | nil=>intro b ks;simp
 | cons j l ih=>
  intro b ks;have h2:=ih false ks.tail;unfold gG;simp only[List.length_append,List.length_cons];omega
theorem Jj{t x r:List Int}{p:Nat}(h:t.drop p=x++r):x.length<=t.length:=by
 have:=congrArg List.length h;rw[List.length_drop,List.length_append]at this;omega
theorem w_(t:List Int):∀(d:Nat) (j:J) (p:Nat) (r:List Int),goodJ d j=true->inOrd j=true->t.drop p=aY j++r->Stop r->value t d p=.ok j (p+(aY j).length)
 | 0,_,_,_,h,_,_,_=>by cases h
 | d+1,.mk k i s ks l,p,r,hg,ho,hd,hs=>by
  have nt:=hg;obtain⟨c0,x0,hh,_,zfT,_,_⟩:=qJ (d+1) _ hg;unfold goodJ bare at hg;simp only[Bool.and_eq_true,Bool.or_eq_true,decide_eq_true_eq]at hg;obtain⟨⟨⟨⟨hi,ht⟩,hk⟩,hl⟩,h⟩:=hg;have U:rises ks=true/\inOrdL l=true:=by unfold inOrd at ho;simpa using ho
  have b0:ah t p=c0:=bG (r:=x0++r) (by rw[hd,hh];rfl);unfold value;rw[if_pos (by rw[b0];exact zfT)]
  by_cases I:k=0
  ·subst I;have m:i=0:=by omega
   have A:=wZ (by omega:s.size=0);have z:ks= []:=List.eq_nil_of_length_eq_zero (by omega);have G:l= []:=List.eq_nil_of_length_eq_zero (by omega);subst m A z G;have e:aY (.mk 0 0 aH [] [])= [110,117,108,108]:=by unfold aY;rfl
   rw[e]at hd ⊢;rw[if_pos (bG hd),vB _ _ _ hd]
   rfl
  by_cases N:k=1
  ·subst N;have A:=wZ (by omega:s.size=0);have z:ks= []:=List.eq_nil_of_length_eq_zero (by omega);have G:l= []:=List.eq_nil_of_length_eq_zero (by omega);subst A z G;rw[if_neg I,if_pos rfl]at h;simp only[Bool.or_eq_true,decide_eq_true_eq]at h
   rcases h with rfl| rfl
   ·have e:aY (.mk 1 0 aH [] [])= [102,97,108,115,101]:=by unfold aY;rfl
    rw[e]at hd ⊢;have f:=bG hd;rw[if_neg (by rw[f];decide),if_neg (by rw[f];decide),if_pos f,vB _ _ _ hd]
    rfl
   ·have e:aY (.mk 1 1 aH [] [])= [116,114,117,101]:=by unfold aY;rfl
    rw[e]at hd ⊢;have f:=bG hd;rw[if_neg (by rw[f];decide),if_pos f,vB _ _ _ hd]
    rfl
  by_cases S:k=2
  ·subst S;have A:=wZ (by omega:s.size=0);have z:ks= []:=List.eq_nil_of_length_eq_zero (by omega);have G:l= []:=List.eq_nil_of_length_eq_zero (by omega);subst A z G;rw[if_neg I,if_neg N,if_pos rfl]at h;simp only[Bool.and_eq_true,decide_eq_true_eq]at h;have e:aY (.mk 2 i aH [] [])=vU i:=by unfold aY;rfl
   rw[e]at hd ⊢;obtain⟨hn,f⟩:=Jh h.1 h.2 (U_ hs) (RV hs) hd;have H:∀y:Int,df y=false->y≠45->ah t p≠y:=by
    intro y h1 h2 h3;rw[h3]at f
    rcases f with f| f
    ·exact h2 f
    ·rw[h1]at f;cases f
   rw[if_neg (H 110 (by decide) (by decide)),if_neg (H 116 (by decide) (by decide)),if_neg (H 102 (by decide) (by decide)),if_neg (H 34 (by decide) (by decide)),if_neg (H 91 (by decide) (by decide)),if_neg (H 123 (by decide) (by decide))];exact hn
  by_cases T:k=3
  ·subst T;have m:i=0:=by omega
   have z:ks= []:=List.eq_nil_of_length_eq_zero (by omega);have G:l= []:=List.eq_nil_of_length_eq_zero (by omega);subst m z G;have e:aY (.mk 3 0 s [] [])=quote (ints s):=by unfold aY;rfl
   rw[e]at hd ⊢;obtain⟨hq,f⟩:=zX (nR s) hd;rw[if_neg (by rw[f];decide),if_neg (by rw[f];decide),if_neg (by rw[f];decide),if_pos f,hq];simp only[Res.bind,BJ]
  by_cases k4:k=4
  ·subst k4;have m:i=0:=by omega
   have A:=wZ (by omega:s.size=0);have z:ks= []:=List.eq_nil_of_length_eq_zero (by omega);subst m A z;rw[if_neg I,if_neg N,if_neg S,if_neg T,if_pos rfl]at h;have e:aY (.mk 4 0 aH [] l)=91::(gM true l++ [93]):=by unfold aY;rfl
   rw[e]at hd ⊢;have K:t.drop p=91::(gM true l++93::r):=by rw[hd];simp
   have f:=bG K;have E:=drop_tail K;rw[if_neg (by rw[f];decide),if_neg (by rw[f];decide),if_neg (by rw[f];decide),if_neg (by rw[f];decide),if_pos f];unfold lI
   cases l with
   | nil=>
    have u:t.drop (p+1)=93::r:=by rw[E];unfold gM;rfl
    rw[fD u (by decide),if_pos (bG u)];unfold gM;simp
   | cons F l2=>
    have nM:goodJ d F=true:=by simp only[List.all_cons,Bool.and_eq_true]at h;exact h.1
    obtain⟨c,x,V,zZ,_,Z,_⟩:=qJ d F nM;have u:t.drop (p+1)=c::(x++(gM false l2++93::r)):=by rw[E,iw,V];simp
    have Y:(F::l2).length<t.length+1:=by
     have h1:=Vd (F::l2) true fun y hy=>by
      obtain⟨c',x',X,_⟩:=qJ d y (List.all_eq_true.1 h y hy);rw[X];simp
     have h2:=Jj E;omega
    rw[fD u zZ,if_neg (by rw[bG u];exact Z)];rw[Fp (fun j p r h1 h2 h3 h4=>w_ t d j p r h1 h2 h3 h4) (F::l2) (t.length+1) (p+1) [] r (by simp) h U.2 Y E];simp only[List.nil_append,List.length_cons,List.length_append,List.length_nil]
    congr 1
    omega
  by_cases k5:k=5
  ·subst k5;have m:i=0:=by omega
   have A:=wZ (by omega:s.size=0);subst m A;rw[if_neg I,if_neg N,if_neg S,if_neg T,if_neg k4,if_pos rfl]at h;simp only[Bool.and_eq_true,decide_eq_true_eq]at h;have e:aY (.mk 5 0 aH ks l)=123::(gG true ks l++ [125]):=by unfold aY;rfl
   rw[e]at hd ⊢;have K:t.drop p=123::(gG true ks l++125::r):=by rw[hd];simp
   have f:=bG K;have E:=drop_tail K;rw[if_neg (by rw[f];decide),if_neg (by rw[f];decide),if_neg (by rw[f];decide),if_neg (by rw[f];decide),if_neg (by rw[f];decide),if_pos f];unfold iT
   cases l with
   | nil=>
    have z:ks= []:=List.eq_nil_of_length_eq_zero (by simpa using h.1.1);subst z;have u:t.drop (p+1)=125::r:=by rw[E];unfold gG;rfl
    rw[fD u (by decide),if_pos (bG u)];unfold gG;simp
   | cons F l2=>
    have Y:(F::l2).length<t.length+1:=by
     have h1:=Ve (F::l2) true ks;have h2:=Jj E;omega
    have u:∃y,t.drop (p+1)=34::y:=by
     rw[E];unfold gG quote;simp
    obtain⟨y,u⟩:=u;rw[fD u (by decide),if_neg (by rw[bG u];decide)];rw[Ci (fun j p r h1 h2 h3 h4=>w_ t d j p r h1 h2 h3 h4) (F::l2) ks [] (t.length+1) (p+1) [] r (by simp) h.1.1 U.1 h.2 U.2 Y E];rw[List.nil_append,List.nil_append,IW h.1.1 U.1];simp only[List.length_cons,List.length_append,List.length_nil]
    congr 1
    omega
  ·rw[if_neg I,if_neg N,if_neg S,if_neg T,if_neg k4,if_neg k5]at h
   cases h
theorem MP(j:J)(d:goodJ 12 j=true)(u:inOrd j=true):whole (aY j)=.ok j (aY j).length:=by
 obtain⟨c,x,f,k,_⟩:=qJ 12 j d;have m:(aY j).drop 0=aY j++ []:=by simp
 have z:(aY j).drop 0=c::x:=by rw[f];rfl
 unfold whole;rw[fD z k,w_ (aY j) 12 j 0 [] d u m (fun c h=>by cases h)];simp only[Res.bind,Nat.zero_add];rw[MO (by simp),if_neg (by omega)]
open Go.RowKit
def Reads(d:Nat):Prop:=∀(w:World) (R p:Nat) (s:ByteArray) (e l deep:Int),fw w R s p e l->short s->p<=s.size->deep=13 - (d:Int)→
 Calls Tryz.prog 91 #[.pointer (some ⟨R,0,none⟩),.int .i64 deep] w fun x w'=>xL w w' R s (value (ints s) d p) x
abbrev zJ:Obj:=.cells #[.int .i64 0,.int .i64 0,.string ⟨#[]⟩,.slice none 0 0,.slice none 0 0] 25
abbrev lJ:Obj:=.cells #[.int .i64 4,.int .i64 0,.string ⟨#[]⟩,.slice none 0 0,.slice none 0 0] 25
abbrev atL(w:World)(R p:Nat):World:=((w.setCell ⟨R,1,none⟩ (.int .i64 ((p:Int)+1))).alloc zJ).alloc lJ
theorem Vg(w:World)(R p:Nat):ag (One R) w (atL w R p):=((fw.setAt w R (p+1)).alloc _).alloc _
theorem LI.start(w:World)(R p:Nat)(c:R<w.heap.size):LI (w.heap.size+2) R w.heap.size (atL w R p) [] (.slice none 0 0) (atL w R p):=by
 refine⟨?_, ?_,Em.nil _ _,ag.refl _ _,by simp,by omega,c⟩
 ·have:=heap_alloc_new ((w.setCell ⟨R,1,none⟩ (.int .i64 ((p:Int)+1))).alloc zJ) lJ;rw[show((w.setCell ⟨R,1,none⟩ (.int .i64 ((p:Int)+1))).alloc zJ).heap.size=w.heap.size+1 by simp]at this;exact this
 ·rw[Below.heap_alloc _ _ _ (by simp)];have:=heap_alloc_new (w.setCell ⟨R,1,none⟩ (.int .i64 ((p:Int)+1))) zJ;rw[show(w.setCell ⟨R,1,none⟩ (.int .i64 ((p:Int)+1))).heap.size=w.heap.size by simp]at this;exact this
theorem LI.end{w W5 wr:World}{R p:Nat}{dF:List J}{vl:Value}(h:LI (w.heap.size+2) R w.heap.size (atL w R p) dF vl wr)(f:ag (One w.heap.size) wr W5):ag (One R) w W5:=by
 have d:ag (One R) w wr:=(Vg w R p).trans h.bf fun i j c=>by
  rcases c with c| c
  ·exact c
  ·omega
 exact d.trans f fun i j c=>by unfold One at c;omega
theorem LI.ok{w W5 wr:World}{R p:Nat}{dF:List J}{vl:Value}(h:LI (w.heap.size+2) R w.heap.size (atL w R p) dF vl wr)(f:ag (One w.heap.size) wr W5):
    ∃q c,vl=.slice q dF.length c/\isJ (gH w W5) W5 (.mk 4 0 aH [] dF) [.int .i64 4,.int .i64 0,.string aH,.slice none 0 0,.slice q dF.length c]:=by
 obtain⟨xs,h1,h2⟩:=h.eD;obtain⟨q,c,e,j,m⟩:=rZ h1 h2;refine⟨q,c,e, ?_⟩;unfold isJ;refine⟨none,0,q,c,rfl,j5.nil _ _,j,m.carry fun k d=> ?_⟩;have u:=f.size
 rcases d with d| d
 ·exact⟨⟨by have:=d.1;omega,by have:=d.2.1;omega⟩,f.block k d.2.1 (by unfold One;have:=d.1;omega)⟩
 ·exact⟨⟨by omega,by omega⟩,f.block k d.2 (by unfold One;omega)⟩
theorem gp{w:World}{B e size n:Nat}{v:Value}{xs:List Value}(h:w.ownsRow B e size v n xs):∃q n c,v=.slice q n c:=by
 rcases h.2 with⟨d,h0⟩| ⟨f,j,cur,d,_⟩
 ·exact⟨_,_,_,d⟩
 ·exact⟨_,_,_,d⟩
theorem vC{W:World}{n:Nat}(h:W.heap.size=n){t:TypeId}{y0 y1 y2 y3 y4:Value}:∀j u, [y0,y1,y2,y3,y4][j]?=some u->(W.alloc (.cells #[y0,y1,y2,y3,y4] t)).cell? ((⟨n,0,none⟩:Addr).add j)=some u:=by
 subst h;exact fK _ _ _ _ _ _ _
theorem GL{B R b:Nat}{WA w3 d:World}{dF:List J}{vl:Value}{y:J}{cs:List Value}(h:LI B R b WA dF vl w3)(f:isJ (gH w3 d) d y cs)(o:Obj):isJ (Elt B vl (d.alloc o)) (d.alloc o) y cs:=by
 have j:=h.size;obtain⟨xs,h1,h2⟩:=h.eD;refine f.carry fun k c=>⟨⟨by have:=c.1;omega,by have:=c.2;simp;omega,fun e=> ?_⟩,Below.heap_alloc _ _ _ c.2⟩;have:=(aJ h1 k e).2;have:=c.1;omega
theorem Cj{B R b p:Nat}{WA W W2:World}{dF:List J}{vl:Value}{s:ByteArray}{e l:Int}{n:Nat}{xs:List Value}{o:Obj}(h:LI B R b WA dF vl W)(c:fw W R s p e l)(h1:W.ownsRow B 25 5 vl n xs)
    (d:(W.alloc o).grownBy W2 vl.ownBlock) (iM:Value):fw (W2.setCell ⟨b+1,4,none⟩ iM) R s p e l:=by
 have j:=h.lt;have f:=h.rb;have h2:fw W2 R s p e l:=(bU d c.lt fun e=>by have:=(aJ h1 _ e).1;omega).trans c;exact h2.bf (ag.setCell (S:=One (b+1)) (ag.refl _ W2) (p:=⟨b+1,4,none⟩) (fun _=>(rfl:b+1=b+1)) iM) (by unfold One;omega)
theorem MQ{k i:Int}{t:ByteArray}{pk pl:Option Addr}{nk ck nl cl:Nat}:∀u∈ [Value.int .i64 k,.int .i64 i,.string t,.slice pk nk ck,.slice pl nl cl],u.oneCell'=true:=by
 intro u c;simp only[List.mem_cons,List.not_mem_nil,or_false]at c
 rcases c with rfl| rfl| rfl| rfl| rfl<;>rfl
theorem Vh{d:Nat}(V:Reads d){w:World}{R p:Nat}{s:ByteArray}{e l deep:Int}(hr:fw w R s p e l)(T:short s)(hp:p<s.size)(lq:deep=12 - (d:Int))(hd:d<=12):
    Calls Tryz.prog 123 #[.pointer (some ⟨R,0,none⟩),.int .i64 deep] w fun x w'=>xL w w' R s (lI (ints s) (value (ints s) d) p) x:=by
 have fI:=T;unfold short at fI;have hR:=hr.lt;have En:0<=deep:=by omega
 have rQ:deep<=12:=by omega
 have HD:Hid (deep=12 - (d:Int)):=lq;clear lq;have c1:=hr.c1;have f1:=hr.fz 1;have Uu:fw (atL w R p) R s (p+1) e l:=(hr.at (p+1)).bf (S:=fun _=>False) (((ag.refl _ _).alloc _).alloc _) (fun h=>h);have zbz:=LI.start w R p hR;have zZ:=fP (t:=ints s) (p:=p+1) (by rw[ax];exact hp);rw[ax]at zZ;unfold atL zJ lJ at Uu
 by_cases YJ:ah (ints s) (aF (ints s) (p+1))=93
 ·have HL:Hid (lI (ints s) (value (ints s) d) p=.ok (.mk 4 0 aH [] []) (aF (ints s) (p+1)+1)):=by unfold lI;rw[if_pos YJ];rfl
  go_enter Tryz.func123,Tryz.ntmps123;go_wp2_with(first
   | (go_at_call 90;refine(bD Uu T hp).mono ?_;rintro x w2 ⟨rfl,⟨⟨e2,l2,rY⟩,jk⟩⟩)
   | (go_at_call 146;refine(jO rY (by omega) 93 YJ).mono ?_;rintro x w3 ⟨rfl,⟨⟨e3,l3,Y⟩,X⟩⟩
      have F:=(zbz.one jk).one X;obtain⟨j0,j1,j2,j3,j4⟩:=aj F.obj;obtain⟨i0,i1,i2,i3,i4⟩:=aj F.res;obtain⟨z0,z1,z2,z3,z4⟩:=aN F.res))
  have h5:=aK F.res (.int .i64 4) (.int .i64 0) (.string ⟨#[]⟩) (.slice none 0 0) (.slice none 0 0);have z:ag (One w.heap.size) w3 _:=aI w3 w.heap.size (.int .i64 4) (.int .i64 0) (.string ⟨#[]⟩) (.slice none 0 0) (.slice none 0 0);unfold di at h5 z;obtain⟨k0,k1,k2,k3,k4⟩:=aj h5;refine bodyPost_ret (v:=.tuple #[.agg #[.int .i64 4,.int .i64 0,.string ⟨#[]⟩,.slice none 0 0,.slice none 0 0],.bool true]) (by simp[results,Tryz.results123,go_sem,k0,k1,k2,k3,k4]) rfl ?_;rw[HL.out];exact⟨⟨_,_,_,_,_,_,_,_,_,rfl,ni _ _ 4 0 aH⟩,⟨_,_,Y.bf z (fun h=>by unfold One at h;omega)⟩,F.end z⟩
 ·have HL:Hid (lI (ints s) (value (ints s) d) p=listL (ints s) (value (ints s) d) (s.size+1) (aF (ints s) (p+1)) []):=by unfold lI;rw[if_neg YJ,ax];rfl
  go_enter Tryz.func123,Tryz.ntmps123;go_wp2_with(first
   | (go_at_call 90;refine(bD Uu T hp).mono ?_;rintro x w2 ⟨rfl,⟨⟨e2,l2,rY⟩,jk⟩⟩)
   | (go_at_call 146;refine(jl rY 93 YJ).mono ?_;rintro x w' ⟨rfl,rfl⟩))
  have zdG:=zbz.one jk
  go_loopw [8] (fun _ wr=>∃(q m:Nat) (dF:List J) (vl:Value),q<=s.size/\s.size<q+m/\dF.length<=q/\listL (ints s) (value (ints s) d) m q dF=lI (ints s) (value (ints s) d) p/\LI (w.heap.size+2) R w.heap.size (atL w R p) dF vl wr/\∃e l,fw wr R s q e l) (fun _ wr=>s.size - posOf R wr)
  case atStart=>exact⟨_,s.size+1, [],_,zZ,by omega,by simp,HL.out.symm,zdG,_,_,rY⟩
  case round=>
   clear zdG jk rY HL zbz Uu c1 f1;obtain⟨q,m,dF,vl,hq,hm,Zl,hx,Z,e1,l1,lY⟩:=hrel;have bK:=fP (t:=ints s) (p:=q) (by rw[ax];exact hq);have o7:=iq (ints s) q;rw[ax]at bK;have nL:=qG (ints s) d (aF (ints s) q) (by rw[ax];exact bK);have hV:=fun(wv:World) (e l:Int) (h:fw wv R s (aF (ints s) q) e l)=>V wv R (aF (ints s) q) s e l (deep+1) h T bK (by have:=HD.out;omega);obtain⟨m,rfl⟩:∃m',m=m'+1:=⟨m - 1,by omega⟩;have H:Hid (listL (ints s) (value (ints s) d) (m+1) q dF=lI (ints s) (value (ints s) d) p):=hx;clear hx;unfold listL at H;have Rw:=h_ lY
   cases hv:value (ints s) d (aF (ints s) q)with
   | bad er la=>
    rw[hv]at H hV;go_wp2_with(first
     | (go_at_call 90;refine(bD lY T hq).mono ?_;rintro x w3 ⟨rfl,⟨⟨e3,l3,Y⟩,X⟩⟩)
     | (go_at_call 91;refine(hV _ _ _ Y).mono ?_;rintro x A ⟨⟨f,k,j,rfl⟩,⟨q4,Jf⟩,uF⟩
        unfold flat;have u:=((Z.one X).one uF).alloc (.cells #[.int .i64 f,.int .i64 k,.string j,.slice none 0 0,.slice none 0 0] 25);have AO:fw (A.alloc (.cells #[.int .i64 f,.int .i64 k,.string j,.slice none 0 0,.slice none 0 0] 25)) R s q4 er la:=Jf.bf (S:=fun _=>False) ((ag.refl _ _).alloc _) (fun h=>h);obtain⟨i0,i1,i2,i3,i4⟩:=aj u.res;obtain⟨z0,z1,z2,z3,z4⟩:=aN u.res))
    have h5:=aK u.res (.int .i64 0) (.int .i64 0) (.string ⟨#[]⟩) (.slice none 0 0) (.slice none 0 0);have z:ag (One w.heap.size) (A.alloc (.cells #[.int .i64 f,.int .i64 k,.string j,.slice none 0 0,.slice none 0 0] 25)) _:=aI (A.alloc (.cells #[.int .i64 f,.int .i64 k,.string j,.slice none 0 0,.slice none 0 0] 25)) w.heap.size (.int .i64 0) (.int .i64 0) (.string ⟨#[]⟩) (.slice none 0 0) (.slice none 0 0);unfold di at h5 z;obtain⟨k0,k1,k2,k3,k4⟩:=aj h5;refine bodyPost_ret (v:=.tuple #[.agg #[.int .i64 0,.int .i64 0,.string ⟨#[]⟩,.slice none 0 0,.slice none 0 0],.bool false]) (by simp[results,Tryz.results123,go_sem,k0,k1,k2,k3,k4]) rfl ?_;rw[<-H.out];exact⟨⟨0,0,aH,rfl⟩,⟨_,AO.bf z (fun h=>by unfold One at h;omega)⟩,u.end z⟩
   | ok y qy=>
    rw[hv]at H hV nL;have H:Hid ((if ah (ints s) (aF (ints s) qy)=93 then .ok (.mk 4 0 aH [] (dF++ [y])) (aF (ints s) qy+1)else if ah (ints s) (aF (ints s) qy)=44 then listL (ints s) (value (ints s) d) m (aF (ints s) qy+1) (dF++ [y])else .bad 11 (aF (ints s) qy))=lI (ints s) (value (ints s) d) p):=H;have Jk:=nL.2;have zfV:=nL.1;rw[ax]at Jk;have bO:=fP (t:=ints s) (p:=qy) (by rw[ax];exact Jk);rw[ax]at bO;have dh:=iq (ints s) qy;clear nL
    by_cases h9:ah (ints s) (aF (ints s) qy)=93
    ·rw[if_pos h9]at H;go_wp2_with(first
      | (go_at_call 90;refine(bD GK T Jk).mono ?_;rintro x w6 ⟨rfl,⟨⟨e6,l6,uk⟩,o_⟩⟩)
      | (go_at_call 90;refine(bD lY T hq).mono ?_;rintro x w3 ⟨rfl,⟨⟨e3,l3,Y⟩,X⟩⟩)
      | (go_at_call 91;refine(hV _ _ _ Y).mono ?_;rintro x A ⟨⟨f,k,j,pk,nk,ck,pl,nl,cl,rfl,hj⟩,⟨e4,l4,Jf⟩,uF⟩
         have F:=Z.one X;have RL:=GL F hj (.cells #[.int .i64 f,.int .i64 k,.string j,.slice pk nk ck,.slice pl nl cl] 25);have u:=(F.one uF).alloc (.cells #[.int .i64 f,.int .i64 k,.string j,.slice pk nk ck,.slice pl nl cl] 25);have AO:fw (A.alloc (.cells #[.int .i64 f,.int .i64 k,.string j,.slice pk nk ck,.slice pl nl cl] 25)) R s qy e4 l4:=Jf.bf (S:=fun _=>False) ((ag.refl _ _).alloc _) (fun h=>h);have hc4:=u.c4;obtain⟨xs,U,fC⟩:=u.eD)
      | (at_builtin;refine r_ rfl _ _ 23 rfl (w.heap.size+2) 25 (.agg #[.int .i64 0,.int .i64 0,.string ⟨#[]⟩,.slice none 0 0,.slice none 0 0]) 5 80 Tryz.underlying23 Tryz.eB rfl (by decide) (by decide) vl dF.length xs rfl (U.alloc _) _ [.int .i64 f,.int .i64 k,.string j,.slice pk nk ck,.slice pl nl cl] rfl rfl (vC (by simp)) MQ (by omega) (by have:=u.size;simp at this ⊢;omega) ?_
         intro oh W5 K lu jw;obtain⟨E,G,c5,xc⟩:∃q n c,oh=.slice q n c:=gp K;subst xc;have N:((A.alloc (.cells #[.int .i64 f,.int .i64 k,.string j,.slice pk nk ck,.slice pl nl cl] 25)).alloc (.cells #[.int .i64 f,.int .i64 k,.string j,.slice pk nk ck,.slice pl nl cl] 25)).grownBy W5 vl.ownBlock:=lu;have Ac:(Value.slice E G c5).ownBlock=vl.ownBlock\/ (Value.slice E G c5).ownBlock=some ((A.alloc (.cells #[.int .i64 f,.int .i64 k,.string j,.slice pk nk ck,.slice pl nl cl] 25)).alloc (.cells #[.int .i64 f,.int .i64 k,.string j,.slice pk nk ck,.slice pl nl cl] 25)).heap.size:=jw;obtain⟨e5,f5,Vi⟩:=u.push U fC RL K N Ac;have GK:=Cj u AO U N (.slice E G c5);clear K lu jw N Ac)
      | (go_at_call 146;refine(jO uk (by omega) 93 h9).mono ?_;rintro x w7 ⟨rfl,⟨⟨e7,l7,yT⟩,qi⟩⟩
         have I:=(Vi.one o_).one qi;obtain⟨i0,i1,i2,i3,i4⟩:=aj I.res;obtain⟨z0,z1,z2,z3,z4⟩:=aN I.res;obtain⟨j0,j1,j2,j3,j4⟩:=aj I.obj))
     have h5:=aK I.res (.int .i64 4) (.int .i64 0) (.string ⟨#[]⟩) (.slice none 0 0) (.slice E G c5);have z:ag (One w.heap.size) w7 _:=aI w7 w.heap.size (.int .i64 4) (.int .i64 0) (.string ⟨#[]⟩) (.slice none 0 0) (.slice E G c5);unfold di at h5 z;obtain⟨k0,k1,k2,k3,k4⟩:=aj h5;refine bodyPost_ret (v:=.tuple #[.agg #[.int .i64 4,.int .i64 0,.string ⟨#[]⟩,.slice none 0 0,.slice E G c5],.bool true]) (by simp[results,Tryz.results123,go_sem,k0,k1,k2,k3,k4]) rfl ?_;rw[<-H.out];obtain⟨qv,cv,hE,hJ⟩:=I.ok z
     cases hE
     exact⟨⟨_,_,_,_,_,_,_,_,_,rfl,hJ⟩,⟨_,_,yT.bf z (fun h=>by unfold One at h;omega)⟩,I.end z⟩
    ·rw[if_neg h9]at H
     by_cases Cm:ah (ints s) (aF (ints s) qy)=44
     ·rw[if_pos Cm]at H;have bQ:=bz (t:=ints s) (p:=aF (ints s) qy) (by rw[Cm];decide);rw[ax]at bQ;go_wp2_with(first
       | (go_at_call 90;refine(bD GK T Jk).mono ?_;rintro x w6 ⟨rfl,⟨⟨e6,l6,uk⟩,o_⟩⟩)
       | (go_at_call 90;refine(bD lY T hq).mono ?_;rintro x w3 ⟨rfl,⟨⟨e3,l3,Y⟩,X⟩⟩)
       | (go_at_call 91;refine(hV _ _ _ Y).mono ?_;rintro x A ⟨⟨f,k,j,pk,nk,ck,pl,nl,cl,rfl,hj⟩,⟨e4,l4,Jf⟩,uF⟩
          have F:=Z.one X;have RL:=GL F hj (.cells #[.int .i64 f,.int .i64 k,.string j,.slice pk nk ck,.slice pl nl cl] 25);have u:=(F.one uF).alloc (.cells #[.int .i64 f,.int .i64 k,.string j,.slice pk nk ck,.slice pl nl cl] 25);have AO:fw (A.alloc (.cells #[.int .i64 f,.int .i64 k,.string j,.slice pk nk ck,.slice pl nl cl] 25)) R s qy e4 l4:=Jf.bf (S:=fun _=>False) ((ag.refl _ _).alloc _) (fun h=>h);have hc4:=u.c4;obtain⟨xs,U,fC⟩:=u.eD)
       | (at_builtin;refine r_ rfl _ _ 23 rfl (w.heap.size+2) 25 (.agg #[.int .i64 0,.int .i64 0,.string ⟨#[]⟩,.slice none 0 0,.slice none 0 0]) 5 80 Tryz.underlying23 Tryz.eB rfl (by decide) (by decide) vl dF.length xs rfl (U.alloc _) _ [.int .i64 f,.int .i64 k,.string j,.slice pk nk ck,.slice pl nl cl] rfl rfl (vC (by simp)) MQ (by omega) (by have:=u.size;simp at this ⊢;omega) ?_
          intro oh W5 K lu jw;obtain⟨E,G,c5,xc⟩:∃q n c,oh=.slice q n c:=gp K;subst xc;have N:((A.alloc (.cells #[.int .i64 f,.int .i64 k,.string j,.slice pk nk ck,.slice pl nl cl] 25)).alloc (.cells #[.int .i64 f,.int .i64 k,.string j,.slice pk nk ck,.slice pl nl cl] 25)).grownBy W5 vl.ownBlock:=lu;have Ac:(Value.slice E G c5).ownBlock=vl.ownBlock\/ (Value.slice E G c5).ownBlock=some ((A.alloc (.cells #[.int .i64 f,.int .i64 k,.string j,.slice pk nk ck,.slice pl nl cl] 25)).alloc (.cells #[.int .i64 f,.int .i64 k,.string j,.slice pk nk ck,.slice pl nl cl] 25)).heap.size:=jw;obtain⟨e5,f5,Vi⟩:=u.push U fC RL K N Ac;have GK:=Cj u AO U N (.slice E G c5);clear K lu jw N Ac)
       | (go_at_call 146;refine(jl uk 93 h9).mono ?_;rintro x w' ⟨rfl,rfl⟩)
       | (go_at_call 143;refine(qH uk (by omega) 44 Cm).mono ?_;rintro x w7 ⟨rfl,⟨⟨e7,l7,yT⟩,qi⟩⟩
          have I:=(Vi.one o_).one qi))
      have HP:=h_ yT;go_roundw
      case rel=>exact⟨_,m,dF++ [y],_,bQ,by omega,by simp;omega,H.out,I,_,_,yT⟩
      case measure=>rw[HP,Rw];omega
     ·rw[if_neg Cm]at H;go_wp2_with(first
       | (go_at_call 90;refine(bD GK T Jk).mono ?_;rintro x w6 ⟨rfl,⟨⟨e6,l6,uk⟩,o_⟩⟩)
       | (go_at_call 90;refine(bD lY T hq).mono ?_;rintro x w3 ⟨rfl,⟨⟨e3,l3,Y⟩,X⟩⟩)
       | (go_at_call 91;refine(hV _ _ _ Y).mono ?_;rintro x A ⟨⟨f,k,j,pk,nk,ck,pl,nl,cl,rfl,hj⟩,⟨e4,l4,Jf⟩,uF⟩
          have F:=Z.one X;have RL:=GL F hj (.cells #[.int .i64 f,.int .i64 k,.string j,.slice pk nk ck,.slice pl nl cl] 25);have u:=(F.one uF).alloc (.cells #[.int .i64 f,.int .i64 k,.string j,.slice pk nk ck,.slice pl nl cl] 25);have AO:fw (A.alloc (.cells #[.int .i64 f,.int .i64 k,.string j,.slice pk nk ck,.slice pl nl cl] 25)) R s qy e4 l4:=Jf.bf (S:=fun _=>False) ((ag.refl _ _).alloc _) (fun h=>h);have hc4:=u.c4;obtain⟨xs,U,fC⟩:=u.eD)
       | (at_builtin;refine r_ rfl _ _ 23 rfl (w.heap.size+2) 25 (.agg #[.int .i64 0,.int .i64 0,.string ⟨#[]⟩,.slice none 0 0,.slice none 0 0]) 5 80 Tryz.underlying23 Tryz.eB rfl (by decide) (by decide) vl dF.length xs rfl (U.alloc _) _ [.int .i64 f,.int .i64 k,.string j,.slice pk nk ck,.slice pl nl cl] rfl rfl (vC (by simp)) MQ (by omega) (by have:=u.size;simp at this ⊢;omega) ?_
          intro oh W5 K lu jw;obtain⟨E,G,c5,xc⟩:∃q n c,oh=.slice q n c:=gp K;subst xc;have N:((A.alloc (.cells #[.int .i64 f,.int .i64 k,.string j,.slice pk nk ck,.slice pl nl cl] 25)).alloc (.cells #[.int .i64 f,.int .i64 k,.string j,.slice pk nk ck,.slice pl nl cl] 25)).grownBy W5 vl.ownBlock:=lu;have Ac:(Value.slice E G c5).ownBlock=vl.ownBlock\/ (Value.slice E G c5).ownBlock=some ((A.alloc (.cells #[.int .i64 f,.int .i64 k,.string j,.slice pk nk ck,.slice pl nl cl] 25)).alloc (.cells #[.int .i64 f,.int .i64 k,.string j,.slice pk nk ck,.slice pl nl cl] 25)).heap.size:=jw;obtain⟨e5,f5,Vi⟩:=u.push U fC RL K N Ac;have GK:=Cj u AO U N (.slice E G c5);clear K lu jw N Ac)
       | (go_at_call 146;refine(jl uk 93 h9).mono ?_;rintro x w' ⟨rfl,rfl⟩)
       | (go_at_call 143;refine(vo uk 44 Cm).mono ?_;rintro x w7 ⟨rfl,⟨⟨q7,yT⟩,qi⟩⟩
          have I:=(Vi.one o_).one qi;obtain⟨i0,i1,i2,i3,i4⟩:=aj I.res;obtain⟨z0,z1,z2,z3,z4⟩:=aN I.res))
      have h5:=aK I.res (.int .i64 0) (.int .i64 0) (.string ⟨#[]⟩) (.slice none 0 0) (.slice none 0 0);have z:ag (One w.heap.size) w7 _:=aI w7 w.heap.size (.int .i64 0) (.int .i64 0) (.string ⟨#[]⟩) (.slice none 0 0) (.slice none 0 0);unfold di at h5 z;obtain⟨k0,k1,k2,k3,k4⟩:=aj h5;refine bodyPost_ret (v:=.tuple #[.agg #[.int .i64 0,.int .i64 0,.string ⟨#[]⟩,.slice none 0 0,.slice none 0 0],.bool false]) (by simp[results,Tryz.results123,go_sem,k0,k1,k2,k3,k4]) rfl ?_;rw[<-H.out];exact⟨⟨0,0,aH,rfl⟩,⟨_,yT.bf z (fun h=>by unfold One at h;omega)⟩,I.end z⟩
end Go.Proofs.YtldkblgclochjaaGreatDoor

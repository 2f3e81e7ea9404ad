/- A part. -/
import Derived.Test.YtldegjjaknelgaaGreatDoorAJ14
set_option maxRecDepth 100000
set_option maxHeartbeats 64000000
namespace Go.Proofs.YtldegjjaknelgaaGreatDoor
open Go.RowKit
abbrev OZ(K:Nat)(w:World):Prop:=∀w',Below K w w'->Lib.Utf8Tabs (Tryz.laysValid_ren.g 3) (Tryz.laysValid_ren.g 4) w'
theorem iq{a b c:World}(h:Below a.heap.size a b)(g:Below b.heap.size b c):Below a.heap.size a c:=h.trans ⟨g.os,g.tape,g.output,g.size,fun k hk=>g.block k (by have:=h.size;omega)⟩
theorem OZ.below{w w':World}(h:OZ w.heap.size w)(hb:Below w.heap.size w w'):OZ w'.heap.size w':=fun w2 h2=>h w2 (iq hb h2)
theorem O0{t:ByteArray}:t.toList.isEmpty=decide (t.size=0):=by
 rw[Lib.toList_data,Bool.eq_iff_iff,List.isEmpty_iff,decide_eq_true_eq,<-List.length_eq_zero_iff]
 rfl
theorem jV{w:World}{cs:List Value}{t:TypeId}(j:Nat)(v:Value)(h:cs[j]?=some v):(w.alloc (.cells cs.toArray t)).cell? ⟨w.heap.size,j,none⟩=some v:=bB (heap_alloc_new _ _) j v h
theorem O1(e:Ev)(p:Pt)(w:World)(hk:e.key.size<=1000000000)(hT:OZ w.heap.size w):
    Calls Tryz.prog 104 #[eF e p] w fun x w'=>x=.returned (.bool (gv e))/\Below w.heap.size w w':=by
 obtain⟨room,aR,ah,st,key,⟨k,i,t,ks,l⟩,prev,aD,depth,ts,hash,sigs⟩:=e;obtain⟨pk,ck,pl,cl,pp,cp,pa,ca,ps,cs⟩:=p;simp only at hk;have HR:Hid (∀b,gv ⟨room,aR,ah,b,key,⟨k,i,t,ks,l⟩,prev,aD,depth,ts,hash,sigs⟩=if b=true then decide (key.size<=128)&&Lib.validD key.data.toList else decide (key.size=0)):=fun _=>rfl;simp only[eF,aA,J.kind,J.int,J.text,J.keys,J.list];obtain⟨C,hC⟩:∃C,C=Obj.cells #[.string room,.string aR,.string ah,.bool st,.string key,.int .i64 k,.int .i64 i,.string t,.slice pk ks.length ck,.slice pl l.length cl,.slice pp prev.length cp,.slice pa aD.length ca,.int .i64 depth,.int .i64 ts,.string hash,.slice ps sigs.length cs] 28:=⟨_,rfl⟩;have bM:Below w.heap.size w (w.alloc C):=(Below.refl _ _).alloc (Nat.le_refl _) _;have cV:Calls Tryz.prog 131 #[.string key] (w.alloc C) _:=Any.utf8_ValidString Tryz.laysValid key (w.alloc C) (by omega) (hT _ bM);rw[hC]at cV bM;clear hC
 cases st with
 | false=>
  have h:=HR.out false;go_enter Tryz.func104,Tryz.ntmps104;go_wp2;go_ret;refine⟨aj ?_,bM⟩;rw[h,if_neg (by decide)];exact O0
 | true=>
  by_cases h1:key.size<=128
  ·have h1i:(key.size:Int)<=128:=by omega
   go_enter Tryz.func104,Tryz.ntmps104;go_wp2_with(go_at_call 131;refine cV.mono ?_;rintro e w' ⟨rfl,hb⟩);go_ret;refine⟨aj ?_,iq bM hb⟩;rw[HR.out,if_pos rfl,decide_eq_true h1,Bool.true_and]
  ·have h1i:¬(key.size:Int)<=128:=by omega
   go_enter Tryz.func104,Tryz.ntmps104;go_wp2;go_ret;refine⟨aj ?_,bM⟩;rw[HR.out,if_pos rfl,decide_eq_false h1,Bool.false_and]
theorem JX(e:Ev)(p:Pt)(w:World)(h1:e.room.size<=1000000000)(h2:e.ah.size<=1000000000)(h3:e.aR.size<=1000000000):
    Calls Tryz.prog 103 #[eF e p] w fun x w'=>x=.returned (.bool (eH e))/\Below w.heap.size w w':=by
 obtain⟨room,aR,ah,st,key,⟨k,i,t,ks,l⟩,prev,aD,depth,ts,hash,sigs⟩:=e;obtain⟨pk,ck,pl,cl,pp,cp,pa,ca,ps,cs⟩:=p;simp only at h1 h2 h3;have HR:Hid (eH ⟨room,aR,ah,st,key,⟨k,i,t,ks,l⟩,prev,aD,depth,ts,hash,sigs⟩=((Id.parts 33 room).2.2&&(Id.parts 64 ah).2.2&&Id.aR aR)):=rfl;simp only[eF,aA,J.kind,J.int,J.text,J.keys,J.list];obtain⟨C,hC⟩:∃C,C=Obj.cells #[.string room,.string aR,.string ah,.bool st,.string key,.int .i64 k,.int .i64 i,.string t,.slice pk ks.length ck,.slice pl l.length cl,.slice pp prev.length cp,.slice pa aD.length ca,.int .i64 depth,.int .i64 ts,.string hash,.slice ps sigs.length cs] 28:=⟨_,rfl⟩;have bM:Below w.heap.size w (w.alloc C):=(Below.refl _ _).alloc (Nat.le_refl _) _;have hcA:∀W,Below (w.alloc C).heap.size (w.alloc C) W->W.cell? ⟨w.heap.size,2,none⟩=some (.string ah)/\W.cell? ⟨w.heap.size,1,none⟩=some (.string aR):=fun W hW=>by
  have hb:=World.cell?_of_block (a:=⟨w.heap.size,2,none⟩) (hW.block w.heap.size (by simp));have Hd:=World.cell?_of_block (a:=⟨w.heap.size,1,none⟩) (hW.block w.heap.size (by simp));rw[hb,Hd,hC];exact⟨jV (cs:= [_,_,_,_,_,_,_,_,_,_,_,_,_,_,_,_]) 2 _ rfl,jV (cs:= [_,_,_,_,_,_,_,_,_,_,_,_,_,_,_,_]) 1 _ rfl⟩
 have cR:=Id.EB room (w.alloc C) (by omega);have Xw:Hid (∀W,Below (w.alloc C).heap.size (w.alloc C) W->W.cell? ⟨w.heap.size,2,none⟩=some (.string ah)/\W.cell? ⟨w.heap.size,1,none⟩=some (.string aR)):=hcA;have nu:Hid (Below w.heap.size w (w.alloc C)):=bM;clear hcA bM;unfold Id.told at cR;generalize Id.parts 33 room=R at cR HR;obtain⟨r1,r2,r3⟩:=R;have hu:=fun W=>Id.p_ ah W (by omega);unfold Id.told at hu;generalize Id.parts 64 ah=U at hu HR;obtain⟨u1,u2,u3⟩:=U;simp only at cR hu HR;rw[hC]at cR Xw nu;clear hC;go_enter Tryz.func103,Tryz.ntmps103
 cases r3<;>cases u3
 all_goals
  go_wp2_with(first
   | (go_at_call 119;refine cR.mono ?_;rintro e w1 ⟨rfl,aL⟩;have Xn:=(Xw.out w1 aL).1;have hU:=hu w1)
   | (go_at_call 84;refine hU.mono ?_;rintro e w2 ⟨rfl,aY⟩;have Y7:=(Xw.out w2 (iq aL aY)).2;have hTy:=Id.Ex aR w2 (by omega))
   | (go_at_call 130;refine hTy.mono ?_;rintro e w3 ⟨rfl,df⟩))
  go_ret
 ·exact⟨aj HR.out.symm,iq nu.out (iq aL aY)⟩
 ·exact⟨aj HR.out.symm,iq nu.out (iq aL aY)⟩
 ·exact⟨aj HR.out.symm,iq nu.out (iq aL aY)⟩
 ·exact⟨aj HR.out.symm,iq nu.out (iq aL (iq aY df))⟩
theorem JY(a b:ByteArray):Op.bytesLess a.toList b.toList=jB a b:=by
 rw[Lib.toList_data,Lib.toList_data];unfold jB;generalize a.data.toList=x;generalize b.data.toList=y
 induction x generalizing y with
 | nil=>cases y<;>simp[Op.bytesLess,lessB]
 | cons c x ih=>
  cases y with
  | nil=>simp[Op.bytesLess,lessB]
  | cons d y=>
   unfold Op.bytesLess lessB;rw[ih y]
   by_cases h1:c<d
   ·simp[h1]
   ·by_cases h2:c=d
    ·subst h2;simp
    ·simp[h1,h2]
theorem Dt:∀(l:List (ByteArray×ByteArray)),riseS l=true↔∀j,0<j->j<l.length->jB (l.getD (j - 1) (aT,aT)).1 (l.getD j (aT,aT)).1=true
 | []=>⟨fun _ j _ hj=>absurd hj (by simp),fun _=>rfl⟩
 | [a]=>⟨fun _ j h0 hj=>absurd hj (by simp;omega),fun _=>rfl⟩
 | a::b::r=>by
  unfold riseS;rw[Bool.and_eq_true,Dt (b::r)]
  constructor
  ·rintro⟨h1,h2⟩ j h0 hj
   match j,h0,hj with
   | 1,_,_=>simpa using h1
   | j+2,_,hj=>
    have:=h2 (j+1) (by omega) (by simpa using hj);simpa using this
  ·intro h;refine⟨by simpa using h 1 (by omega) (by simp),fun j h0 hj=> ?_⟩;have:=h (j+1) (by omega) (by simpa using hj)
   match j,h0 with
   | j+1,_=>simpa using this
def rR(s:ByteArray×ByteArray):Bool:=Id.CG s.1&&gL s.2
theorem xN{l:List (ByteArray×ByteArray)}(hl:l.length<=4)(h:∀j,j<l.length->rR (l.getD j (aT,aT))=true/\(0<j->jB (l.getD (j - 1) (aT,aT)).1 (l.getD j (aT,aT)).1=true)):bR l=true:=by
 unfold bR;rw[Bool.and_eq_true,Bool.and_eq_true,decide_eq_true_eq];refine⟨⟨hl, ?_⟩,(Dt l).2 fun j h0 hj=>(h j hj).2 h0⟩;rw[List.all_eq_true];intro x hx;obtain⟨j,hj,rfl⟩:=List.getElem_of_mem hx;have:=(h j hj).1;rw[List.getD_eq_getElem?_getD,List.getElem?_eq_getElem hj]at this;exact this
theorem o5{l:List (ByteArray×ByteArray)}{j:Nat}(hj:j<l.length)(h:rR (l.getD j (aT,aT))=false):bR l=false:=by
 cases hs:bR l with
 | false=>rfl
 | true=>
  unfold bR at hs;rw[Bool.and_eq_true,Bool.and_eq_true,List.all_eq_true]at hs;have:=hs.1.2 (l.getD j (aT,aT)) (by rw[List.getD_eq_getElem?_getD,List.getElem?_eq_getElem hj];exact List.getElem_mem _);unfold rR at h;rw[h]at this
  cases this
theorem rT{l:List (ByteArray×ByteArray)}{j:Nat}(h0:0<j)(hj:j<l.length)(h:jB (l.getD (j - 1) (aT,aT)).1 (l.getD j (aT,aT)).1=false):bR l=false:=by
 cases hs:bR l with
 | false=>rfl
 | true=>
  unfold bR at hs;rw[Bool.and_eq_true]at hs;rw[(Dt l).1 hs.2 j h0 hj]at h
  cases h
theorem below_drewN{B:Nat}{a b:World}(h:Below B a b)(n:Nat):Below B a (b.drewN n):=⟨h.os,h.tape,h.output,h.size,h.block⟩
theorem nV{w:World}{a b:Value}{t:TypeId}{W:World}(hW:Below (w.alloc (.cells #[a,b] t)).heap.size (w.alloc (.cells #[a,b] t)) W):W.cell? ⟨w.heap.size,0,none⟩=some a/\W.cell? ⟨w.heap.size,1,none⟩=some b:=by
 have h0:=World.cell?_of_block (a:=⟨w.heap.size,0,none⟩) (hW.block w.heap.size (by simp));have h1:=World.cell?_of_block (a:=⟨w.heap.size,1,none⟩) (hW.block w.heap.size (by simp));rw[h0,h1];exact⟨jV (cs:= [_,_]) 0 _ rfl,jV (cs:= [_,_]) 1 _ rfl⟩
theorem JZ{O:Nat->Prop}{l:List (ByteArray×ByteArray)}{p:Option Addr}{c:Nat}{w:World}(iK:Hm O w p c l)(hO:∀k,O k->k<w.heap.size)(hl:l.length<=100000)(hz:∀x∈l,x.1.size<=1000000000/\x.2.size<=1000000000):
    Calls Tryz.prog 109 #[.slice p l.length c] w fun x w'=>x=.returned (.bool (bR l))/\Below w.heap.size w w':=by
 obtain⟨n,hn⟩:∃n,l.length=n:=⟨_,rfl⟩;have HN:Hid (l.length=n):=hn;have Oz:=iK.1;rw[hn]at hl Oz ⊢;clear hn
 by_cases h4:(4:Int)<(n:Int)
 ·have HF:Hid (bR l=false):=by
    show _=_
    unfold bR;rw[HN.out,decide_eq_false (by omega),Bool.false_and,Bool.false_and]
  go_enter Tryz.func109,Tryz.ntmps109;go_wp2;go_ret;exact⟨aj HF.out.symm,Below.refl _ _⟩
 go_enter Tryz.func109,Tryz.ntmps109;go_wp2
 go_loopw [10] (fun i wr=>∃k:Nat,i=.int .i64 k/\k<=n/\Hid (∀j,j<k->rR (l.getD j (aT,aT))=true/\(0<j->jB (l.getD (j - 1) (aT,aT)).1 (l.getD j (aT,aT)).1=true))/\Below w.heap.size w wr) (fun i _=>n - (intOf i).toNat)
 case atStart=>exact⟨0,rfl,Nat.zero_le _,fun j hj=>absurd hj (by omega),Below.refl _ _⟩
 case round=>
  obtain⟨k,rfl,hk,HG,hb⟩:=hrel
  by_cases bQ:k<n
  ·have TS:(k:Int)<(n:Int):=by omega
   have eQ:k<l.length:=by rw[HN.out];exact bQ
   have YJ:Hid (k<l.length):=eQ;obtain⟨b,o,hp,lY,x_,nI⟩:=iK.2 k eQ;have hcP:Hid (∀j,j<l.length->∀W:World,Below w.heap.size w W->W.cell? ⟨b,o+j*2,none⟩=some (.string (l.getD j (aT,aT)).1)):=by
    intro j hj W hW;obtain⟨b',o',hp',hO',ED,Qs⟩:=iK.2 j hj;rw[hp]at hp'
    cases hp'
    exact(World.cell?_of_block (a:=⟨b,o+j*2,none⟩) (hW.block _ (hO _ hO'))).trans ED
   subst hp;have hx:=hz (l.getD k (aT,aT)) (by rw[List.getD_eq_getElem?_getD,List.getElem?_eq_getElem eQ];exact List.getElem_mem _);have d1:wr.cell? ⟨b,o+k*2,none⟩=some (.string (l.getD k (aT,aT)).1):=(World.cell?_of_block (a:=⟨b,o+k*2,none⟩) (hb.block _ (hO _ lY))).trans x_;have d2:wr.cell? ⟨b,o+k*2+1,none⟩=some (.string (l.getD k (aT,aT)).2):=(World.cell?_of_block (a:=⟨b,o+k*2+1,none⟩) (hb.block _ (hO _ lY))).trans nI;have uK:Hid (rR (l.getD k (aT,aT))=(Id.CG (l.getD k (aT,aT)).1&&gL (l.getD k (aT,aT)).2)):=rfl;obtain⟨x1,Iw⟩:∃x,(l.getD k (aT,aT)).1=x:=⟨_,rfl⟩;obtain⟨x2,PZ⟩:∃x,(l.getD k (aT,aT)).2=x:=⟨_,rfl⟩;have qz:Hid ((l.getD k (aT,aT)).1=x1):=Iw;rw[Iw]at d1 hx uK;rw[PZ]at d2 hx uK;clear x_ nI Iw PZ eQ;have bM:Below w.heap.size w (wr.alloc (.cells #[.string x1,.string x2] 54)):=hb.alloc hb.size _;have hS:=Id.sD x1 (wr.alloc (.cells #[.string x1,.string x2] 54)) (by omega);have hD:=fun W=>zY x2 W hx.2
   cases hs:Id.CG x1 with
   | false=>
    have HF:Hid (bR l=false):=o5 YJ.out (by rw[uK.out,hs];rfl);rw[hs]at hS;go_wp2_with(go_at_call 134;refine hS.mono ?_;rintro x w1 ⟨rfl,aL⟩);go_ret;exact⟨aj HF.out.symm,bM.trans ⟨aL.os,aL.tape,aL.output,aL.size,fun k hk=>aL.block k (by have:=bM.size;omega)⟩⟩
   | true=>
    rw[hs]at hS
    cases hd:gL x2 with
    | false=>
     have HF:Hid (bR l=false):=o5 YJ.out (by rw[uK.out,hs,hd];rfl);rw[hd]at hD;go_wp2_with(first
      | (go_at_call 134;refine hS.mono ?_;rintro x w1 ⟨rfl,aL⟩;have e1:=(nV aL).2;have iG:=hD w1)
      | (go_at_call 108;refine iG.mono ?_;rintro x w2 ⟨rfl,aY⟩))
     go_ret;exact⟨aj HF.out.symm,bM.trans ⟨aL.os,aL.tape,aL.output,aL.size,fun k hk=>aL.block k (by have:=bM.size;omega)⟩ |>.trans ⟨aY.os,aY.tape,aY.output,aY.size,fun k hk=>aY.block k (by have:=bM.size;have:=aL.size;omega)⟩⟩
    | true=>
     rw[hd]at hD;have RY:Hid (rR (l.getD k (aT,aT))=true):=by show _=_;rw[uK.out,hs,hd];rfl
     have sN:Hid (∀w1 w2,Below (wr.alloc (.cells #[.string x1,.string x2] 54)).heap.size (wr.alloc (.cells #[.string x1,.string x2] 54)) w1->Below w1.heap.size w1 w2->Below w.heap.size w w2):=fun w1 w2 aL aY=>
      bM.trans ⟨aL.os,aL.tape,aL.output,aL.size,fun k hk=>aL.block k (by have:=bM.size;omega)⟩ |>.trans ⟨aY.os,aY.tape,aY.output,aY.size,fun k hk=>aY.block k (by have:=bM.size;have:=aL.size;omega)⟩
     clear bM
     cases k with
     | zero=>
      simp only[Nat.zero_mul,Nat.add_zero]at d1 d2;go_wp2_with(first
       | (go_at_call 134;refine hS.mono ?_;rintro x w1 ⟨rfl,aL⟩;have e1:=(nV aL).2;have iG:=hD w1)
       | (go_at_call 108;refine iG.mono ?_;rintro x w2 ⟨rfl,aY⟩))
      go_quiet (fail);go_wp2;go_roundw
      case rel=>exact⟨1,by go_num,bQ,fun j hj=>(by
          obtain rfl:j=0:=(by omega);exact⟨RY.out,fun h=>absurd h (by omega)⟩),below_drewN (sN.out w1 w2 aL aY) _⟩
      case measure=>simp[intOf];omega
     | succ m=>
      have AX:m<l.length:=by have:=YJ.out;omega
      have hm0:(m:Int)<(n:Int):=by omega
      obtain⟨y1,Ul⟩:∃x,(l.getD m (aT,aT)).1=x:=⟨_,rfl⟩;have HY1:Hid ((l.getD m (aT,aT)).1=y1):=Ul;have hcY:=hcP.out m AX;rw[Ul]at hcY;have Zt:Hid (∀W:World,Below w.heap.size w W->W.cell? ⟨b,o+m*2,none⟩=some (.string y1)):=hcY;clear Ul hcY AX;have hgt:decide ((0:Int)<((m+1:Nat):Int))=true:=decide_eq_true (by omega)
      cases vC:jB y1 x1 with
      | true=>
       have Nl:Op.bytesLess y1.toList x1.toList=true:=by rw[JY];exact vC
       have yA:Hid (jB y1 x1=true):=vC;clear vC;go_wp2_with(first
        | (go_at_call 134;refine hS.mono ?_;rintro x w1 ⟨rfl,aL⟩;have e1:=(nV aL).2;have iG:=hD w1)
        | (go_at_call 108;refine iG.mono ?_;rintro x w2 ⟨rfl,aY⟩
           have e2:=(nV (iq aL aY)).1;have e3:=Zt.out w2 (sN.out w1 w2 aL aY)))
       go_quiet (fail);go_wp2;go_roundw
       case rel=>exact⟨m+2,by go_num,by omega,fun j hj=>(Nat.lt_succ_iff_lt_or_eq.1 hj).elim (HG.out j) fun e=>by subst e;exact⟨RY.out,fun _=>by rw[Nat.add_sub_cancel,qz.out,HY1.out];exact yA.out⟩,below_drewN (sN.out w1 w2 aL aY) _⟩
       case measure=>simp[intOf];omega
      | false=>
       have Nl:Op.bytesLess y1.toList x1.toList=false:=by rw[JY];exact vC
       have HF:Hid (bR l=false):=rT (j:=m+1) (by omega) YJ.out (by rw[Nat.add_sub_cancel,qz.out,HY1.out];exact vC);clear vC;go_wp2_with(first
        | (go_at_call 134;refine hS.mono ?_;rintro x w1 ⟨rfl,aL⟩;have e1:=(nV aL).2;have iG:=hD w1)
        | (go_at_call 108;refine iG.mono ?_;rintro x w2 ⟨rfl,aY⟩
           have e2:=(nV (iq aL aY)).1;have e3:=Zt.out w2 (sN.out w1 w2 aL aY)))
       go_quiet (fail);go_wp2;go_ret;exact⟨aj HF.out.symm,below_drewN (sN.out w1 w2 aL aY) _⟩
  ·obtain rfl:k=n:=by omega
   have HT:Hid (bR l=true):=xN (by rw[HN.out];omega) (by rw[HN.out];exact HG.out);go_wp2;go_ret;exact⟨aj HT.out.symm,hb⟩
theorem Ac{O:Nat->Prop}{l:List (ByteArray×ByteArray)}{p:Option Addr}{c:Nat}{w:World}(iK:Hm O w p c l)(hO:∀k,O k->k<w.heap.size)(hl:l.length<=100000):
    Calls Tryz.prog 118 #[.slice p l.length c] w fun x w'=>(∃pk nk ck pl nl cl,x=.returned (.agg #[.int .i64 5,.int .i64 0,.string aT,.slice pk nk ck,.slice pl nl cl])/\isJ (tN w w') w' (qM l) [.int .i64 5,.int .i64 0,.string aT,.slice pk nk ck,.slice pl nl cl])/\Below w.heap.size w w':=by
 obtain⟨n,hn⟩:∃n,l.length=n:=⟨_,rfl⟩;have HN:Hid (l.length=n):=hn;have Oz:=iK.1;rw[hn]at hl Oz ⊢;clear hn;obtain⟨WB,mZ⟩:∃WB,WB=(w.alloc (.cells #[.int .i64 0,.int .i64 0,.string ⟨#[]⟩,.slice none 0 0,.slice none 0 0] 25)).alloc (.cells #[.int .i64 5,.int .i64 0,.string ⟨#[]⟩,.slice none 0 0,.slice none 0 0] 25):=⟨_,rfl⟩;have dM:Below w.heap.size w WB:=by rw[mZ];exact((Below.refl _ _).alloc (Nat.le_refl _) _).alloc (by simp) _
 have jq:WB.heap[w.heap.size]?=some (.cells #[.int .i64 0,.int .i64 0,.string ⟨#[]⟩,.slice none 0 0,.slice none 0 0] 25 (0,0)):=by rw[mZ];exact wm _ _
 have sW:TI (fun _=>False) (w.heap.size+2) (w.heap.size+1) 5 WB [] [] (.slice none 0 0) (.slice none 0 0) WB:=TI.start (by rw[mZ];simp) (by omega) (fun k h=>h.elim) (by rw[mZ];exact sV _ _);go_enter Tryz.func118,Tryz.ntmps118;go_wp2;rw[<-mZ];clear mZ
 go_loopw [9] (fun i wr=>∃(k:Nat) (vk vl:Value),i=.int .i64 k/\k<=n/\TI (fun _=>False) (w.heap.size+2) (w.heap.size+1) 5 WB ((l.take k).map (·.1)) ((l.take k).map fun s=>eX s.2) vk vl wr) (fun i _=>n - (intOf i).toNat)
 case atStart=>exact⟨0,_,_,rfl,Nat.zero_le _,sW⟩
 case round=>
  clear sW;obtain⟨k,vk,vl,rfl,hk,nS⟩:=hrel
  by_cases bQ:k<n
  ·obtain⟨ks,sG⟩:∃ks,(l.take k).map (·.1)=ks:=⟨_,rfl⟩;obtain⟨js,oo⟩:∃js,((l.take k).map fun s=>eX s.2)=js:=⟨_,rfl⟩;have zgU:ks.length=k:=by rw[<-sG,List.length_map,List.length_take,HN.out];omega
   have hjl:js.length=k:=by rw[<-oo,List.length_map,List.length_take,HN.out];omega
   have TS:(k:Int)<(n:Int):=by omega
   have eQ:k<l.length:=by rw[HN.out];exact bQ
   obtain⟨b,of,Zk,lY,x_,nI⟩:=iK.2 k eQ;subst Zk;have Eg:wr.heap[b]?=w.heap[b]?:=by
    have h1:=hO _ lY;have h2:=nS.JQ;exact(nS.jo.block _ (by omega) (by unfold One;omega)).trans (dM.block _ h1)
   have d1:=(World.cell?_of_block (a:=⟨b,of+k*2,none⟩) Eg).trans x_;have d2:=(World.cell?_of_block (a:=⟨b,of+k*2+1,none⟩) Eg).trans nI;obtain⟨x,hx⟩:∃x,(l.getD k (aT,aT)).1=x:=⟨_,rfl⟩;obtain⟨u,hu⟩:∃u,(l.getD k (aT,aT)).2=u:=⟨_,rfl⟩;have HK1:Hid ((l.take (k+1)).map (·.1)=ks++ [x]):=by
    show _=_
    rw[List.take_add_one,List.getElem?_eq_getElem eQ,List.map_append,sG,<-hx,List.getD_eq_getElem?_getD,List.getElem?_eq_getElem eQ];rfl
   have HJ1:Hid (((l.take (k+1)).map fun s=>eX s.2)=js++ [eX u]):=by
    show _=_
    rw[List.take_add_one,List.getElem?_eq_getElem eQ,List.map_append,oo,<-hu,List.getD_eq_getElem?_getD,List.getElem?_eq_getElem eQ];rfl
   rw[hx]at d1;rw[hu]at d2;rw[sG,oo]at nS;obtain⟨ql,A_,xq⟩:∃q c,vl=.slice q js.length c:=by
    obtain⟨xs0,Bd,_⟩:=nS.fq;exact dZ Bd
   obtain⟨qk,U0,vP⟩:=dZ nS.keys;have h1:=(nS.alloc (.cells #[.string x,.string u] 54)).alloc (.cells #[.string x] 9);have zgV:=nS.size;have hEb:FP (fun _=>False) (w.heap.size+2) vk vl ((wr.alloc (.cells #[.string x,.string u] 54)).alloc (.cells #[.string x] 9)) wr.heap.size:=
    .inr ⟨zgV,by simp;omega,fun e=>by have:=(aO nS.keys _ e).2;omega,fun e=>by
     obtain⟨xs0,Bd,_⟩:=nS.fq;have:=(aO Bd _ e).2;omega⟩
   have Eh:((wr.alloc (.cells #[.string x,.string u] 54)).alloc (.cells #[.string x] 9)).heap[wr.heap.size]?=some (.cells #[.string x,.string u] 54 (0,0)):=by
    rw[Below.heap_alloc _ _ _ (by simp)];exact heap_alloc_new _ _
   have c3:=fV (nS.alloc (.cells #[.string x,.string u] 54)).obj;have ed:(wr.alloc (.cells #[.string x,.string u] 54)).cell? ⟨wr.heap.size,0,none⟩=some (.string x):=jV (cs:= [_,_]) 0 _ rfl;have hkb:ks.length<=100000:=by omega
   have hjb:js.length<=100000:=by omega
   have HJL:Hid (js.length=k):=hjl;clear Eg x_ nI hx hu sG oo eQ hjl zgU;subst vP xq;go_wp2_with(at_builtin;refine xL rfl _ _ 22 rfl (w.heap.size+2) 9 (.string ⟨#[]⟩) 1 16 Tryz.underlying22 Tryz.jR rfl (by decide) (by decide) _ ks.length (ks.map Value.string) rfl h1.keys _ [.string x] rfl rfl (MZ (by simp)) (FR x) (by omega) h1.size ?_;intro QH W2 fe pU jD;obtain⟨d3,f3,h3,yh⟩:=h1.key fe pU jD;obtain⟨b2,c2,eZ⟩:=gW fe;subst eZ);obtain⟨Zu,RP⟩:=yh _ hEb;have Zv:=RP.trans Eh;clear yh h1 Eh RP hEb fe pU jD d3 f3 c3 ed;obtain⟨W3,Ci⟩:∃W3,W3=W2.setCell ⟨w.heap.size+1,3,none⟩ (.slice (some ⟨b2,0,none⟩) (ks.length+1) c2):=⟨_,rfl⟩;rw[<-Ci]at h3 Zu Zv ⊢;clear Ci;have hd:=h3.drew;have hT:=gH u W3.drew;have c0:=bG hd.obj;have Oh:wr.heap.size<W3.heap.size:=(Array.getElem?_eq_some_iff.1 Zv).1;have HVE:Hid ((Value.slice ql js.length A_).ownBlock≠some wr.heap.size):=by
    rcases Zu with h| h
    ·exact h.elim
    ·exact h.2.2.2
   clear Zu;have MP:Hid (∀W:World,W.heap[wr.heap.size]?=some (.cells #[.string x,.string u] 54 (0,0))->W.cell? ⟨wr.heap.size,1,none⟩=some (.string u)):=fun W hW=>bB (cur:= [_,_]) hW 1 _ rfl;have gP:W3.drew.heap[wr.heap.size]?=some (.cells #[.string x,.string u] 54 (0,0)):=Zv;refine aI (by kernel_rfl) (fun W=>W.heap[wr.heap.size]?=some (.cells #[.string x,.string u] 54 (0,0))) ?_;change wpIn _ _ _ _ _ _ _ _ (World.drew _);refine aa (i:=0) (d:=some 20) rfl ?_;refine aa (i:=2) (d:=some 22) rfl ?_;refine aC (i:=3) (d:=some 23) rfl (by(intro wq hq;have q0:=MP.out wq hq;go_simp;first| done| with_reducible rfl)) ?_;refine dK (i:=1) (j:=4) gP (by kernel_rfl) rfl rfl (by rfl) (by rfl) ?_ ?_
   ·intro K hK;go_simp;refine hK _ _ ?_;clear hK K;refine ax (i:=4) gP rfl ?_;intro K hK;go_simp;go_wp2_with(go_at_call 117;refine hT.mono ?_;rintro x' w3 ⟨rfl,df⟩);have h4:=hd.more df;have hA:=h4.alloc (.cells #[.int .i64 3,.int .i64 0,.string u,.slice none 0 0,.slice none 0 0] 25);obtain⟨xs,bV,eZ⟩:=hA.fq;have c1:=bG h4.obj;have Np:=bG hA.obj;have jC:=(df.block wr.heap.size Oh).trans gP;have Zw:wr.heap.size<w3.heap.size:=Nat.lt_of_lt_of_le Oh df.size;have lS:=(Below.heap_alloc w3 (.cells #[.int .i64 3,.int .i64 0,.string u,.slice none 0 0,.slice none 0 0] 25) _ Zw).trans jC;refine ax (i:=5) jC rfl ?_;intro K hK;go_simp;refine hK _ _ ?_;clear hK K;refine ax (i:=6) lS rfl ?_;intro K hK;refine aZ (.tmp 21) (.tmp 25) 23 rfl (w.heap.size+2) 25 (.agg #[.int .i64 0,.int .i64 0,.string ⟨#[]⟩,.slice none 0 0,.slice none 0 0]) 5 80 Tryz.underlying23 Tryz.eT rfl (by decide) (by decide) _ js.length xs rfl bV _ [.int .i64 3,.int .i64 0,.string u,.slice none 0 0,.slice none 0 0] rfl rfl (kK rfl) (nT u) (by omega) hA.size ?_;intro pV W4 bO oL iA;refine hK _ _ ?_;clear hK K;obtain⟨b4,c4,xm⟩:=gW bO;subst xm;obtain⟨g0,g1,m_⟩:=hA.push bV eZ (d_ _ _ u) bO oL iA;have jk:=(oL.block wr.heap.size (by simp;omega) fun e=>HVE.out e.symm).trans lS;have K3:ay (One (w.heap.size+1)) W4 (W4.setCell ⟨w.heap.size+1,4,none⟩ (.slice (some ⟨b4,0,none⟩) (js.length+1) c4)):=ay.setCell (ay.refl _ _) (fun _=>(rfl:w.heap.size+1=w.heap.size+1)) _;have fU:=(K3.block wr.heap.size (Array.getElem?_eq_some_iff.1 jk).1 (by unfold One;omega)).trans jk;clear bO oL iA;refine aa (i:=7) (d:=some 27) rfl ?_;refine ax (i:=8) jk rfl ?_;intro K hK;go_simp;refine hK _ _ ?_;clear hK K;refine aH fU (by kernel_rfl) ?_ _;clear g0 g1 c0 c1 Np gP jC lS jk fU;go_wp2;go_roundw
    case rel=>exact⟨k+1,_,_,by go_num,bQ,by rw[HK1.out,HJ1.out];exact m_⟩
    case measure=>simp[intOf];omega
   ·intro K hK;go_simp;go_wp2_with(go_at_call 117;refine hT.mono ?_;rintro x' w3 ⟨rfl,df⟩);have h4:=hd.more df;have hA:=h4.alloc (.cells #[.int .i64 3,.int .i64 0,.string u,.slice none 0 0,.slice none 0 0] 25);obtain⟨xs,bV,eZ⟩:=hA.fq;have c1:=bG h4.obj;have Np:=bG hA.obj;have jC:=(df.block wr.heap.size Oh).trans gP;have Zw:wr.heap.size<w3.heap.size:=Nat.lt_of_lt_of_le Oh df.size;have lS:=(Below.heap_alloc w3 (.cells #[.int .i64 3,.int .i64 0,.string u,.slice none 0 0,.slice none 0 0] 25) _ Zw).trans jC;refine dK (i:=1) (j:=5) jC (by kernel_rfl) rfl rfl (by rfl) (by rfl) ?_ ?_
    ·intro K hK;go_simp;refine hK _ _ ?_;clear hK K;refine ax (i:=5) jC rfl ?_;intro K hK;go_simp;refine hK _ _ ?_;clear hK K;refine ax (i:=6) lS rfl ?_;intro K hK;refine aZ (.tmp 21) (.tmp 25) 23 rfl (w.heap.size+2) 25 (.agg #[.int .i64 0,.int .i64 0,.string ⟨#[]⟩,.slice none 0 0,.slice none 0 0]) 5 80 Tryz.underlying23 Tryz.eT rfl (by decide) (by decide) _ js.length xs rfl bV _ [.int .i64 3,.int .i64 0,.string u,.slice none 0 0,.slice none 0 0] rfl rfl (kK rfl) (nT u) (by omega) hA.size ?_;intro pV W4 bO oL iA;refine hK _ _ ?_;clear hK K;obtain⟨b4,c4,xm⟩:=gW bO;subst xm;obtain⟨g0,g1,m_⟩:=hA.push bV eZ (d_ _ _ u) bO oL iA;have jk:=(oL.block wr.heap.size (by simp;omega) fun e=>HVE.out e.symm).trans lS;have K3:ay (One (w.heap.size+1)) W4 (W4.setCell ⟨w.heap.size+1,4,none⟩ (.slice (some ⟨b4,0,none⟩) (js.length+1) c4)):=ay.setCell (ay.refl _ _) (fun _=>(rfl:w.heap.size+1=w.heap.size+1)) _;have fU:=(K3.block wr.heap.size (Array.getElem?_eq_some_iff.1 jk).1 (by unfold One;omega)).trans jk;clear bO oL iA;refine aa (i:=7) (d:=some 27) rfl ?_;refine ax (i:=8) jk rfl ?_;intro K hK;go_simp;refine hK _ _ ?_;clear hK K;refine aH fU (by kernel_rfl) ?_ _;clear g0 g1 c0 c1 Np gP jC lS jk fU;go_wp2;go_roundw
     case rel=>exact⟨k+1,_,_,by go_num,bQ,by rw[HK1.out,HJ1.out];exact m_⟩
     case measure=>simp[intOf];omega
    ·intro K hK;go_simp;refine hK _ _ ?_;clear hK K;refine ax (i:=1) lS rfl ?_;intro K hK;go_simp;refine hK _ _ ?_;clear hK K;refine ax (i:=6) lS rfl ?_;intro K hK;refine aZ (.tmp 21) (.tmp 25) 23 rfl (w.heap.size+2) 25 (.agg #[.int .i64 0,.int .i64 0,.string ⟨#[]⟩,.slice none 0 0,.slice none 0 0]) 5 80 Tryz.underlying23 Tryz.eT rfl (by decide) (by decide) _ js.length xs rfl bV _ [.int .i64 3,.int .i64 0,.string u,.slice none 0 0,.slice none 0 0] rfl rfl (kK rfl) (nT u) (by omega) hA.size ?_;intro pV W4 bO oL iA;refine hK _ _ ?_;clear hK K;obtain⟨b4,c4,xm⟩:=gW bO;subst xm;obtain⟨g0,g1,m_⟩:=hA.push bV eZ (d_ _ _ u) bO oL iA;have jk:=(oL.block wr.heap.size (by simp;omega) fun e=>HVE.out e.symm).trans lS;have K3:ay (One (w.heap.size+1)) W4 (W4.setCell ⟨w.heap.size+1,4,none⟩ (.slice (some ⟨b4,0,none⟩) (js.length+1) c4)):=ay.setCell (ay.refl _ _) (fun _=>(rfl:w.heap.size+1=w.heap.size+1)) _;have fU:=(K3.block wr.heap.size (Array.getElem?_eq_some_iff.1 jk).1 (by unfold One;omega)).trans jk;clear bO oL iA;refine aa (i:=7) (d:=some 27) rfl ?_;refine ax (i:=8) jk rfl ?_;intro K hK;go_simp;refine hK _ _ ?_;clear hK K;refine aH fU (by kernel_rfl) ?_ _;clear g0 g1 c0 c1 Np gP jC lS jk fU;go_wp2;go_roundw
     case rel=>exact⟨k+1,_,_,by go_num,bQ,by rw[HK1.out,HJ1.out];exact m_⟩
     case measure=>simp[intOf];omega
  ·obtain rfl:k=n:=by omega
   rw[List.take_of_length_le (by rw[HN.out];omega)]at nS;obtain⟨q2,c2,xq⟩:∃q c,vl=.slice q (l.map fun s=>eX s.2).length c:=by
    obtain⟨xs,bV,_⟩:=nS.fq;exact dZ bV
   obtain⟨q1,c1,vP⟩:=dZ nS.keys;subst xq vP;have P6:=nS.obj;have pE:wr.heap[w.heap.size]?=some (.cells #[.int .i64 0,.int .i64 0,.string ⟨#[]⟩,.slice none 0 0,.slice none 0 0] 25 (0,0)):=(nS.jo.block _ (by have:=nS.JQ;omega) (by unfold One;omega)).trans jq;obtain⟨j0,j1,j2,j3,j4⟩:=aU P6;obtain⟨i0,i1,i2,i3,i4⟩:=aU pE;obtain⟨z0,z1,z2,z3,z4⟩:=fZ pE;obtain⟨m,hm⟩:∃m,(l.map fun s=>eX s.2).length=m:=⟨_,rfl⟩;obtain⟨m1,Ic⟩:∃m,(l.map (·.1)).length=m:=⟨_,rfl⟩;have HTI:Hid (TI (fun _=>False) (w.heap.size+2) (w.heap.size+1) 5 WB (l.map (·.1)) (l.map fun s=>eX s.2) (.slice q1 m1 c1) (.slice q2 m c2) wr):=by rw[<-hm,<-Ic];exact nS
   rw[hm]at j4;rw[Ic]at j3;have h5:=dS pE (.int .i64 5) (.int .i64 0) (.string ⟨#[]⟩) (.slice q1 m1 c1) (.slice q2 m c2);have eD:ay (One w.heap.size) wr _:=dU wr w.heap.size (.int .i64 5) (.int .i64 0) (.string ⟨#[]⟩) (.slice q1 m1 c1) (.slice q2 m c2);unfold lN at h5 eD;obtain⟨k0,k1,k2,k3,k4⟩:=aU h5;clear nS P6 pE hm Ic;go_wp2;refine bodyPost_ret (v:=.agg #[.int .i64 5,.int .i64 0,.string ⟨#[]⟩,.slice q1 m1 c1,.slice q2 m c2]) (by simp[results,Tryz.results118,go_sem,k0,k1,k2,k3,k4]) rfl ?_;obtain⟨r1,r2⟩:=HTI.out.done dM eD;exact⟨⟨_,_,_,_,_,_,rfl,r1⟩,r2⟩
theorem TI.end{O:Nat->Prop}{w WB wr W5:World}{kd:Int}{ks:List ByteArray}{js:List J}{q1 q2:Option Addr}{n1 n2 c1 c2:Nat}(h:TI O (w.heap.size+3) (w.heap.size+2) kd WB ks js (.slice q1 n1 c1) (.slice q2 n2 c2) wr)(hO:∀k,O k->k<w.heap.size)(dM:Below w.heap.size w WB)(eD:ay (One (w.heap.size+1)) wr W5):
    isJ (fun k=>O k\/ tN w W5 k) W5 (.mk kd 0 aT ks js) [.int .i64 kd,.int .i64 0,.string aT,.slice q1 n1 c1,.slice q2 n2 c2]/\Below w.heap.size w W5:=by
 have fK:=h.size;have h5:=eD.size;have QF:=h.JQ;obtain⟨xs,bV,eZ⟩:=h.fq;obtain⟨q1',c1',e1,oJ⟩:=qN h.keys;obtain⟨q2',Np,e2,nI,QD⟩:=sH bV eZ
 cases e1
 cases e2
 have carry:∀k,w.heap.size+3<=k->k<wr.heap.size->(O k\/ tN w W5 k)/\W5.heap[k]?=wr.heap[k]?:=fun k h1 h2=>⟨.inr ⟨by omega,by omega⟩,eD.block k h2 (by unfold One;omega)⟩;refine⟨?_, ?_⟩
 ·unfold isJ;refine⟨q1,c1,q2,c2,rfl,oJ.carry fun k hk=>carry k hk.1 hk.2,nI,QD.carry fun k hk=> ?_⟩
  rcases hk with hk| hk
  ·rcases hk with hk| hk
   ·have:=hO k hk;exact⟨.inl hk,eD.block k (by omega) (by unfold One;omega)⟩
   ·exact carry k hk.1 hk.2.1
  ·exact carry k hk.1 hk.2
 ·exact(dM.trans (h.jo.below (by omega) fun k hk=>by unfold One;omega)).trans (eD.below (by omega) fun k hk=>by unfold One;omega)
theorem F6{w:World}(o1 o2 o3:Obj):(((w.alloc o1).alloc o2).alloc o3).heap[w.heap.size+2]?=some o3/\(((w.alloc o1).alloc o2).alloc o3).heap[w.heap.size+1]?=some o2/\(((w.alloc o1).alloc o2).alloc o3).heap[w.heap.size]?=some o1:=by
 have h3:=heap_alloc_new ((w.alloc o1).alloc o2) o3;refine⟨by simpa using h3, ?_, ?_⟩
 ·rw[Below.heap_alloc _ _ _ (by simp)];exact sV _ _
 ·rw[Below.heap_alloc _ _ _ (by simp;omega)];exact wm _ _
theorem wG{O:Nat->Prop}{W W2:World}{y:J}{cs:List Value}(h:isJ (tN W W2) W2 y cs):isJ (fun k=>O k\/ tN W W2 k) W2 y cs:=h.carry fun _ hk=>⟨.inr hk,rfl⟩
theorem O3{O:Nat->Prop}(room aR ah key:ByteArray)(k i:Int)(t:ByteArray)(ks:List ByteArray)(l:List J)(prev aD:List ByteArray)(depth ts:Int)(hash:ByteArray)(sigs:List (ByteArray×ByteArray))(pk:Option Addr)(ck:Nat)(pl:Option Addr)(cl:Nat)(pp:Option Addr)(cp:Nat)(pa:Option Addr)(ca:Nat)(ps:Option Addr)(cs:Nat)(w:World)
    (hE:ji O w ⟨room,aR,ah,true,key,⟨k,i,t,ks,l⟩,prev,aD,depth,ts,hash,sigs⟩ ⟨pk,ck,pl,cl,pp,cp,pa,ca,ps,cs⟩) (hO:∀k,O k->k<w.heap.size) (h1:prev.length<=100000) (h2:aD.length<=100000) (h3:sigs.length<=100000):
    Calls Tryz.prog 79 #[.agg #[.string room,.string aR,.string ah,.bool true,.string key,.int .i64 k,.int .i64 i,.string t,.slice pk ks.length ck,.slice pl l.length cl,.slice pp prev.length cp,.slice pa aD.length ca,.int .i64 depth,.int .i64 ts,.string hash,.slice ps sigs.length cs]] w fun x w'=>(∃pk nk ck pl nl cl,x=.returned (.agg #[.int .i64 5,.int .i64 0,.string aT,.slice pk nk ck,.slice pl nl cl])/\isJ (fun k=>O k\/ tN w w' k) w' (nE ⟨room,aR,ah,true,key,⟨k,i,t,ks,l⟩,prev,aD,depth,ts,hash,sigs⟩) [.int .i64 5,.int .i64 0,.string aT,.slice pk nk ck,.slice pl nl cl])/\Below w.heap.size w w':=by
 obtain⟨WB,mZ⟩:∃WB,WB=((w.alloc (.cells #[.string room,.string aR,.string ah,.bool true,.string key,.int .i64 k,.int .i64 i,.string t,.slice pk ks.length ck,.slice pl l.length cl,.slice pp prev.length cp,.slice pa aD.length ca,.int .i64 depth,.int .i64 ts,.string hash,.slice ps sigs.length cs] 28)).alloc (.cells #[.int .i64 0,.int .i64 0,.string ⟨#[]⟩,.slice none 0 0,.slice none 0 0] 25)).alloc (.cells #[.int .i64 5,.int .i64 0,.string ⟨#[]⟩,.slice none 0 0,.slice none 0 0] 25):=⟨_,rfl⟩;have dM:Below w.heap.size w WB:=by rw[mZ];exact(((Below.refl _ _).alloc (Nat.le_refl _) _).alloc (by simp) _).alloc (by simp;omega) _
 obtain⟨q1,q2,q3⟩:=F6 (w:=w) (.cells #[.string room,.string aR,.string ah,.bool true,.string key,.int .i64 k,.int .i64 i,.string t,.slice pk ks.length ck,.slice pl l.length cl,.slice pp prev.length cp,.slice pa aD.length ca,.int .i64 depth,.int .i64 ts,.string hash,.slice ps sigs.length cs] 28) (.cells #[.int .i64 0,.int .i64 0,.string ⟨#[]⟩,.slice none 0 0,.slice none 0 0] 25) (.cells #[.int .i64 5,.int .i64 0,.string ⟨#[]⟩,.slice none 0 0,.slice none 0 0] 25);rw[<-mZ]at q1 q2 q3;have J2:TI O (w.heap.size+3) (w.heap.size+2) 5 WB [] [] (.slice none 0 0) (.slice none 0 0) WB:=TI.start (by rw[mZ];simp) (by omega) (fun k h=>by have:=hO k h;omega) q1;have HE:Hid (∀{ks':List ByteArray} {js:List J} {vk vl:Value} {W:World},TI O (w.heap.size+3) (w.heap.size+2) 5 WB ks' js vk vl W->ji O W ⟨room,aR,ah,true,key,⟨k,i,t,ks,l⟩,prev,aD,depth,ts,hash,sigs⟩ ⟨pk,ck,pl,cl,pp,cp,pa,ca,ps,cs⟩/\(∀k,O k->k<W.heap.size)/\(∀j v, [.string room,.string aR,.string ah,.bool true,.string key,.int .i64 k,.int .i64 i,.string t,.slice pk ks.length ck,.slice pl l.length cl,.slice pp prev.length cp,.slice pa aD.length ca,.int .i64 depth,.int .i64 ts,.string hash,.slice ps sigs.length cs][j]?=some v->W.cell? ⟨w.heap.size,j,none⟩=some v)/\W.heap[w.heap.size+1]?=some (.cells #[.int .i64 0,.int .i64 0,.string ⟨#[]⟩,.slice none 0 0,.slice none 0 0] 25 (0,0))):=by
  intro ks' js vk vl W h;have e1:=h.size;have e2:=h.JQ;refine⟨hE.carry fun k hk=>⟨hk, ?_⟩,fun k hk=>by have:=hO k hk;omega,fun j v hj=> ?_, ?_⟩
  ·have:=hO k hk;exact(h.jo.block k (by omega) (by unfold One;omega)).trans (dM.block k this)
  ·exact bB ((h.jo.block _ (by omega) (by unfold One;omega)).trans q3) j v hj
  ·exact(h.jo.block _ (by omega) (by unfold One;omega)).trans q2
 have Zx:=(HE.out J2).2.2.1 11 _ rfl;have sW:TI O (w.heap.size+3) (w.heap.size+2) 5 WB [] [] (.slice none 0 0) (.slice none 0 0) (((w.alloc (.cells #[.string room,.string aR,.string ah,.bool true,.string key,.int .i64 k,.int .i64 i,.string t,.slice pk ks.length ck,.slice pl l.length cl,.slice pp prev.length cp,.slice pa aD.length ca,.int .i64 depth,.int .i64 ts,.string hash,.slice ps sigs.length cs] 28)).alloc (.cells #[.int .i64 0,.int .i64 0,.string ⟨#[]⟩,.slice none 0 0,.slice none 0 0] 25)).alloc (.cells #[.int .i64 5,.int .i64 0,.string ⟨#[]⟩,.slice none 0 0,.slice none 0 0] 25)):=by rw[<-mZ];exact J2
 rw[mZ]at Zx;clear q1 q2 q3 mZ hE J2;go_enter Tryz.func79,Tryz.ntmps79;go_wp2_with(first
  | (go_at_call 114;refine(dB zgW (d_ _ _ aR) (by simp) (by simp) _).mono ?_;rintro x W11 ⟨rfl,zgX,zgY,F7⟩
     obtain⟨q1,m1,c1,vP⟩:∃q m c,zgX=.slice q m c:=by
      obtain⟨q,c,h⟩:=dZ F7.keys;exact⟨q,_,c,h⟩
     obtain⟨q2,m2,c2,xq⟩:∃q m c,zgY=.slice q m c:=by
      obtain⟨xs,bV,_⟩:=F7.fq;obtain⟨q,c,h⟩:=dZ bV;exact⟨q,_,c,h⟩
     subst vP xq;have P6:W11.heap[w.heap.size+1+1]?=some (.cells #[.int .i64 5,.int .i64 0,.string ⟨#[]⟩,.slice q1 m1 c1,.slice q2 m2 c2] 25 (0,0)):=F7.obj;have pE:=(HE.out F7).2.2.2;obtain⟨j0,j1,j2,j3,j4⟩:=aU P6;obtain⟨i0,i1,i2,i3,i4⟩:=aU pE;obtain⟨z0,z1,z2,z3,z4⟩:=fZ pE)
  | (go_at_call 117;have _g:=uV;refine(gH aR _).mono ?_;rintro x v10 ⟨rfl,wH⟩
     have zgW:=uV.more wH)
  | (go_at_call 114;refine(dB hu9 (yG _ _ ts) (by simp) (by simp) _).mono ?_;rintro x Uo ⟨rfl,zeC,zeD,uV⟩
     have a1:=(HE.out uV).2.2.1 1 _ rfl)
  | (go_at_call 116;have _g:=J3;refine(mK ts _).mono ?_;rintro x v9 ⟨rfl,yE⟩
     have hu9:=J3.more yE)
  | (go_at_call 114;refine(dB hu8 hy8 (by simp) (by simp) _).mono ?_;rintro x W9 ⟨rfl,vk9,vl9,J3⟩
     have a13:=(HE.out J3).2.2.1 13 _ rfl)
  | (go_at_call 118;refine(Ac (HE.out Du).1.sigs (HE.out Du).2.1 h3).mono ?_;rintro x v8 ⟨⟨pk8,nk8,ck8,pl8,nl8,cl8,rfl,hj8⟩,uC⟩
     have hu8:=Du.more uC;have hy8:=Du.fresh uC (wG hj8))
  | (go_at_call 114;refine(dB hu7 (d_ _ _ ah) (by simp) (by simp) _).mono ?_;rintro x W8 ⟨rfl,vk8,vl8,Du⟩
     have a15:=(HE.out Du).2.2.1 15 _ rfl)
  | (go_at_call 117;have _g:=Dv;refine(gH ah _).mono ?_;rintro x v7 ⟨rfl,vI⟩
     have hu7:=Dv.more vI)
  | (go_at_call 114;refine(dB hu6 (d_ _ _ room) (by simp) (by simp) _).mono ?_;rintro x W7 ⟨rfl,vk7,vl7,Dv⟩
     have a2:=(HE.out Dv).2.2.1 2 _ rfl)
  | (go_at_call 117;have _g:=J4;refine(gH room _).mono ?_;rintro x v6 ⟨rfl,jy⟩
     have hu6:=J4.more jy)
  | (go_at_call 114;refine(dB hu5 hy5 (by simp) (by simp) _).mono ?_;rintro x W6 ⟨rfl,vk6,vl6,J4⟩
     have a0:=(HE.out J4).2.2.1 0 _ rfl)
  | (go_at_call 115;refine(oV (HE.out m_).1.prev (HE.out m_).2.1 h1).mono ?_;rintro x v5 ⟨⟨pl5,nl5,cl5,rfl,hj5⟩,iJ⟩
     have hu5:=m_.more iJ;have hy5:=m_.fresh iJ (wG hj5))
  | (go_at_call 114;refine(dB hu4 (d_ _ _ key) (by simp) (by simp) _).mono ?_;rintro x W5 ⟨rfl,vk5,vl5,m_⟩
     have a10:=(HE.out m_).2.2.1 10 _ rfl)
  | (go_at_call 117;have _g:=Ad;refine(gH key _).mono ?_;rintro x v4 ⟨rfl,dF⟩
     have hu4:=Ad.more dF)
  | (go_at_call 114;refine(dB hu3 (d_ _ _ hash) (by simp) (by simp) _).mono ?_;rintro x W4 ⟨rfl,vk4,vl4,Ad⟩
     have a4:=(HE.out Ad).2.2.1 4 _ rfl;have a3:=(HE.out Ad).2.2.1 3 _ rfl)
  | (go_at_call 117;have _g:=J5;refine(gH hash _).mono ?_;rintro x v3 ⟨rfl,df⟩
     have hu3:=J5.more df)
  | (go_at_call 114;refine(dB ET (yG _ _ depth) (by simp) (by simp) _).mono ?_;rintro x W3 ⟨rfl,vk3,vl3,J5⟩
     have a14:=(HE.out J5).2.2.1 14 _ rfl)
  | (go_at_call 116;have _g:=J6;refine(mK depth _).mono ?_;rintro x v2 ⟨rfl,aY⟩
     have ET:=J6.more aY)
  | (go_at_call 114;refine(dB tq ((HE.out tq).1.cont.carry fun k hk=>⟨.inl hk,rfl⟩) (by simp) (by simp) _).mono ?_;rintro x W2 ⟨rfl,QH,pV,J6⟩
     have a12:=(HE.out J6).2.2.1 12 _ rfl)
  | (go_at_call 114;refine(dB hu0 hy0 (by simp) (by simp) _).mono ?_;rintro x W1 ⟨rfl,vk1,vl1,tq⟩
     have a5:=(HE.out tq).2.2.1 5 _ rfl;have a6:=(HE.out tq).2.2.1 6 _ rfl;have a7:=(HE.out tq).2.2.1 7 _ rfl;have a8:=(HE.out tq).2.2.1 8 _ rfl;have a9:=(HE.out tq).2.2.1 9 _ rfl)
  | (go_at_call 115;refine(oV (HE.out sW).1.aD (HE.out sW).2.1 h2).mono ?_;rintro x v0 ⟨⟨pl0,nl0,cl0,rfl,hj0⟩,cK⟩
     have hu0:=sW.more cK;have hy0:=sW.fresh cK (wG hj0)))
 have h5:=dS pE (.int .i64 5) (.int .i64 0) (.string ⟨#[]⟩) (.slice q1 m1 c1) (.slice q2 m2 c2);have eD:ay (One (w.heap.size+1)) W11 _:=dU W11 (w.heap.size+1) (.int .i64 5) (.int .i64 0) (.string ⟨#[]⟩) (.slice q1 m1 c1) (.slice q2 m2 c2);unfold lN at h5 eD;obtain⟨k0,k1,k2,k3,k4⟩:=aU h5;refine bodyPost_ret (v:=.agg #[.int .i64 5,.int .i64 0,.string ⟨#[]⟩,.slice q1 m1 c1,.slice q2 m2 c2]) (by simp[results,Tryz.results79,go_sem,k0,k1,k2,k3,k4]) rfl ?_;obtain⟨r1,r2⟩:=F7.end hO dM eD;exact⟨⟨_,_,_,_,_,_,rfl,r1⟩,r2⟩
theorem J7{O:Nat->Prop}(room aR ah key:ByteArray)(k i:Int)(t:ByteArray)(ks:List ByteArray)(l:List J)(prev aD:List ByteArray)(depth ts:Int)(hash:ByteArray)(sigs:List (ByteArray×ByteArray))(pk:Option Addr)(ck:Nat)(pl:Option Addr)(cl:Nat)(pp:Option Addr)(cp:Nat)(pa:Option Addr)(ca:Nat)(ps:Option Addr)(cs:Nat)(w:World)
    (hE:ji O w ⟨room,aR,ah,false,key,⟨k,i,t,ks,l⟩,prev,aD,depth,ts,hash,sigs⟩ ⟨pk,ck,pl,cl,pp,cp,pa,ca,ps,cs⟩) (hO:∀k,O k->k<w.heap.size) (h1:prev.length<=100000) (h2:aD.length<=100000) (h3:sigs.length<=100000):
    Calls Tryz.prog 79 #[.agg #[.string room,.string aR,.string ah,.bool false,.string key,.int .i64 k,.int .i64 i,.string t,.slice pk ks.length ck,.slice pl l.length cl,.slice pp prev.length cp,.slice pa aD.length ca,.int .i64 depth,.int .i64 ts,.string hash,.slice ps sigs.length cs]] w fun x w'=>(∃pk nk ck pl nl cl,x=.returned (.agg #[.int .i64 5,.int .i64 0,.string aT,.slice pk nk ck,.slice pl nl cl])/\isJ (fun k=>O k\/ tN w w' k) w' (nE ⟨room,aR,ah,false,key,⟨k,i,t,ks,l⟩,prev,aD,depth,ts,hash,sigs⟩) [.int .i64 5,.int .i64 0,.string aT,.slice pk nk ck,.slice pl nl cl])/\Below w.heap.size w w':=by
 obtain⟨WB,mZ⟩:∃WB,WB=((w.alloc (.cells #[.string room,.string aR,.string ah,.bool false,.string key,.int .i64 k,.int .i64 i,.string t,.slice pk ks.length ck,.slice pl l.length cl,.slice pp prev.length cp,.slice pa aD.length ca,.int .i64 depth,.int .i64 ts,.string hash,.slice ps sigs.length cs] 28)).alloc (.cells #[.int .i64 0,.int .i64 0,.string ⟨#[]⟩,.slice none 0 0,.slice none 0 0] 25)).alloc (.cells #[.int .i64 5,.int .i64 0,.string ⟨#[]⟩,.slice none 0 0,.slice none 0 0] 25):=⟨_,rfl⟩;have dM:Below w.heap.size w WB:=by rw[mZ];exact(((Below.refl _ _).alloc (Nat.le_refl _) _).alloc (by simp) _).alloc (by simp;omega) _
 obtain⟨q1,q2,q3⟩:=F6 (w:=w) (.cells #[.string room,.string aR,.string ah,.bool false,.string key,.int .i64 k,.int .i64 i,.string t,.slice pk ks.length ck,.slice pl l.length cl,.slice pp prev.length cp,.slice pa aD.length ca,.int .i64 depth,.int .i64 ts,.string hash,.slice ps sigs.length cs] 28) (.cells #[.int .i64 0,.int .i64 0,.string ⟨#[]⟩,.slice none 0 0,.slice none 0 0] 25) (.cells #[.int .i64 5,.int .i64 0,.string ⟨#[]⟩,.slice none 0 0,.slice none 0 0] 25);rw[<-mZ]at q1 q2 q3;have J2:TI O (w.heap.size+3) (w.heap.size+2) 5 WB [] [] (.slice none 0 0) (.slice none 0 0) WB:=TI.start (by rw[mZ];simp) (by omega) (fun k h=>by have:=hO k h;omega) q1;have HE:Hid (∀{ks':List ByteArray} {js:List J} {vk vl:Value} {W:World},TI O (w.heap.size+3) (w.heap.size+2) 5 WB ks' js vk vl W->ji O W ⟨room,aR,ah,false,key,⟨k,i,t,ks,l⟩,prev,aD,depth,ts,hash,sigs⟩ ⟨pk,ck,pl,cl,pp,cp,pa,ca,ps,cs⟩/\(∀k,O k->k<W.heap.size)/\(∀j v, [.string room,.string aR,.string ah,.bool false,.string key,.int .i64 k,.int .i64 i,.string t,.slice pk ks.length ck,.slice pl l.length cl,.slice pp prev.length cp,.slice pa aD.length ca,.int .i64 depth,.int .i64 ts,.string hash,.slice ps sigs.length cs][j]?=some v->W.cell? ⟨w.heap.size,j,none⟩=some v)/\W.heap[w.heap.size+1]?=some (.cells #[.int .i64 0,.int .i64 0,.string ⟨#[]⟩,.slice none 0 0,.slice none 0 0] 25 (0,0))):=by
  intro ks' js vk vl W h;have e1:=h.size;have e2:=h.JQ;refine⟨hE.carry fun k hk=>⟨hk, ?_⟩,fun k hk=>by have:=hO k hk;omega,fun j v hj=> ?_, ?_⟩
  ·have:=hO k hk;exact(h.jo.block k (by omega) (by unfold One;omega)).trans (dM.block k this)
  ·exact bB ((h.jo.block _ (by omega) (by unfold One;omega)).trans q3) j v hj
  ·exact(h.jo.block _ (by omega) (by unfold One;omega)).trans q2
 have Zx:=(HE.out J2).2.2.1 11 _ rfl;have sW:TI O (w.heap.size+3) (w.heap.size+2) 5 WB [] [] (.slice none 0 0) (.slice none 0 0) (((w.alloc (.cells #[.string room,.string aR,.string ah,.bool false,.string key,.int .i64 k,.int .i64 i,.string t,.slice pk ks.length ck,.slice pl l.length cl,.slice pp prev.length cp,.slice pa aD.length ca,.int .i64 depth,.int .i64 ts,.string hash,.slice ps sigs.length cs] 28)).alloc (.cells #[.int .i64 0,.int .i64 0,.string ⟨#[]⟩,.slice none 0 0,.slice none 0 0] 25)).alloc (.cells #[.int .i64 5,.int .i64 0,.string ⟨#[]⟩,.slice none 0 0,.slice none 0 0] 25)):=by rw[<-mZ];exact J2
 rw[mZ]at Zx;clear q1 q2 q3 mZ hE J2;go_enter Tryz.func79,Tryz.ntmps79;go_wp2_with(first
  | (go_at_call 114;refine(dB hu9 (d_ _ _ aR) (by simp) (by simp) _).mono ?_;rintro x Uo ⟨rfl,zeC,zeD,uV⟩
     obtain⟨q1,m1,c1,vP⟩:∃q m c,zeC=.slice q m c:=by
      obtain⟨q,c,h⟩:=dZ uV.keys;exact⟨q,_,c,h⟩
     obtain⟨q2,m2,c2,xq⟩:∃q m c,zeD=.slice q m c:=by
      obtain⟨xs,bV,_⟩:=uV.fq;obtain⟨q,c,h⟩:=dZ bV;exact⟨q,_,c,h⟩
     subst vP xq;have P6:Uo.heap[w.heap.size+1+1]?=some (.cells #[.int .i64 5,.int .i64 0,.string ⟨#[]⟩,.slice q1 m1 c1,.slice q2 m2 c2] 25 (0,0)):=uV.obj;have pE:=(HE.out uV).2.2.2;obtain⟨j0,j1,j2,j3,j4⟩:=aU P6;obtain⟨i0,i1,i2,i3,i4⟩:=aU pE;obtain⟨z0,z1,z2,z3,z4⟩:=fZ pE)
  | (go_at_call 117;have _g:=J3;refine(gH aR _).mono ?_;rintro x v9 ⟨rfl,yE⟩
     have hu9:=J3.more yE)
  | (go_at_call 114;refine(dB hu8 (yG _ _ ts) (by simp) (by simp) _).mono ?_;rintro x W9 ⟨rfl,vk9,vl9,J3⟩
     have a1:=(HE.out J3).2.2.1 1 _ rfl)
  | (go_at_call 116;have _g:=Du;refine(mK ts _).mono ?_;rintro x v8 ⟨rfl,uC⟩
     have hu8:=Du.more uC)
  | (go_at_call 114;refine(dB hu7 hy7 (by simp) (by simp) _).mono ?_;rintro x W8 ⟨rfl,vk8,vl8,Du⟩
     have a13:=(HE.out Du).2.2.1 13 _ rfl)
  | (go_at_call 118;refine(Ac (HE.out Dv).1.sigs (HE.out Dv).2.1 h3).mono ?_;rintro x v7 ⟨⟨pk7,nk7,ck7,pl7,nl7,cl7,rfl,hj7⟩,vI⟩
     have hu7:=Dv.more vI;have hy7:=Dv.fresh vI (wG hj7))
  | (go_at_call 114;refine(dB hu6 (d_ _ _ ah) (by simp) (by simp) _).mono ?_;rintro x W7 ⟨rfl,vk7,vl7,Dv⟩
     have a15:=(HE.out Dv).2.2.1 15 _ rfl)
  | (go_at_call 117;have _g:=J4;refine(gH ah _).mono ?_;rintro x v6 ⟨rfl,jy⟩
     have hu6:=J4.more jy)
  | (go_at_call 114;refine(dB hu5 (d_ _ _ room) (by simp) (by simp) _).mono ?_;rintro x W6 ⟨rfl,vk6,vl6,J4⟩
     have a2:=(HE.out J4).2.2.1 2 _ rfl)
  | (go_at_call 117;have _g:=m_;refine(gH room _).mono ?_;rintro x v5 ⟨rfl,iJ⟩
     have hu5:=m_.more iJ)
  | (go_at_call 114;refine(dB hu4 yl (by simp) (by simp) _).mono ?_;rintro x W5 ⟨rfl,vk5,vl5,m_⟩
     have a0:=(HE.out m_).2.2.1 0 _ rfl)
  | (go_at_call 115;refine(oV (HE.out Ad).1.prev (HE.out Ad).2.1 h1).mono ?_;rintro x v4 ⟨⟨pl4,nl4,cl4,rfl,hj4⟩,dF⟩
     have hu4:=Ad.more dF;have yl:=Ad.fresh dF (wG hj4))
  | (go_at_call 114;refine(dB hu3 (d_ _ _ hash) (by simp) (by simp) _).mono ?_;rintro x W4 ⟨rfl,vk4,vl4,Ad⟩
     have a10:=(HE.out Ad).2.2.1 10 _ rfl;have a3:=(HE.out Ad).2.2.1 3 _ rfl)
  | (go_at_call 117;have _g:=J5;refine(gH hash _).mono ?_;rintro x v3 ⟨rfl,df⟩
     have hu3:=J5.more df)
  | (go_at_call 114;refine(dB ET (yG _ _ depth) (by simp) (by simp) _).mono ?_;rintro x W3 ⟨rfl,vk3,vl3,J5⟩
     have a14:=(HE.out J5).2.2.1 14 _ rfl)
  | (go_at_call 116;have _g:=J6;refine(mK depth _).mono ?_;rintro x v2 ⟨rfl,aY⟩
     have ET:=J6.more aY)
  | (go_at_call 114;refine(dB tq ((HE.out tq).1.cont.carry fun k hk=>⟨.inl hk,rfl⟩) (by simp) (by simp) _).mono ?_;rintro x W2 ⟨rfl,QH,pV,J6⟩
     have a12:=(HE.out J6).2.2.1 12 _ rfl)
  | (go_at_call 114;refine(dB hu0 hy0 (by simp) (by simp) _).mono ?_;rintro x W1 ⟨rfl,vk1,vl1,tq⟩
     have a5:=(HE.out tq).2.2.1 5 _ rfl;have a6:=(HE.out tq).2.2.1 6 _ rfl;have a7:=(HE.out tq).2.2.1 7 _ rfl;have a8:=(HE.out tq).2.2.1 8 _ rfl;have a9:=(HE.out tq).2.2.1 9 _ rfl)
  | (go_at_call 115;refine(oV (HE.out sW).1.aD (HE.out sW).2.1 h2).mono ?_;rintro x v0 ⟨⟨pl0,nl0,cl0,rfl,hj0⟩,cK⟩
     have hu0:=sW.more cK;have hy0:=sW.fresh cK (wG hj0)))
 have h5:=dS pE (.int .i64 5) (.int .i64 0) (.string ⟨#[]⟩) (.slice q1 m1 c1) (.slice q2 m2 c2);have eD:ay (One (w.heap.size+1)) Uo _:=dU Uo (w.heap.size+1) (.int .i64 5) (.int .i64 0) (.string ⟨#[]⟩) (.slice q1 m1 c1) (.slice q2 m2 c2);unfold lN at h5 eD;obtain⟨k0,k1,k2,k3,k4⟩:=aU h5;refine bodyPost_ret (v:=.agg #[.int .i64 5,.int .i64 0,.string ⟨#[]⟩,.slice q1 m1 c1,.slice q2 m2 c2]) (by simp[results,Tryz.results79,go_sem,k0,k1,k2,k3,k4]) rfl ?_;obtain⟨r1,r2⟩:=uV.end hO dM eD;exact⟨⟨_,_,_,_,_,_,rfl,r1⟩,r2⟩
structure wJ(w:World):Prop where
 pow:P8 w.heap.size w
 utf:OZ w.heap.size w
theorem wJ.below{w w':World}(h:wJ w)(hb:Below w.heap.size w w'):wJ w':=⟨fun w2 h2=>h.pow w2 (av hb h2),h.utf.below hb⟩
structure O4(room aR ah:ByteArray)(st:Bool)(key:ByteArray)(k i:Int)(t:ByteArray)(ks:List ByteArray)(l:List J)(prev aD:List ByteArray)(depth ts:Int)(hash:ByteArray)(sigs:List (ByteArray×ByteArray))(pk:Option Addr)(ck:Nat)(pl:Option Addr)(cl:Nat)(pp:Option Addr)(cp:Nat)(pa:Option Addr)(ca:Nat)(ps:Option Addr)(cs:Nat)(w:World):Prop where
 cells:∀W,Below (w.alloc (.cells #[.string room,.string aR,.string ah,.bool st,.string key,.int .i64 k,.int .i64 i,.string t,.slice pk ks.length ck,.slice pl l.length cl,.slice pp prev.length cp,.slice pa aD.length ca,.int .i64 depth,.int .i64 ts,.string hash,.slice ps sigs.length cs] 28)).heap.size (w.alloc (.cells #[.string room,.string aR,.string ah,.bool st,.string key,.int .i64 k,.int .i64 i,.string t,.slice pk ks.length ck,.slice pl l.length cl,.slice pp prev.length cp,.slice pa aD.length ca,.int .i64 depth,.int .i64 ts,.string hash,.slice ps sigs.length cs] 28)) W->∀j v, [.string room,.string aR,.string ah,.bool st,.string key,.int .i64 k,.int .i64 i,.string t,.slice pk ks.length ck,.slice pl l.length cl,.slice pp prev.length cp,.slice pa aD.length ca,.int .i64 depth,.int .i64 ts,.string hash,.slice ps sigs.length cs][j]?=some v->W.cell? ⟨w.heap.size,j,none⟩=some v
 below:Below w.heap.size w (w.alloc (.cells #[.string room,.string aR,.string ah,.bool st,.string key,.int .i64 k,.int .i64 i,.string t,.slice pk ks.length ck,.slice pl l.length cl,.slice pp prev.length cp,.slice pa aD.length ca,.int .i64 depth,.int .i64 ts,.string hash,.slice ps sigs.length cs] 28))
 h0:∀W,Below (w.alloc (.cells #[.string room,.string aR,.string ah,.bool st,.string key,.int .i64 k,.int .i64 i,.string t,.slice pk ks.length ck,.slice pl l.length cl,.slice pp prev.length cp,.slice pa aD.length ca,.int .i64 depth,.int .i64 ts,.string hash,.slice ps sigs.length cs] 28)).heap.size (w.alloc (.cells #[.string room,.string aR,.string ah,.bool st,.string key,.int .i64 k,.int .i64 i,.string t,.slice pk ks.length ck,.slice pl l.length cl,.slice pp prev.length cp,.slice pa aD.length ca,.int .i64 depth,.int .i64 ts,.string hash,.slice ps sigs.length cs] 28)) W->Calls Tryz.prog 103 #[.agg #[.string room,.string aR,.string ah,.bool st,.string key,.int .i64 k,.int .i64 i,.string t,.slice pk ks.length ck,.slice pl l.length cl,.slice pp prev.length cp,.slice pa aD.length ca,.int .i64 depth,.int .i64 ts,.string hash,.slice ps sigs.length cs]] W fun x w'=>x=.returned (.bool (eH ⟨room,aR,ah,st,key,⟨k,i,t,ks,l⟩,prev,aD,depth,ts,hash,sigs⟩))/\Below W.heap.size W w'
 h1:∀W,Below (w.alloc (.cells #[.string room,.string aR,.string ah,.bool st,.string key,.int .i64 k,.int .i64 i,.string t,.slice pk ks.length ck,.slice pl l.length cl,.slice pp prev.length cp,.slice pa aD.length ca,.int .i64 depth,.int .i64 ts,.string hash,.slice ps sigs.length cs] 28)).heap.size (w.alloc (.cells #[.string room,.string aR,.string ah,.bool st,.string key,.int .i64 k,.int .i64 i,.string t,.slice pk ks.length ck,.slice pl l.length cl,.slice pp prev.length cp,.slice pa aD.length ca,.int .i64 depth,.int .i64 ts,.string hash,.slice ps sigs.length cs] 28)) W->Calls Tryz.prog 104 #[.agg #[.string room,.string aR,.string ah,.bool st,.string key,.int .i64 k,.int .i64 i,.string t,.slice pk ks.length ck,.slice pl l.length cl,.slice pp prev.length cp,.slice pa aD.length ca,.int .i64 depth,.int .i64 ts,.string hash,.slice ps sigs.length cs]] W fun x w'=>x=.returned (.bool (gv ⟨room,aR,ah,st,key,⟨k,i,t,ks,l⟩,prev,aD,depth,ts,hash,sigs⟩))/\Below W.heap.size W w'
 h2:∀W,Below (w.alloc (.cells #[.string room,.string aR,.string ah,.bool st,.string key,.int .i64 k,.int .i64 i,.string t,.slice pk ks.length ck,.slice pl l.length cl,.slice pp prev.length cp,.slice pa aD.length ca,.int .i64 depth,.int .i64 ts,.string hash,.slice ps sigs.length cs] 28)).heap.size (w.alloc (.cells #[.string room,.string aR,.string ah,.bool st,.string key,.int .i64 k,.int .i64 i,.string t,.slice pk ks.length ck,.slice pl l.length cl,.slice pp prev.length cp,.slice pa aD.length ca,.int .i64 depth,.int .i64 ts,.string hash,.slice ps sigs.length cs] 28)) W->Calls Tryz.prog 105 #[.agg #[.int .i64 k,.int .i64 i,.string t,.slice pk ks.length ck,.slice pl l.length cl]] W fun x w'=>x=.returned (.bool (eu ⟨k,i,t,ks,l⟩))/\Below W.heap.size W w'
 h3:∀W,Below (w.alloc (.cells #[.string room,.string aR,.string ah,.bool st,.string key,.int .i64 k,.int .i64 i,.string t,.slice pk ks.length ck,.slice pl l.length cl,.slice pp prev.length cp,.slice pa aD.length ca,.int .i64 depth,.int .i64 ts,.string hash,.slice ps sigs.length cs] 28)).heap.size (w.alloc (.cells #[.string room,.string aR,.string ah,.bool st,.string key,.int .i64 k,.int .i64 i,.string t,.slice pk ks.length ck,.slice pl l.length cl,.slice pp prev.length cp,.slice pa aD.length ca,.int .i64 depth,.int .i64 ts,.string hash,.slice ps sigs.length cs] 28)) W->Calls Tryz.prog 106 #[.slice pp prev.length cp,.int .i64 20] W fun x w'=>x=.returned (.bool (bI 20 prev))/\Below W.heap.size W w'
 h4:∀W,Below (w.alloc (.cells #[.string room,.string aR,.string ah,.bool st,.string key,.int .i64 k,.int .i64 i,.string t,.slice pk ks.length ck,.slice pl l.length cl,.slice pp prev.length cp,.slice pa aD.length ca,.int .i64 depth,.int .i64 ts,.string hash,.slice ps sigs.length cs] 28)).heap.size (w.alloc (.cells #[.string room,.string aR,.string ah,.bool st,.string key,.int .i64 k,.int .i64 i,.string t,.slice pk ks.length ck,.slice pl l.length cl,.slice pp prev.length cp,.slice pa aD.length ca,.int .i64 depth,.int .i64 ts,.string hash,.slice ps sigs.length cs] 28)) W->Calls Tryz.prog 106 #[.slice pa aD.length ca,.int .i64 10] W fun x w'=>x=.returned (.bool (bI 10 aD))/\Below W.heap.size W w'
 h5:∀W,Below (w.alloc (.cells #[.string room,.string aR,.string ah,.bool st,.string key,.int .i64 k,.int .i64 i,.string t,.slice pk ks.length ck,.slice pl l.length cl,.slice pp prev.length cp,.slice pa aD.length ca,.int .i64 depth,.int .i64 ts,.string hash,.slice ps sigs.length cs] 28)).heap.size (w.alloc (.cells #[.string room,.string aR,.string ah,.bool st,.string key,.int .i64 k,.int .i64 i,.string t,.slice pk ks.length ck,.slice pl l.length cl,.slice pp prev.length cp,.slice pa aD.length ca,.int .i64 depth,.int .i64 ts,.string hash,.slice ps sigs.length cs] 28)) W->Calls Tryz.prog 107 #[.int .i64 depth,.int .i64 1099511627776] W fun x w'=>x=.returned (.bool (dE depth 1099511627776))/\Below W.heap.size W w'
 h6:∀W,Below (w.alloc (.cells #[.string room,.string aR,.string ah,.bool st,.string key,.int .i64 k,.int .i64 i,.string t,.slice pk ks.length ck,.slice pl l.length cl,.slice pp prev.length cp,.slice pa aD.length ca,.int .i64 depth,.int .i64 ts,.string hash,.slice ps sigs.length cs] 28)).heap.size (w.alloc (.cells #[.string room,.string aR,.string ah,.bool st,.string key,.int .i64 k,.int .i64 i,.string t,.slice pk ks.length ck,.slice pl l.length cl,.slice pp prev.length cp,.slice pa aD.length ca,.int .i64 depth,.int .i64 ts,.string hash,.slice ps sigs.length cs] 28)) W->Calls Tryz.prog 107 #[.int .i64 ts,.int .i64 9007199254740991] W fun x w'=>x=.returned (.bool (dE ts dN))/\Below W.heap.size W w'
 h7:∀W,Below (w.alloc (.cells #[.string room,.string aR,.string ah,.bool st,.string key,.int .i64 k,.int .i64 i,.string t,.slice pk ks.length ck,.slice pl l.length cl,.slice pp prev.length cp,.slice pa aD.length ca,.int .i64 depth,.int .i64 ts,.string hash,.slice ps sigs.length cs] 28)).heap.size (w.alloc (.cells #[.string room,.string aR,.string ah,.bool st,.string key,.int .i64 k,.int .i64 i,.string t,.slice pk ks.length ck,.slice pl l.length cl,.slice pp prev.length cp,.slice pa aD.length ca,.int .i64 depth,.int .i64 ts,.string hash,.slice ps sigs.length cs] 28)) W->Calls Tryz.prog 108 #[.string hash] W fun x w'=>x=.returned (.bool (gL hash))/\Below W.heap.size W w'
 h8:∀W,Below (w.alloc (.cells #[.string room,.string aR,.string ah,.bool st,.string key,.int .i64 k,.int .i64 i,.string t,.slice pk ks.length ck,.slice pl l.length cl,.slice pp prev.length cp,.slice pa aD.length ca,.int .i64 depth,.int .i64 ts,.string hash,.slice ps sigs.length cs] 28)).heap.size (w.alloc (.cells #[.string room,.string aR,.string ah,.bool st,.string key,.int .i64 k,.int .i64 i,.string t,.slice pk ks.length ck,.slice pl l.length cl,.slice pp prev.length cp,.slice pa aD.length ca,.int .i64 depth,.int .i64 ts,.string hash,.slice ps sigs.length cs] 28)) W->Calls Tryz.prog 109 #[.slice ps sigs.length cs] W fun x w'=>x=.returned (.bool (bR sigs))/\Below W.heap.size W w'
theorem O5(room aR ah:ByteArray)(st:Bool)(key:ByteArray)(k i:Int)(t:ByteArray)(ks:List ByteArray)(l:List J)(prev aD:List ByteArray)(depth ts:Int)(hash:ByteArray)(sigs:List (ByteArray×ByteArray))(pk:Option Addr)(ck:Nat)(pl:Option Addr)(cl:Nat)(pp:Option Addr)(cp:Nat)(pa:Option Addr)(ca:Nat)(ps:Option Addr)(cs:Nat)(w:World)(X:O4 room aR ah st key k i t ks l prev aD depth ts hash sigs pk ck pl cl pp cp pa ca ps cs w)(e0:eH ⟨room,aR,ah,st,key,⟨k,i,t,ks,l⟩,prev,aD,depth,ts,hash,sigs⟩=false):
    Calls Tryz.prog 77 #[.agg #[.string room,.string aR,.string ah,.bool st,.string key,.int .i64 k,.int .i64 i,.string t,.slice pk ks.length ck,.slice pl l.length cl,.slice pp prev.length cp,.slice pa aD.length ca,.int .i64 depth,.int .i64 ts,.string hash,.slice ps sigs.length cs]] w fun x w'=>x=.returned (.bool (aS ⟨room,aR,ah,st,key,⟨k,i,t,ks,l⟩,prev,aD,depth,ts,hash,sigs⟩))/\Below w.heap.size w w':=by
 have HS:Hid (aS ⟨room,aR,ah,st,key,⟨k,i,t,ks,l⟩,prev,aD,depth,ts,hash,sigs⟩=false):=by
  show _=_
  unfold aS;simp only[e0];simp
 have H0:=X.h0 _ (Below.refl _ _);rw[e0]at H0;have HC:=X.cells;have nu:Hid (Below w.heap.size w (w.alloc (.cells #[.string room,.string aR,.string ah,.bool st,.string key,.int .i64 k,.int .i64 i,.string t,.slice pk ks.length ck,.slice pl l.length cl,.slice pp prev.length cp,.slice pa aD.length ca,.int .i64 depth,.int .i64 ts,.string hash,.slice ps sigs.length cs] 28))):=X.below;have GC:Hid _:=HC;clear X HC e0;go_enter Tryz.func77,Tryz.ntmps77;go_wp2_with(first
  | (go_at_call 103;refine H0.mono ?_;rintro x w0 ⟨rfl,cK⟩
     have g0:=cK))
 go_ret;exact⟨aj HS.out.symm,av nu.out g0⟩
theorem O6(room aR ah:ByteArray)(st:Bool)(key:ByteArray)(k i:Int)(t:ByteArray)(ks:List ByteArray)(l:List J)(prev aD:List ByteArray)(depth ts:Int)(hash:ByteArray)(sigs:List (ByteArray×ByteArray))(pk:Option Addr)(ck:Nat)(pl:Option Addr)(cl:Nat)(pp:Option Addr)(cp:Nat)(pa:Option Addr)(ca:Nat)(ps:Option Addr)(cs:Nat)(w:World)(X:O4 room aR ah st key k i t ks l prev aD depth ts hash sigs pk ck pl cl pp cp pa ca ps cs w)(e0:eH ⟨room,aR,ah,st,key,⟨k,i,t,ks,l⟩,prev,aD,depth,ts,hash,sigs⟩=true)(e1:gv ⟨room,aR,ah,st,key,⟨k,i,t,ks,l⟩,prev,aD,depth,ts,hash,sigs⟩=false):
    Calls Tryz.prog 77 #[.agg #[.string room,.string aR,.string ah,.bool st,.string key,.int .i64 k,.int .i64 i,.string t,.slice pk ks.length ck,.slice pl l.length cl,.slice pp prev.length cp,.slice pa aD.length ca,.int .i64 depth,.int .i64 ts,.string hash,.slice ps sigs.length cs]] w fun x w'=>x=.returned (.bool (aS ⟨room,aR,ah,st,key,⟨k,i,t,ks,l⟩,prev,aD,depth,ts,hash,sigs⟩))/\Below w.heap.size w w':=by
 have HS:Hid (aS ⟨room,aR,ah,st,key,⟨k,i,t,ks,l⟩,prev,aD,depth,ts,hash,sigs⟩=false):=by
  show _=_
  unfold aS;simp only[e0,e1];simp
 have H0:=X.h0 _ (Below.refl _ _);rw[e0]at H0;have H1:=X.h1;rw[e1]at H1;have HC:=X.cells;have nu:Hid (Below w.heap.size w (w.alloc (.cells #[.string room,.string aR,.string ah,.bool st,.string key,.int .i64 k,.int .i64 i,.string t,.slice pk ks.length ck,.slice pl l.length cl,.slice pp prev.length cp,.slice pa aD.length ca,.int .i64 depth,.int .i64 ts,.string hash,.slice ps sigs.length cs] 28))):=X.below;have G1:Hid _:=H1;have GC:Hid _:=HC;clear X HC e0 e1 H1;go_enter Tryz.func77,Tryz.ntmps77;go_wp2_with(first
  | (go_at_call 104;refine k1.mono ?_;rintro x w1 ⟨rfl,aL⟩
     have g1:=av g0 aL)
  | (go_at_call 103;refine H0.mono ?_;rintro x w0 ⟨rfl,cK⟩
     have g0:=cK;have k1:=G1.out w0 g0;have Bf:=GC.out w0 g0 0 _ rfl;have Bg:=GC.out w0 g0 1 _ rfl;have Bh:=GC.out w0 g0 2 _ rfl;have Bi:=GC.out w0 g0 3 _ rfl;have Bj:=GC.out w0 g0 4 _ rfl;have Bl:=GC.out w0 g0 5 _ rfl;have Bn:=GC.out w0 g0 6 _ rfl;have Bo:=GC.out w0 g0 7 _ rfl;have Bp:=GC.out w0 g0 8 _ rfl;have Bq:=GC.out w0 g0 9 _ rfl;have rU:=GC.out w0 g0 10 _ rfl;have rV:=GC.out w0 g0 11 _ rfl;have rW:=GC.out w0 g0 12 _ rfl;have rX:=GC.out w0 g0 13 _ rfl;have rY:=GC.out w0 g0 14 _ rfl;have rZ:=GC.out w0 g0 15 _ rfl))
 go_ret;exact⟨aj HS.out.symm,av nu.out g1⟩
theorem O7(room aR ah:ByteArray)(st:Bool)(key:ByteArray)(k i:Int)(t:ByteArray)(ks:List ByteArray)(l:List J)(prev aD:List ByteArray)(depth ts:Int)(hash:ByteArray)(sigs:List (ByteArray×ByteArray))(pk:Option Addr)(ck:Nat)(pl:Option Addr)(cl:Nat)(pp:Option Addr)(cp:Nat)(pa:Option Addr)(ca:Nat)(ps:Option Addr)(cs:Nat)(w:World)(X:O4 room aR ah st key k i t ks l prev aD depth ts hash sigs pk ck pl cl pp cp pa ca ps cs w)(e0:eH ⟨room,aR,ah,st,key,⟨k,i,t,ks,l⟩,prev,aD,depth,ts,hash,sigs⟩=true)(e1:gv ⟨room,aR,ah,st,key,⟨k,i,t,ks,l⟩,prev,aD,depth,ts,hash,sigs⟩=true)(e2:eu ⟨k,i,t,ks,l⟩=false):
    Calls Tryz.prog 77 #[.agg #[.string room,.string aR,.string ah,.bool st,.string key,.int .i64 k,.int .i64 i,.string t,.slice pk ks.length ck,.slice pl l.length cl,.slice pp prev.length cp,.slice pa aD.length ca,.int .i64 depth,.int .i64 ts,.string hash,.slice ps sigs.length cs]] w fun x w'=>x=.returned (.bool (aS ⟨room,aR,ah,st,key,⟨k,i,t,ks,l⟩,prev,aD,depth,ts,hash,sigs⟩))/\Below w.heap.size w w':=by
 have HS:Hid (aS ⟨room,aR,ah,st,key,⟨k,i,t,ks,l⟩,prev,aD,depth,ts,hash,sigs⟩=false):=by
  show _=_
  unfold aS;simp only[e0,e1,e2];simp
 have H0:=X.h0 _ (Below.refl _ _);rw[e0]at H0;have H1:=X.h1;rw[e1]at H1;have H2:=X.h2;rw[e2]at H2;have HC:=X.cells;have nu:Hid (Below w.heap.size w (w.alloc (.cells #[.string room,.string aR,.string ah,.bool st,.string key,.int .i64 k,.int .i64 i,.string t,.slice pk ks.length ck,.slice pl l.length cl,.slice pp prev.length cp,.slice pa aD.length ca,.int .i64 depth,.int .i64 ts,.string hash,.slice ps sigs.length cs] 28))):=X.below;have G1:Hid _:=H1;have G2:Hid _:=H2;have GC:Hid _:=HC;clear X HC e0 e1 e2 H1 H2;go_enter Tryz.func77,Tryz.ntmps77;go_wp2_with(first
  | (go_at_call 105;refine k2.mono ?_;rintro x w2 ⟨rfl,aY⟩
     have g2:=av g1 aY)
  | (go_at_call 104;refine k1.mono ?_;rintro x w1 ⟨rfl,aL⟩
     have g1:=av g0 aL;have k2:=G2.out w1 g1;have Dw:=GC.out w1 g1 5 _ rfl;have Dx:=GC.out w1 g1 6 _ rfl;have Dy:=GC.out w1 g1 7 _ rfl;have Dz:=GC.out w1 g1 8 _ rfl;have DC:=GC.out w1 g1 9 _ rfl)
  | (go_at_call 103;refine H0.mono ?_;rintro x w0 ⟨rfl,cK⟩
     have g0:=cK;have k1:=G1.out w0 g0;have Bf:=GC.out w0 g0 0 _ rfl;have Bg:=GC.out w0 g0 1 _ rfl;have Bh:=GC.out w0 g0 2 _ rfl;have Bi:=GC.out w0 g0 3 _ rfl;have Bj:=GC.out w0 g0 4 _ rfl;have Bl:=GC.out w0 g0 5 _ rfl;have Bn:=GC.out w0 g0 6 _ rfl;have Bo:=GC.out w0 g0 7 _ rfl;have Bp:=GC.out w0 g0 8 _ rfl;have Bq:=GC.out w0 g0 9 _ rfl;have rU:=GC.out w0 g0 10 _ rfl;have rV:=GC.out w0 g0 11 _ rfl;have rW:=GC.out w0 g0 12 _ rfl;have rX:=GC.out w0 g0 13 _ rfl;have rY:=GC.out w0 g0 14 _ rfl;have rZ:=GC.out w0 g0 15 _ rfl))
 go_ret;exact⟨aj HS.out.symm,av nu.out g2⟩
end Go.Proofs.YtldegjjaknelgaaGreatDoor

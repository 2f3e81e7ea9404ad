/- A part. -/
import Derived.Test.YtldegjjaknelgaaGreatDoorAR13
set_option maxRecDepth 100000
set_option maxHeartbeats 64000000
namespace Go.Proofs.YtldegjjaknelgaaGreatDoor
open Go.RowKit
abbrev MP(K:Nat)(w:World):Prop:=∀w',Below K w w'->Lib.Utf8Tabs (Tryz.laysValid_ren.g 3) (Tryz.laysValid_ren.g 4) w'
theorem gH{a b c:World}(h:Below a.heap.size a b)(g:Below b.heap.size b c):Below a.heap.size a c:=h.trans ⟨g.os,g.tape,g.output,g.size,fun k hk=>g.block k (by have:=h.size;omega)⟩
theorem MP.below{w w':World}(h:MP w.heap.size w)(hb:Below w.heap.size w w'):MP w'.heap.size w':=fun w2 h2=>h w2 (gH hb h2)
theorem MQ{t:ByteArray}:t.toList.isEmpty=decide (t.size=0):=by
 rw[Lib.toList_data,Bool.eq_iff_iff,List.isEmpty_iff,decide_eq_true_eq,<-List.length_eq_zero_iff]
 rfl
theorem jh{w:World}{cs:List Value}{t:TypeId}(j:Nat)(v:Value)(h:cs[j]?=some v):(w.alloc (.cells cs.toArray t)).cell? ⟨w.heap.size,j,none⟩=some v:=a_ (heap_alloc_new _ _) j v h
theorem MR(e:Ev)(p:Pt)(w:World)(hk:e.key.size<=1000000000)(hT:MP w.heap.size w):
    Calls Tryz.prog 104 #[dZ e p] w fun x w'=>x=.returned (.bool (fH e))/\Below w.heap.size w w':=by
 obtain⟨room,aK,ag,st,key,⟨k,i,t,ks,l⟩,prev,aA,depth,ts,hash,sigs⟩:=e;obtain⟨pk,ck,pl,cl,pp,cp,pa,ca,ps,cs⟩:=p;simp only at hk;have HR:Hid (∀b,fH ⟨room,aK,ag,b,key,⟨k,i,t,ks,l⟩,prev,aA,depth,ts,hash,sigs⟩=if b=true then decide (key.size<=128)&&Lib.validD key.data.toList else decide (key.size=0)):=fun _=>rfl;simp only[dZ,aB,J.kind,J.int,J.text,J.keys,J.list];obtain⟨C,hC⟩:∃C,C=Obj.cells #[.string room,.string aK,.string ag,.bool st,.string key,.int .i64 k,.int .i64 i,.string t,.slice pk ks.length ck,.slice pl l.length cl,.slice pp prev.length cp,.slice pa aA.length ca,.int .i64 depth,.int .i64 ts,.string hash,.slice ps sigs.length cs] 28:=⟨_,rfl⟩;have bS:Below w.heap.size w (w.alloc C):=(Below.refl _ _).alloc (Nat.le_refl _) _;have cV:Calls Tryz.prog 131 #[.string key] (w.alloc C) _:=Any.utf8_ValidString Tryz.laysValid key (w.alloc C) (by omega) (hT _ bS);rw[hC]at cV bS;clear hC
 cases st with
 | false=>
  have h:=HR.out false;go_enter Tryz.func104,Tryz.ntmps104;go_wp2;go_ret;refine⟨ai ?_,bS⟩;rw[h,if_neg (by decide)];exact MQ
 | true=>
  by_cases h1:key.size<=128
  ·have h1i:(key.size:Int)<=128:=by omega
   go_enter Tryz.func104,Tryz.ntmps104;go_wp2_with(go_at_call 131;refine cV.mono ?_;rintro e w' ⟨rfl,hb⟩);go_ret;refine⟨ai ?_,gH bS hb⟩;rw[HR.out,if_pos rfl,decide_eq_true h1,Bool.true_and]
  ·have h1i:¬(key.size:Int)<=128:=by omega
   go_enter Tryz.func104,Tryz.ntmps104;go_wp2;go_ret;refine⟨ai ?_,bS⟩;rw[HR.out,if_pos rfl,decide_eq_false h1,Bool.false_and]
theorem IU(e:Ev)(p:Pt)(w:World)(h1:e.room.size<=1000000000)(h2:e.ag.size<=1000000000)(h3:e.aK.size<=1000000000):
    Calls Tryz.prog 103 #[dZ e p] w fun x w'=>x=.returned (.bool (dU e))/\Below w.heap.size w w':=by
 obtain⟨room,aK,ag,st,key,⟨k,i,t,ks,l⟩,prev,aA,depth,ts,hash,sigs⟩:=e;obtain⟨pk,ck,pl,cl,pp,cp,pa,ca,ps,cs⟩:=p;simp only at h1 h2 h3;have HR:Hid (dU ⟨room,aK,ag,st,key,⟨k,i,t,ks,l⟩,prev,aA,depth,ts,hash,sigs⟩=((Id.parts 33 room).2.2&&(Id.parts 64 ag).2.2&&Id.aK aK)):=rfl;simp only[dZ,aB,J.kind,J.int,J.text,J.keys,J.list];obtain⟨C,hC⟩:∃C,C=Obj.cells #[.string room,.string aK,.string ag,.bool st,.string key,.int .i64 k,.int .i64 i,.string t,.slice pk ks.length ck,.slice pl l.length cl,.slice pp prev.length cp,.slice pa aA.length ca,.int .i64 depth,.int .i64 ts,.string hash,.slice ps sigs.length cs] 28:=⟨_,rfl⟩;have bS:Below w.heap.size w (w.alloc C):=(Below.refl _ _).alloc (Nat.le_refl _) _;have hcA:∀W,Below (w.alloc C).heap.size (w.alloc C) W->W.cell? ⟨w.heap.size,2,none⟩=some (.string ag)/\W.cell? ⟨w.heap.size,1,none⟩=some (.string aK):=fun W hW=>by
  have hb:=World.cell?_of_block (a:=⟨w.heap.size,2,none⟩) (hW.block w.heap.size (by simp));have FX:=World.cell?_of_block (a:=⟨w.heap.size,1,none⟩) (hW.block w.heap.size (by simp));rw[hb,FX,hC];exact⟨jh (cs:= [_,_,_,_,_,_,_,_,_,_,_,_,_,_,_,_]) 2 _ rfl,jh (cs:= [_,_,_,_,_,_,_,_,_,_,_,_,_,_,_,_]) 1 _ rfl⟩
 have cR:=Id.Dh room (w.alloc C) (by omega);have UW:Hid (∀W,Below (w.alloc C).heap.size (w.alloc C) W->W.cell? ⟨w.heap.size,2,none⟩=some (.string ag)/\W.cell? ⟨w.heap.size,1,none⟩=some (.string aK)):=hcA;have l_:Hid (Below w.heap.size w (w.alloc C)):=bS;clear hcA bS;unfold Id.told at cR;generalize Id.parts 33 room=R at cR HR;obtain⟨r1,r2,r3⟩:=R;have hu:=fun W=>Id.oM ag W (by omega);unfold Id.told at hu;generalize Id.parts 64 ag=U at hu HR;obtain⟨u1,u2,u3⟩:=U;simp only at cR hu HR;rw[hC]at cR UW l_;clear hC;go_enter Tryz.func103,Tryz.ntmps103
 cases r3<;>cases u3
 all_goals
  go_wp2_with(first
   | (go_at_call 119;refine cR.mono ?_;rintro e w1 ⟨rfl,aP⟩;have Wp:=(UW.out w1 aP).1;have hU:=hu w1)
   | (go_at_call 84;refine hU.mono ?_;rintro e w2 ⟨rfl,aT⟩;have PK:=(UW.out w2 (gH aP aT)).2;have hTy:=Id.Dc aK w2 (by omega))
   | (go_at_call 130;refine hTy.mono ?_;rintro e w3 ⟨rfl,dA⟩))
  go_ret
 ·exact⟨ai HR.out.symm,gH l_.out (gH aP aT)⟩
 ·exact⟨ai HR.out.symm,gH l_.out (gH aP aT)⟩
 ·exact⟨ai HR.out.symm,gH l_.out (gH aP aT)⟩
 ·exact⟨ai HR.out.symm,gH l_.out (gH aP (gH aT dA))⟩
theorem IV(a b:ByteArray):Op.bytesLess a.toList b.toList=iN a b:=by
 rw[Lib.toList_data,Lib.toList_data];unfold iN;generalize a.data.toList=x;generalize b.data.toList=y
 induction x generalizing y with
 | nil=>cases y<;>simp[Op.bytesLess,lessB]
 | cons c x ih=>
  cases y with
  | nil=>simp[Op.bytesLess,lessB]
  | cons d y=>
   unfold Op.bytesLess lessB;rw[ih y]
   by_cases h1:c<d
   ·simp[h1]
   ·by_cases h2:c=d
    ·subst h2;simp
    ·simp[h1,h2]
theorem B_:∀(l:List (ByteArray×ByteArray)),riseS l=true↔∀j,0<j->j<l.length->iN (l.getD (j - 1) (aN,aN)).1 (l.getD j (aN,aN)).1=true
 | []=>⟨fun _ j _ hj=>absurd hj (by simp),fun _=>rfl⟩
 | [a]=>⟨fun _ j h0 hj=>absurd hj (by simp;omega),fun _=>rfl⟩
 | a::b::r=>by
  unfold riseS;rw[Bool.and_eq_true,B_ (b::r)]
  constructor
  ·rintro⟨h1,h2⟩ j h0 hj
   match j,h0,hj with
   | 1,_,_=>simpa using h1
   | j+2,_,hj=>
    have:=h2 (j+1) (by omega) (by simpa using hj);simpa using this
  ·intro h;refine⟨by simpa using h 1 (by omega) (by simp),fun j h0 hj=> ?_⟩;have:=h (j+1) (by omega) (by simpa using hj)
   match j,h0 with
   | j+1,_=>simpa using this
def qD(s:ByteArray×ByteArray):Bool:=Id.Bp s.1&&fU s.2
theorem wh{l:List (ByteArray×ByteArray)}(hl:l.length<=4)(h:∀j,j<l.length->qD (l.getD j (aN,aN))=true/\(0<j->iN (l.getD (j - 1) (aN,aN)).1 (l.getD j (aN,aN)).1=true)):bJ l=true:=by
 unfold bJ;rw[Bool.and_eq_true,Bool.and_eq_true,decide_eq_true_eq];refine⟨⟨hl, ?_⟩,(B_ l).2 fun j h0 hj=>(h j hj).2 h0⟩;rw[List.all_eq_true];intro x hx;obtain⟨j,hj,rfl⟩:=List.getElem_of_mem hx;have:=(h j hj).1;rw[List.getD_eq_getElem?_getD,List.getElem?_eq_getElem hj]at this;exact this
theorem nY{l:List (ByteArray×ByteArray)}{j:Nat}(hj:j<l.length)(h:qD (l.getD j (aN,aN))=false):bJ l=false:=by
 cases hs:bJ l with
 | false=>rfl
 | true=>
  unfold bJ at hs;rw[Bool.and_eq_true,Bool.and_eq_true,List.all_eq_true]at hs;have:=hs.1.2 (l.getD j (aN,aN)) (by rw[List.getD_eq_getElem?_getD,List.getElem?_eq_getElem hj];exact List.getElem_mem _);unfold qD at h;rw[h]at this
  cases this
theorem qE{l:List (ByteArray×ByteArray)}{j:Nat}(h0:0<j)(hj:j<l.length)(h:iN (l.getD (j - 1) (aN,aN)).1 (l.getD j (aN,aN)).1=false):bJ l=false:=by
 cases hs:bJ l with
 | false=>rfl
 | true=>
  unfold bJ at hs;rw[Bool.and_eq_true]at hs;rw[(B_ l).1 hs.2 j h0 hj]at h
  cases h
theorem below_drewN{B:Nat}{a b:World}(h:Below B a b)(n:Nat):Below B a (b.drewN n):=⟨h.os,h.tape,h.output,h.size,h.block⟩
theorem mY{w:World}{a b:Value}{t:TypeId}{W:World}(hW:Below (w.alloc (.cells #[a,b] t)).heap.size (w.alloc (.cells #[a,b] t)) W):W.cell? ⟨w.heap.size,0,none⟩=some a/\W.cell? ⟨w.heap.size,1,none⟩=some b:=by
 have h0:=World.cell?_of_block (a:=⟨w.heap.size,0,none⟩) (hW.block w.heap.size (by simp));have h1:=World.cell?_of_block (a:=⟨w.heap.size,1,none⟩) (hW.block w.heap.size (by simp));rw[h0,h1];exact⟨jh (cs:= [_,_]) 0 _ rfl,jh (cs:= [_,_]) 1 _ rfl⟩
theorem IW{O:Nat->Prop}{l:List (ByteArray×ByteArray)}{p:Option Addr}{c:Nat}{w:World}(gW:Dv O w p c l)(hO:∀k,O k->k<w.heap.size)(hl:l.length<=100000)(hz:∀x∈l,x.1.size<=1000000000/\x.2.size<=1000000000):
    Calls Tryz.prog 109 #[.slice p l.length c] w fun x w'=>x=.returned (.bool (bJ l))/\Below w.heap.size w w':=by
 obtain⟨n,hn⟩:∃n,l.length=n:=⟨_,rfl⟩;have HN:Hid (l.length=n):=hn;have Mt:=gW.1;rw[hn]at hl Mt ⊢;clear hn
 by_cases h4:(4:Int)<(n:Int)
 ·have HF:Hid (bJ l=false):=by
    show _=_
    unfold bJ;rw[HN.out,decide_eq_false (by omega),Bool.false_and,Bool.false_and]
  go_enter Tryz.func109,Tryz.ntmps109;go_wp2;go_ret;exact⟨ai HF.out.symm,Below.refl _ _⟩
 go_enter Tryz.func109,Tryz.ntmps109;go_wp2
 go_loopw [10] (fun i wr=>∃k:Nat,i=.int .i64 k/\k<=n/\Hid (∀j,j<k->qD (l.getD j (aN,aN))=true/\(0<j->iN (l.getD (j - 1) (aN,aN)).1 (l.getD j (aN,aN)).1=true))/\Below w.heap.size w wr) (fun i _=>n - (intOf i).toNat)
 case atStart=>exact⟨0,rfl,Nat.zero_le _,fun j hj=>absurd hj (by omega),Below.refl _ _⟩
 case round=>
  obtain⟨k,rfl,hk,HG,hb⟩:=hrel
  by_cases bH:k<n
  ·have Ob:(k:Int)<(n:Int):=by omega
   have fG:k<l.length:=by rw[HN.out];exact bH
   have NR:Hid (k<l.length):=fG;obtain⟨b,o,hp,mG,wL,mE⟩:=gW.2 k fG;have hcP:Hid (∀j,j<l.length->∀W:World,Below w.heap.size w W->W.cell? ⟨b,o+j*2,none⟩=some (.string (l.getD j (aN,aN)).1)):=by
    intro j hj W hW;obtain⟨b',o',hp',hO',J5,Om⟩:=gW.2 j hj;rw[hp]at hp'
    cases hp'
    exact(World.cell?_of_block (a:=⟨b,o+j*2,none⟩) (hW.block _ (hO _ hO'))).trans J5
   subst hp;have hx:=hz (l.getD k (aN,aN)) (by rw[List.getD_eq_getElem?_getD,List.getElem?_eq_getElem fG];exact List.getElem_mem _);have d1:wr.cell? ⟨b,o+k*2,none⟩=some (.string (l.getD k (aN,aN)).1):=(World.cell?_of_block (a:=⟨b,o+k*2,none⟩) (hb.block _ (hO _ mG))).trans wL;have d2:wr.cell? ⟨b,o+k*2+1,none⟩=some (.string (l.getD k (aN,aN)).2):=(World.cell?_of_block (a:=⟨b,o+k*2+1,none⟩) (hb.block _ (hO _ mG))).trans mE;have uI:Hid (qD (l.getD k (aN,aN))=(Id.Bp (l.getD k (aN,aN)).1&&fU (l.getD k (aN,aN)).2)):=rfl;obtain⟨x1,Gv⟩:∃x,(l.getD k (aN,aN)).1=x:=⟨_,rfl⟩;obtain⟨x2,NM⟩:∃x,(l.getD k (aN,aN)).2=x:=⟨_,rfl⟩;have KC:Hid ((l.getD k (aN,aN)).1=x1):=Gv;rw[Gv]at d1 hx uI;rw[NM]at d2 hx uI;clear wL mE Gv NM fG;have bS:Below w.heap.size w (wr.alloc (.cells #[.string x1,.string x2] 54)):=hb.alloc hb.size _;have hS:=Id.qO x1 (wr.alloc (.cells #[.string x1,.string x2] 54)) (by omega);have hD:=fun W=>yz x2 W hx.2
   cases hs:Id.Bp x1 with
   | false=>
    have HF:Hid (bJ l=false):=nY NR.out (by rw[uI.out,hs];rfl);rw[hs]at hS;go_wp2_with(go_at_call 134;refine hS.mono ?_;rintro x w1 ⟨rfl,aP⟩);go_ret;exact⟨ai HF.out.symm,bS.trans ⟨aP.os,aP.tape,aP.output,aP.size,fun k hk=>aP.block k (by have:=bS.size;omega)⟩⟩
   | true=>
    rw[hs]at hS
    cases hd:fU x2 with
    | false=>
     have HF:Hid (bJ l=false):=nY NR.out (by rw[uI.out,hs,hd];rfl);rw[hd]at hD;go_wp2_with(first
      | (go_at_call 134;refine hS.mono ?_;rintro x w1 ⟨rfl,aP⟩;have e1:=(mY aP).2;have gJ:=hD w1)
      | (go_at_call 108;refine gJ.mono ?_;rintro x w2 ⟨rfl,aT⟩))
     go_ret;exact⟨ai HF.out.symm,bS.trans ⟨aP.os,aP.tape,aP.output,aP.size,fun k hk=>aP.block k (by have:=bS.size;omega)⟩ |>.trans ⟨aT.os,aT.tape,aT.output,aT.size,fun k hk=>aT.block k (by have:=bS.size;have:=aP.size;omega)⟩⟩
    | true=>
     rw[hd]at hD;have P8:Hid (qD (l.getD k (aN,aN))=true):=by show _=_;rw[uI.out,hs,hd];rfl
     have yh:Hid (∀w1 w2,Below (wr.alloc (.cells #[.string x1,.string x2] 54)).heap.size (wr.alloc (.cells #[.string x1,.string x2] 54)) w1->Below w1.heap.size w1 w2->Below w.heap.size w w2):=fun w1 w2 aP aT=>
      bS.trans ⟨aP.os,aP.tape,aP.output,aP.size,fun k hk=>aP.block k (by have:=bS.size;omega)⟩ |>.trans ⟨aT.os,aT.tape,aT.output,aT.size,fun k hk=>aT.block k (by have:=bS.size;have:=aP.size;omega)⟩
     clear bS
     cases k with
     | zero=>
      simp only[Nat.zero_mul,Nat.add_zero]at d1 d2;go_wp2_with(first
       | (go_at_call 134;refine hS.mono ?_;rintro x w1 ⟨rfl,aP⟩;have e1:=(mY aP).2;have gJ:=hD w1)
       | (go_at_call 108;refine gJ.mono ?_;rintro x w2 ⟨rfl,aT⟩))
      go_quiet (fail);go_wp2;go_roundw
      case rel=>exact⟨1,by go_num,bH,fun j hj=>(by
          obtain rfl:j=0:=(by omega);exact⟨P8.out,fun h=>absurd h (by omega)⟩),below_drewN (yh.out w1 w2 aP aT) _⟩
      case measure=>simp[intOf];omega
     | succ m=>
      have zu:m<l.length:=by have:=NR.out;omega
      have hm0:(m:Int)<(n:Int):=by omega
      obtain⟨y1,Rl⟩:∃x,(l.getD m (aN,aN)).1=x:=⟨_,rfl⟩;have HY1:Hid ((l.getD m (aN,aN)).1=y1):=Rl;have hcY:=hcP.out m zu;rw[Rl]at hcY;have WN:Hid (∀W:World,Below w.heap.size w W->W.cell? ⟨b,o+m*2,none⟩=some (.string y1)):=hcY;clear Rl hcY zu;have hgt:decide ((0:Int)<((m+1:Nat):Int))=true:=decide_eq_true (by omega)
      cases uf:iN y1 x1 with
      | true=>
       have KV:Op.bytesLess y1.toList x1.toList=true:=by rw[IV];exact uf
       have w_:Hid (iN y1 x1=true):=uf;clear uf;go_wp2_with(first
        | (go_at_call 134;refine hS.mono ?_;rintro x w1 ⟨rfl,aP⟩;have e1:=(mY aP).2;have gJ:=hD w1)
        | (go_at_call 108;refine gJ.mono ?_;rintro x w2 ⟨rfl,aT⟩
           have e2:=(mY (gH aP aT)).1;have e3:=WN.out w2 (yh.out w1 w2 aP aT)))
       go_quiet (fail);go_wp2;go_roundw
       case rel=>exact⟨m+2,by go_num,by omega,fun j hj=>(Nat.lt_succ_iff_lt_or_eq.1 hj).elim (HG.out j) fun e=>by subst e;exact⟨P8.out,fun _=>by rw[Nat.add_sub_cancel,KC.out,HY1.out];exact w_.out⟩,below_drewN (yh.out w1 w2 aP aT) _⟩
       case measure=>simp[intOf];omega
      | false=>
       have KV:Op.bytesLess y1.toList x1.toList=false:=by rw[IV];exact uf
       have HF:Hid (bJ l=false):=qE (j:=m+1) (by omega) NR.out (by rw[Nat.add_sub_cancel,KC.out,HY1.out];exact uf);clear uf;go_wp2_with(first
        | (go_at_call 134;refine hS.mono ?_;rintro x w1 ⟨rfl,aP⟩;have e1:=(mY aP).2;have gJ:=hD w1)
        | (go_at_call 108;refine gJ.mono ?_;rintro x w2 ⟨rfl,aT⟩
           have e2:=(mY (gH aP aT)).1;have e3:=WN.out w2 (yh.out w1 w2 aP aT)))
       go_quiet (fail);go_wp2;go_ret;exact⟨ai HF.out.symm,below_drewN (yh.out w1 w2 aP aT) _⟩
  ·obtain rfl:k=n:=by omega
   have HT:Hid (bJ l=true):=wh (by rw[HN.out];omega) (by rw[HN.out];exact HG.out);go_wp2;go_ret;exact⟨ai HT.out.symm,hb⟩
theorem yE{O:Nat->Prop}{l:List (ByteArray×ByteArray)}{p:Option Addr}{c:Nat}{w:World}(gW:Dv O w p c l)(hO:∀k,O k->k<w.heap.size)(hl:l.length<=100000):
    Calls Tryz.prog 118 #[.slice p l.length c] w fun x w'=>(∃pk nk ck pl nl cl,x=.returned (.agg #[.int .i64 5,.int .i64 0,.string aN,.slice pk nk ck,.slice pl nl cl])/\isJ (qx w w') w' (pM l) [.int .i64 5,.int .i64 0,.string aN,.slice pk nk ck,.slice pl nl cl])/\Below w.heap.size w w':=by
 obtain⟨n,hn⟩:∃n,l.length=n:=⟨_,rfl⟩;have HN:Hid (l.length=n):=hn;have Mt:=gW.1;rw[hn]at hl Mt ⊢;clear hn;obtain⟨WB,lW⟩:∃WB,WB=(w.alloc (.cells #[.int .i64 0,.int .i64 0,.string ⟨#[]⟩,.slice none 0 0,.slice none 0 0] 25)).alloc (.cells #[.int .i64 5,.int .i64 0,.string ⟨#[]⟩,.slice none 0 0,.slice none 0 0] 25):=⟨_,rfl⟩;have bX:Below w.heap.size w WB:=by rw[lW];exact((Below.refl _ _).alloc (Nat.le_refl _) _).alloc (by simp) _
 have iI:WB.heap[w.heap.size]?=some (.cells #[.int .i64 0,.int .i64 0,.string ⟨#[]⟩,.slice none 0 0,.slice none 0 0] 25 (0,0)):=by rw[lW];exact uM _ _
 have rq:TI (fun _=>False) (w.heap.size+2) (w.heap.size+1) 5 WB [] [] (.slice none 0 0) (.slice none 0 0) WB:=TI.start (by rw[lW];simp) (by omega) (fun k h=>h.elim) (by rw[lW];exact rh _ _);go_enter Tryz.func118,Tryz.ntmps118;go_wp2;rw[<-lW];clear lW
 go_loopw [9] (fun i wr=>∃(k:Nat) (vk vl:Value),i=.int .i64 k/\k<=n/\TI (fun _=>False) (w.heap.size+2) (w.heap.size+1) 5 WB ((l.take k).map (·.1)) ((l.take k).map fun s=>d_ s.2) vk vl wr) (fun i _=>n - (intOf i).toNat)
 case atStart=>exact⟨0,_,_,rfl,Nat.zero_le _,rq⟩
 case round=>
  clear rq;obtain⟨k,vk,vl,rfl,hk,mV⟩:=hrel
  by_cases bH:k<n
  ·obtain⟨ks,qf⟩:∃ks,(l.take k).map (·.1)=ks:=⟨_,rfl⟩;obtain⟨js,l9⟩:∃js,((l.take k).map fun s=>d_ s.2)=js:=⟨_,rfl⟩;have zee:ks.length=k:=by rw[<-qf,List.length_map,List.length_take,HN.out];omega
   have hjl:js.length=k:=by rw[<-l9,List.length_map,List.length_take,HN.out];omega
   have Ob:(k:Int)<(n:Int):=by omega
   have fG:k<l.length:=by rw[HN.out];exact bH
   obtain⟨b,of,Wy,mG,wL,mE⟩:=gW.2 k fG;subst Wy;have ze:wr.heap[b]?=w.heap[b]?:=by
    have h1:=hO _ mG;have h2:=mV.IK;exact(mV.fA.block _ (by omega) (by unfold One;omega)).trans (bX.block _ h1)
   have d1:=(World.cell?_of_block (a:=⟨b,of+k*2,none⟩) ze).trans wL;have d2:=(World.cell?_of_block (a:=⟨b,of+k*2+1,none⟩) ze).trans mE;obtain⟨x,hx⟩:∃x,(l.getD k (aN,aN)).1=x:=⟨_,rfl⟩;obtain⟨u,hu⟩:∃u,(l.getD k (aN,aN)).2=u:=⟨_,rfl⟩;have HK1:Hid ((l.take (k+1)).map (·.1)=ks++ [x]):=by
    show _=_
    rw[List.take_add_one,List.getElem?_eq_getElem fG,List.map_append,qf,<-hx,List.getD_eq_getElem?_getD,List.getElem?_eq_getElem fG];rfl
   have WO:Hid (((l.take (k+1)).map fun s=>d_ s.2)=js++ [d_ u]):=by
    show _=_
    rw[List.take_add_one,List.getElem?_eq_getElem fG,List.map_append,l9,<-hu,List.getD_eq_getElem?_getD,List.getElem?_eq_getElem fG];rfl
   rw[hx]at d1;rw[hu]at d2;rw[qf,l9]at mV;obtain⟨ql,zD,vO⟩:∃q c,vl=.slice q js.length c:=by
    obtain⟨xs0,zH,_⟩:=mV.eG;exact dN zH
   obtain⟨qk,R8,uw⟩:=dN mV.keys;have h1:=(mV.alloc (.cells #[.string x,.string u] 54)).alloc (.cells #[.string x] 9);have zef:=mV.size;have hEb:Et (fun _=>False) (w.heap.size+2) vk vl ((wr.alloc (.cells #[.string x,.string u] 54)).alloc (.cells #[.string x] 9)) wr.heap.size:=
    .inr ⟨zef,by simp;omega,fun e=>by have:=(aJ mV.keys _ e).2;omega,fun e=>by
     obtain⟨xs0,zH,_⟩:=mV.eG;have:=(aJ zH _ e).2;omega⟩
   have CS:((wr.alloc (.cells #[.string x,.string u] 54)).alloc (.cells #[.string x] 9)).heap[wr.heap.size]?=some (.cells #[.string x,.string u] 54 (0,0)):=by
    rw[Below.heap_alloc _ _ _ (by simp)];exact heap_alloc_new _ _
   have c3:=fC (mV.alloc (.cells #[.string x,.string u] 54)).obj;have gX:(wr.alloc (.cells #[.string x,.string u] 54)).cell? ⟨wr.heap.size,0,none⟩=some (.string x):=jh (cs:= [_,_]) 0 _ rfl;have Kl:ks.length<=100000:=by omega
   have hjb:js.length<=100000:=by omega
   have HJL:Hid (js.length=k):=hjl;clear ze wL mE hx hu qf l9 fG hjl zee;subst uw vO;go_wp2_with(at_builtin;refine vY rfl _ _ 22 rfl (w.heap.size+2) 9 (.string ⟨#[]⟩) 1 16 Tryz.underlying22 Tryz.jd rfl (by decide) (by decide) _ ks.length (ks.map Value.string) rfl h1.keys _ [.string x] rfl rfl (KA (by simp)) (Ew x) (by omega) h1.size ?_;intro OG W2 eZ qg oQ;obtain⟨d3,f3,h3,wQ⟩:=h1.key eZ qg oQ;obtain⟨b2,c2,eH⟩:=gv eZ;subst eH);obtain⟨WQ,PX⟩:=wQ _ hEb;have WR:=PX.trans CS;clear wQ h1 CS PX hEb eZ qg oQ d3 f3 c3 gX;obtain⟨W3,vZ⟩:∃W3,W3=W2.setCell ⟨w.heap.size+1,3,none⟩ (.slice (some ⟨b2,0,none⟩) (ks.length+1) c2):=⟨_,rfl⟩;rw[<-vZ]at h3 WQ WR ⊢;clear vZ;have hd:=h3.drew;have hT:=fM u W3.drew;have c0:=bg hd.obj;have OU:wr.heap.size<W3.heap.size:=(Array.getElem?_eq_some_iff.1 WR).1;have HVE:Hid ((Value.slice ql js.length zD).ownBlock≠some wr.heap.size):=by
    rcases WQ with h| h
    ·exact h.elim
    ·exact h.2.2.2
   clear WQ;have Mw:Hid (∀W:World,W.heap[wr.heap.size]?=some (.cells #[.string x,.string u] 54 (0,0))->W.cell? ⟨wr.heap.size,1,none⟩=some (.string u)):=fun W hW=>a_ (cur:= [_,_]) hW 1 _ rfl;have f_:W3.drew.heap[wr.heap.size]?=some (.cells #[.string x,.string u] 54 (0,0)):=WR;refine aF (by kernel_rfl) (fun W=>W.heap[wr.heap.size]?=some (.cells #[.string x,.string u] 54 (0,0))) ?_;change wpIn _ _ _ _ _ _ _ _ (World.drew _);refine aa (i:=0) (d:=some 20) rfl ?_;refine aa (i:=2) (d:=some 22) rfl ?_;refine az (i:=3) (d:=some 23) rfl (by(intro wq hq;have q0:=Mw.out wq hq;go_simp;first| done| with_reducible rfl)) ?_;refine bY (i:=1) (j:=4) f_ (by kernel_rfl) rfl rfl (by rfl) (by rfl) ?_ ?_
   ·intro K hK;go_simp;refine hK _ _ ?_;clear hK K;refine ak (i:=4) f_ rfl ?_;intro K hK;go_simp;go_wp2_with(go_at_call 117;refine hT.mono ?_;rintro x' w3 ⟨rfl,dA⟩);have h4:=hd.more dA;have hA:=h4.alloc (.cells #[.int .i64 3,.int .i64 0,.string u,.slice none 0 0,.slice none 0 0] 25);obtain⟨xs,bM,eH⟩:=hA.eG;have c1:=bg h4.obj;have KX:=bg hA.obj;have iO:=(dA.block wr.heap.size OU).trans f_;have WS:wr.heap.size<w3.heap.size:=Nat.lt_of_lt_of_le OU dA.size;have kM:=(Below.heap_alloc w3 (.cells #[.int .i64 3,.int .i64 0,.string u,.slice none 0 0,.slice none 0 0] 25) _ WS).trans iO;refine ak (i:=5) iO rfl ?_;intro K hK;go_simp;refine hK _ _ ?_;clear hK K;refine ak (i:=6) kM rfl ?_;intro K hK;refine aR (.tmp 21) (.tmp 25) 23 rfl (w.heap.size+2) 25 (.agg #[.int .i64 0,.int .i64 0,.string ⟨#[]⟩,.slice none 0 0,.slice none 0 0]) 5 80 Tryz.underlying23 Tryz.dY rfl (by decide) (by decide) _ js.length xs rfl bM _ [.int .i64 3,.int .i64 0,.string u,.slice none 0 0,.slice none 0 0] rfl rfl (jL rfl) (mW u) (by omega) hA.size ?_;intro oJ W4 bG nN gL;refine hK _ _ ?_;clear hK K;obtain⟨b4,c4,vN⟩:=gv bG;subst vN;obtain⟨g0,g1,lX⟩:=hA.push bM eH (dO _ _ u) bG nN gL;have iD:=(nN.block wr.heap.size (by simp;omega) fun e=>HVE.out e.symm).trans kM;have K3:av (One (w.heap.size+1)) W4 (W4.setCell ⟨w.heap.size+1,4,none⟩ (.slice (some ⟨b4,0,none⟩) (js.length+1) c4)):=av.setCell (av.refl _ _) (fun _=>(rfl:w.heap.size+1=w.heap.size+1)) _;have fB:=(K3.block wr.heap.size (Array.getElem?_eq_some_iff.1 iD).1 (by unfold One;omega)).trans iD;clear bG nN gL;refine aa (i:=7) (d:=some 27) rfl ?_;refine ak (i:=8) iD rfl ?_;intro K hK;go_simp;refine hK _ _ ?_;clear hK K;refine aD fB (by kernel_rfl) ?_ _;clear g0 g1 c0 c1 KX f_ iO kM iD fB;go_wp2;go_roundw
    case rel=>exact⟨k+1,_,_,by go_num,bH,by rw[HK1.out,WO.out];exact lX⟩
    case measure=>simp[intOf];omega
   ·intro K hK;go_simp;go_wp2_with(go_at_call 117;refine hT.mono ?_;rintro x' w3 ⟨rfl,dA⟩);have h4:=hd.more dA;have hA:=h4.alloc (.cells #[.int .i64 3,.int .i64 0,.string u,.slice none 0 0,.slice none 0 0] 25);obtain⟨xs,bM,eH⟩:=hA.eG;have c1:=bg h4.obj;have KX:=bg hA.obj;have iO:=(dA.block wr.heap.size OU).trans f_;have WS:wr.heap.size<w3.heap.size:=Nat.lt_of_lt_of_le OU dA.size;have kM:=(Below.heap_alloc w3 (.cells #[.int .i64 3,.int .i64 0,.string u,.slice none 0 0,.slice none 0 0] 25) _ WS).trans iO;refine bY (i:=1) (j:=5) iO (by kernel_rfl) rfl rfl (by rfl) (by rfl) ?_ ?_
    ·intro K hK;go_simp;refine hK _ _ ?_;clear hK K;refine ak (i:=5) iO rfl ?_;intro K hK;go_simp;refine hK _ _ ?_;clear hK K;refine ak (i:=6) kM rfl ?_;intro K hK;refine aR (.tmp 21) (.tmp 25) 23 rfl (w.heap.size+2) 25 (.agg #[.int .i64 0,.int .i64 0,.string ⟨#[]⟩,.slice none 0 0,.slice none 0 0]) 5 80 Tryz.underlying23 Tryz.dY rfl (by decide) (by decide) _ js.length xs rfl bM _ [.int .i64 3,.int .i64 0,.string u,.slice none 0 0,.slice none 0 0] rfl rfl (jL rfl) (mW u) (by omega) hA.size ?_;intro oJ W4 bG nN gL;refine hK _ _ ?_;clear hK K;obtain⟨b4,c4,vN⟩:=gv bG;subst vN;obtain⟨g0,g1,lX⟩:=hA.push bM eH (dO _ _ u) bG nN gL;have iD:=(nN.block wr.heap.size (by simp;omega) fun e=>HVE.out e.symm).trans kM;have K3:av (One (w.heap.size+1)) W4 (W4.setCell ⟨w.heap.size+1,4,none⟩ (.slice (some ⟨b4,0,none⟩) (js.length+1) c4)):=av.setCell (av.refl _ _) (fun _=>(rfl:w.heap.size+1=w.heap.size+1)) _;have fB:=(K3.block wr.heap.size (Array.getElem?_eq_some_iff.1 iD).1 (by unfold One;omega)).trans iD;clear bG nN gL;refine aa (i:=7) (d:=some 27) rfl ?_;refine ak (i:=8) iD rfl ?_;intro K hK;go_simp;refine hK _ _ ?_;clear hK K;refine aD fB (by kernel_rfl) ?_ _;clear g0 g1 c0 c1 KX f_ iO kM iD fB;go_wp2;go_roundw
     case rel=>exact⟨k+1,_,_,by go_num,bH,by rw[HK1.out,WO.out];exact lX⟩
     case measure=>simp[intOf];omega
    ·intro K hK;go_simp;refine hK _ _ ?_;clear hK K;refine ak (i:=1) kM rfl ?_;intro K hK;go_simp;refine hK _ _ ?_;clear hK K;refine ak (i:=6) kM rfl ?_;intro K hK;refine aR (.tmp 21) (.tmp 25) 23 rfl (w.heap.size+2) 25 (.agg #[.int .i64 0,.int .i64 0,.string ⟨#[]⟩,.slice none 0 0,.slice none 0 0]) 5 80 Tryz.underlying23 Tryz.dY rfl (by decide) (by decide) _ js.length xs rfl bM _ [.int .i64 3,.int .i64 0,.string u,.slice none 0 0,.slice none 0 0] rfl rfl (jL rfl) (mW u) (by omega) hA.size ?_;intro oJ W4 bG nN gL;refine hK _ _ ?_;clear hK K;obtain⟨b4,c4,vN⟩:=gv bG;subst vN;obtain⟨g0,g1,lX⟩:=hA.push bM eH (dO _ _ u) bG nN gL;have iD:=(nN.block wr.heap.size (by simp;omega) fun e=>HVE.out e.symm).trans kM;have K3:av (One (w.heap.size+1)) W4 (W4.setCell ⟨w.heap.size+1,4,none⟩ (.slice (some ⟨b4,0,none⟩) (js.length+1) c4)):=av.setCell (av.refl _ _) (fun _=>(rfl:w.heap.size+1=w.heap.size+1)) _;have fB:=(K3.block wr.heap.size (Array.getElem?_eq_some_iff.1 iD).1 (by unfold One;omega)).trans iD;clear bG nN gL;refine aa (i:=7) (d:=some 27) rfl ?_;refine ak (i:=8) iD rfl ?_;intro K hK;go_simp;refine hK _ _ ?_;clear hK K;refine aD fB (by kernel_rfl) ?_ _;clear g0 g1 c0 c1 KX f_ iO kM iD fB;go_wp2;go_roundw
     case rel=>exact⟨k+1,_,_,by go_num,bH,by rw[HK1.out,WO.out];exact lX⟩
     case measure=>simp[intOf];omega
  ·obtain rfl:k=n:=by omega
   rw[List.take_of_length_le (by rw[HN.out];omega)]at mV;obtain⟨q2,c2,vO⟩:∃q c,vl=.slice q (l.map fun s=>d_ s.2).length c:=by
    obtain⟨xs,bM,_⟩:=mV.eG;exact dN bM
   obtain⟨q1,c1,uw⟩:=dN mV.keys;subst vO uw;have NP:=mV.obj;have qB:wr.heap[w.heap.size]?=some (.cells #[.int .i64 0,.int .i64 0,.string ⟨#[]⟩,.slice none 0 0,.slice none 0 0] 25 (0,0)):=(mV.fA.block _ (by have:=mV.IK;omega) (by unfold One;omega)).trans iI;obtain⟨j0,j1,j2,j3,j4⟩:=aM NP;obtain⟨i0,i1,i2,i3,i4⟩:=aM qB;obtain⟨z0,z1,z2,z3,z4⟩:=fD qB;obtain⟨m,hm⟩:∃m,(l.map fun s=>d_ s.2).length=m:=⟨_,rfl⟩;obtain⟨m1,Gg⟩:∃m,(l.map (·.1)).length=m:=⟨_,rfl⟩;have HTI:Hid (TI (fun _=>False) (w.heap.size+2) (w.heap.size+1) 5 WB (l.map (·.1)) (l.map fun s=>d_ s.2) (.slice q1 m1 c1) (.slice q2 m c2) wr):=by rw[<-hm,<-Gg];exact mV
   rw[hm]at j4;rw[Gg]at j3;have h5:=dG qB (.int .i64 5) (.int .i64 0) (.string ⟨#[]⟩) (.slice q1 m1 c1) (.slice q2 m c2);have dR:av (One w.heap.size) wr _:=dH wr w.heap.size (.int .i64 5) (.int .i64 0) (.string ⟨#[]⟩) (.slice q1 m1 c1) (.slice q2 m c2);unfold kK at h5 dR;obtain⟨k0,k1,k2,k3,k4⟩:=aM h5;clear mV NP qB hm Gg;go_wp2;refine bodyPost_ret (v:=.agg #[.int .i64 5,.int .i64 0,.string ⟨#[]⟩,.slice q1 m1 c1,.slice q2 m c2]) (by simp[results,Tryz.results118,go_sem,k0,k1,k2,k3,k4]) rfl ?_;obtain⟨r1,r2⟩:=HTI.out.done bX dR;exact⟨⟨_,_,_,_,_,_,rfl,r1⟩,r2⟩
theorem TI.end{O:Nat->Prop}{w WB wr W5:World}{kd:Int}{ks:List ByteArray}{js:List J}{q1 q2:Option Addr}{n1 n2 c1 c2:Nat}(h:TI O (w.heap.size+3) (w.heap.size+2) kd WB ks js (.slice q1 n1 c1) (.slice q2 n2 c2) wr)(hO:∀k,O k->k<w.heap.size)(bX:Below w.heap.size w WB)(dR:av (One (w.heap.size+1)) wr W5):
    isJ (fun k=>O k\/ qx w W5 k) W5 (.mk kd 0 aN ks js) [.int .i64 kd,.int .i64 0,.string aN,.slice q1 n1 c1,.slice q2 n2 c2]/\Below w.heap.size w W5:=by
 have fq:=h.size;have h5:=dR.size;have OE:=h.IK;obtain⟨xs,bM,eH⟩:=h.eG;obtain⟨q1',c1',e1,qR⟩:=pQ h.keys;obtain⟨q2',KX,e2,mE,OD⟩:=qQ bM eH
 cases e1
 cases e2
 have carry:∀k,w.heap.size+3<=k->k<wr.heap.size->(O k\/ qx w W5 k)/\W5.heap[k]?=wr.heap[k]?:=fun k h1 h2=>⟨.inr ⟨by omega,by omega⟩,dR.block k h2 (by unfold One;omega)⟩;refine⟨?_, ?_⟩
 ·unfold isJ;refine⟨q1,c1,q2,c2,rfl,qR.carry fun k hk=>carry k hk.1 hk.2,mE,OD.carry fun k hk=> ?_⟩
  rcases hk with hk| hk
  ·rcases hk with hk| hk
   ·have:=hO k hk;exact⟨.inl hk,dR.block k (by omega) (by unfold One;omega)⟩
   ·exact carry k hk.1 hk.2.1
  ·exact carry k hk.1 hk.2
 ·exact(bX.trans (h.fA.below (by omega) fun k hk=>by unfold One;omega)).trans (dR.below (by omega) fun k hk=>by unfold One;omega)
theorem EH{w:World}(o1 o2 o3:Obj):(((w.alloc o1).alloc o2).alloc o3).heap[w.heap.size+2]?=some o3/\(((w.alloc o1).alloc o2).alloc o3).heap[w.heap.size+1]?=some o2/\(((w.alloc o1).alloc o2).alloc o3).heap[w.heap.size]?=some o1:=by
 have h3:=heap_alloc_new ((w.alloc o1).alloc o2) o3;refine⟨by simpa using h3, ?_, ?_⟩
 ·rw[Below.heap_alloc _ _ _ (by simp)];exact rh _ _
 ·rw[Below.heap_alloc _ _ _ (by simp;omega)];exact uM _ _
theorem uU{O:Nat->Prop}{W W2:World}{y:J}{cs:List Value}(h:isJ (qx W W2) W2 y cs):isJ (fun k=>O k\/ qx W W2 k) W2 y cs:=h.carry fun _ hk=>⟨.inr hk,rfl⟩
theorem MS{O:Nat->Prop}(room aK ag key:ByteArray)(k i:Int)(t:ByteArray)(ks:List ByteArray)(l:List J)(prev aA:List ByteArray)(depth ts:Int)(hash:ByteArray)(sigs:List (ByteArray×ByteArray))(pk:Option Addr)(ck:Nat)(pl:Option Addr)(cl:Nat)(pp:Option Addr)(cp:Nat)(pa:Option Addr)(ca:Nat)(ps:Option Addr)(cs:Nat)(w:World)
    (hE:iL O w ⟨room,aK,ag,true,key,⟨k,i,t,ks,l⟩,prev,aA,depth,ts,hash,sigs⟩ ⟨pk,ck,pl,cl,pp,cp,pa,ca,ps,cs⟩) (hO:∀k,O k->k<w.heap.size) (h1:prev.length<=100000) (h2:aA.length<=100000) (h3:sigs.length<=100000):
    Calls Tryz.prog 79 #[.agg #[.string room,.string aK,.string ag,.bool true,.string key,.int .i64 k,.int .i64 i,.string t,.slice pk ks.length ck,.slice pl l.length cl,.slice pp prev.length cp,.slice pa aA.length ca,.int .i64 depth,.int .i64 ts,.string hash,.slice ps sigs.length cs]] w fun x w'=>(∃pk nk ck pl nl cl,x=.returned (.agg #[.int .i64 5,.int .i64 0,.string aN,.slice pk nk ck,.slice pl nl cl])/\isJ (fun k=>O k\/ qx w w' k) w' (mo ⟨room,aK,ag,true,key,⟨k,i,t,ks,l⟩,prev,aA,depth,ts,hash,sigs⟩) [.int .i64 5,.int .i64 0,.string aN,.slice pk nk ck,.slice pl nl cl])/\Below w.heap.size w w':=by
 obtain⟨WB,lW⟩:∃WB,WB=((w.alloc (.cells #[.string room,.string aK,.string ag,.bool true,.string key,.int .i64 k,.int .i64 i,.string t,.slice pk ks.length ck,.slice pl l.length cl,.slice pp prev.length cp,.slice pa aA.length ca,.int .i64 depth,.int .i64 ts,.string hash,.slice ps sigs.length cs] 28)).alloc (.cells #[.int .i64 0,.int .i64 0,.string ⟨#[]⟩,.slice none 0 0,.slice none 0 0] 25)).alloc (.cells #[.int .i64 5,.int .i64 0,.string ⟨#[]⟩,.slice none 0 0,.slice none 0 0] 25):=⟨_,rfl⟩;have bX:Below w.heap.size w WB:=by rw[lW];exact(((Below.refl _ _).alloc (Nat.le_refl _) _).alloc (by simp) _).alloc (by simp;omega) _
 obtain⟨q1,q2,q3⟩:=EH (w:=w) (.cells #[.string room,.string aK,.string ag,.bool true,.string key,.int .i64 k,.int .i64 i,.string t,.slice pk ks.length ck,.slice pl l.length cl,.slice pp prev.length cp,.slice pa aA.length ca,.int .i64 depth,.int .i64 ts,.string hash,.slice ps sigs.length cs] 28) (.cells #[.int .i64 0,.int .i64 0,.string ⟨#[]⟩,.slice none 0 0,.slice none 0 0] 25) (.cells #[.int .i64 5,.int .i64 0,.string ⟨#[]⟩,.slice none 0 0,.slice none 0 0] 25);rw[<-lW]at q1 q2 q3;have IX:TI O (w.heap.size+3) (w.heap.size+2) 5 WB [] [] (.slice none 0 0) (.slice none 0 0) WB:=TI.start (by rw[lW];simp) (by omega) (fun k h=>by have:=hO k h;omega) q1;have HE:Hid (∀{ks':List ByteArray} {js:List J} {vk vl:Value} {W:World},TI O (w.heap.size+3) (w.heap.size+2) 5 WB ks' js vk vl W->iL O W ⟨room,aK,ag,true,key,⟨k,i,t,ks,l⟩,prev,aA,depth,ts,hash,sigs⟩ ⟨pk,ck,pl,cl,pp,cp,pa,ca,ps,cs⟩/\(∀k,O k->k<W.heap.size)/\(∀j v, [.string room,.string aK,.string ag,.bool true,.string key,.int .i64 k,.int .i64 i,.string t,.slice pk ks.length ck,.slice pl l.length cl,.slice pp prev.length cp,.slice pa aA.length ca,.int .i64 depth,.int .i64 ts,.string hash,.slice ps sigs.length cs][j]?=some v->W.cell? ⟨w.heap.size,j,none⟩=some v)/\W.heap[w.heap.size+1]?=some (.cells #[.int .i64 0,.int .i64 0,.string ⟨#[]⟩,.slice none 0 0,.slice none 0 0] 25 (0,0))):=by
  intro ks' js vk vl W h;have e1:=h.size;have e2:=h.IK;refine⟨hE.carry fun k hk=>⟨hk, ?_⟩,fun k hk=>by have:=hO k hk;omega,fun j v hj=> ?_, ?_⟩
  ·have:=hO k hk;exact(h.fA.block k (by omega) (by unfold One;omega)).trans (bX.block k this)
  ·exact a_ ((h.fA.block _ (by omega) (by unfold One;omega)).trans q3) j v hj
  ·exact(h.fA.block _ (by omega) (by unfold One;omega)).trans q2
 have WT:=(HE.out IX).2.2.1 11 _ rfl;have rq:TI O (w.heap.size+3) (w.heap.size+2) 5 WB [] [] (.slice none 0 0) (.slice none 0 0) (((w.alloc (.cells #[.string room,.string aK,.string ag,.bool true,.string key,.int .i64 k,.int .i64 i,.string t,.slice pk ks.length ck,.slice pl l.length cl,.slice pp prev.length cp,.slice pa aA.length ca,.int .i64 depth,.int .i64 ts,.string hash,.slice ps sigs.length cs] 28)).alloc (.cells #[.int .i64 0,.int .i64 0,.string ⟨#[]⟩,.slice none 0 0,.slice none 0 0] 25)).alloc (.cells #[.int .i64 5,.int .i64 0,.string ⟨#[]⟩,.slice none 0 0,.slice none 0 0] 25)):=by rw[<-lW];exact IX
 rw[lW]at WT;clear q1 q2 q3 lW hE IX;go_enter Tryz.func79,Tryz.ntmps79;go_wp2_with(first
  | (go_at_call 114;refine(cZ zeg (dO _ _ aK) (by simp) (by simp) _).mono ?_;rintro x W11 ⟨rfl,zeh,zei,EI⟩
     obtain⟨q1,m1,c1,uw⟩:∃q m c,zeh=.slice q m c:=by
      obtain⟨q,c,h⟩:=dN EI.keys;exact⟨q,_,c,h⟩
     obtain⟨q2,m2,c2,vO⟩:∃q m c,zei=.slice q m c:=by
      obtain⟨xs,bM,_⟩:=EI.eG;obtain⟨q,c,h⟩:=dN bM;exact⟨q,_,c,h⟩
     subst uw vO;have NP:W11.heap[w.heap.size+1+1]?=some (.cells #[.int .i64 5,.int .i64 0,.string ⟨#[]⟩,.slice q1 m1 c1,.slice q2 m2 c2] 25 (0,0)):=EI.obj;have qB:=(HE.out EI).2.2.2;obtain⟨j0,j1,j2,j3,j4⟩:=aM NP;obtain⟨i0,i1,i2,i3,i4⟩:=aM qB;obtain⟨z0,z1,z2,z3,z4⟩:=fD qB)
  | (go_at_call 117;have _g:=tJ;refine(fM aK _).mono ?_;rintro x v10 ⟨rfl,zej⟩
     have zeg:=tJ.more zej)
  | (go_at_call 114;refine(cZ hu9 (xg _ _ ts) (by simp) (by simp) _).mono ?_;rintro x W10 ⟨rfl,zb4,zb5,tJ⟩
     have a1:=(HE.out tJ).2.2.1 1 _ rfl)
  | (go_at_call 116;have _g:=IY;refine(lI ts _).mono ?_;rintro x v9 ⟨rfl,ry⟩
     have hu9:=IY.more ry)
  | (go_at_call 114;refine(cZ hu8 hy8 (by simp) (by simp) _).mono ?_;rintro x W9 ⟨rfl,vk9,vl9,IY⟩
     have a13:=(HE.out IY).2.2.1 13 _ rfl)
  | (go_at_call 118;refine(yE (HE.out Ca).1.sigs (HE.out Ca).2.1 h3).mono ?_;rintro x v8 ⟨⟨pk8,nk8,ck8,pl8,nl8,cl8,rfl,hj8⟩,wM⟩
     have hu8:=Ca.more wM;have hy8:=Ca.fresh wM (uU hj8))
  | (go_at_call 114;refine(cZ hu7 (dO _ _ ag) (by simp) (by simp) _).mono ?_;rintro x W8 ⟨rfl,vk8,vl8,Ca⟩
     have a15:=(HE.out Ca).2.2.1 15 _ rfl)
  | (go_at_call 117;have _g:=Cb;refine(fM ag _).mono ?_;rintro x v7 ⟨rfl,uV⟩
     have hu7:=Cb.more uV)
  | (go_at_call 114;refine(cZ hu6 (dO _ _ room) (by simp) (by simp) _).mono ?_;rintro x W7 ⟨rfl,vk7,vl7,Cb⟩
     have a2:=(HE.out Cb).2.2.1 2 _ rfl)
  | (go_at_call 117;have _g:=IZ;refine(fM room _).mono ?_;rintro x v6 ⟨rfl,jP⟩
     have hu6:=IZ.more jP)
  | (go_at_call 114;refine(cZ hu5 hy5 (by simp) (by simp) _).mono ?_;rintro x W6 ⟨rfl,vk6,vl6,IZ⟩
     have a0:=(HE.out IZ).2.2.1 0 _ rfl)
  | (go_at_call 115;refine(nV (HE.out lX).1.prev (HE.out lX).2.1 h1).mono ?_;rintro x v5 ⟨⟨pl5,nl5,cl5,rfl,hj5⟩,jB⟩
     have hu5:=lX.more jB;have hy5:=lX.fresh jB (uU hj5))
  | (go_at_call 114;refine(cZ hu4 (dO _ _ key) (by simp) (by simp) _).mono ?_;rintro x W5 ⟨rfl,vk5,vl5,lX⟩
     have a10:=(HE.out lX).2.2.1 10 _ rfl)
  | (go_at_call 117;have _g:=yF;refine(fM key _).mono ?_;rintro x v4 ⟨rfl,dB⟩
     have hu4:=yF.more dB)
  | (go_at_call 114;refine(cZ hu3 (dO _ _ hash) (by simp) (by simp) _).mono ?_;rintro x W4 ⟨rfl,vk4,vl4,yF⟩
     have a4:=(HE.out yF).2.2.1 4 _ rfl;have a3:=(HE.out yF).2.2.1 3 _ rfl)
  | (go_at_call 117;have _g:=I1;refine(fM hash _).mono ?_;rintro x v3 ⟨rfl,dA⟩
     have hu3:=I1.more dA)
  | (go_at_call 114;refine(cZ hu2 (xg _ _ depth) (by simp) (by simp) _).mono ?_;rintro x W3 ⟨rfl,vk3,vl3,I1⟩
     have a14:=(HE.out I1).2.2.1 14 _ rfl)
  | (go_at_call 116;have _g:=I4;refine(lI depth _).mono ?_;rintro x v2 ⟨rfl,aT⟩
     have hu2:=I4.more aT)
  | (go_at_call 114;refine(cZ rA ((HE.out rA).1.cont.carry fun k hk=>⟨.inl hk,rfl⟩) (by simp) (by simp) _).mono ?_;rintro x W2 ⟨rfl,OG,oJ,I4⟩
     have a12:=(HE.out I4).2.2.1 12 _ rfl)
  | (go_at_call 114;refine(cZ hu0 hy0 (by simp) (by simp) _).mono ?_;rintro x W1 ⟨rfl,vk1,vl1,rA⟩
     have a5:=(HE.out rA).2.2.1 5 _ rfl;have a6:=(HE.out rA).2.2.1 6 _ rfl;have a7:=(HE.out rA).2.2.1 7 _ rfl;have a8:=(HE.out rA).2.2.1 8 _ rfl;have a9:=(HE.out rA).2.2.1 9 _ rfl)
  | (go_at_call 115;refine(nV (HE.out rq).1.aA (HE.out rq).2.1 h2).mono ?_;rintro x v0 ⟨⟨pl0,nl0,cl0,rfl,hj0⟩,dS⟩
     have hu0:=rq.more dS;have hy0:=rq.fresh dS (uU hj0)))
 have h5:=dG qB (.int .i64 5) (.int .i64 0) (.string ⟨#[]⟩) (.slice q1 m1 c1) (.slice q2 m2 c2);have dR:av (One (w.heap.size+1)) W11 _:=dH W11 (w.heap.size+1) (.int .i64 5) (.int .i64 0) (.string ⟨#[]⟩) (.slice q1 m1 c1) (.slice q2 m2 c2);unfold kK at h5 dR;obtain⟨k0,k1,k2,k3,k4⟩:=aM h5;refine bodyPost_ret (v:=.agg #[.int .i64 5,.int .i64 0,.string ⟨#[]⟩,.slice q1 m1 c1,.slice q2 m2 c2]) (by simp[results,Tryz.results79,go_sem,k0,k1,k2,k3,k4]) rfl ?_;obtain⟨r1,r2⟩:=EI.end hO bX dR;exact⟨⟨_,_,_,_,_,_,rfl,r1⟩,r2⟩
theorem I5{O:Nat->Prop}(room aK ag key:ByteArray)(k i:Int)(t:ByteArray)(ks:List ByteArray)(l:List J)(prev aA:List ByteArray)(depth ts:Int)(hash:ByteArray)(sigs:List (ByteArray×ByteArray))(pk:Option Addr)(ck:Nat)(pl:Option Addr)(cl:Nat)(pp:Option Addr)(cp:Nat)(pa:Option Addr)(ca:Nat)(ps:Option Addr)(cs:Nat)(w:World)
    (hE:iL O w ⟨room,aK,ag,false,key,⟨k,i,t,ks,l⟩,prev,aA,depth,ts,hash,sigs⟩ ⟨pk,ck,pl,cl,pp,cp,pa,ca,ps,cs⟩) (hO:∀k,O k->k<w.heap.size) (h1:prev.length<=100000) (h2:aA.length<=100000) (h3:sigs.length<=100000):
    Calls Tryz.prog 79 #[.agg #[.string room,.string aK,.string ag,.bool false,.string key,.int .i64 k,.int .i64 i,.string t,.slice pk ks.length ck,.slice pl l.length cl,.slice pp prev.length cp,.slice pa aA.length ca,.int .i64 depth,.int .i64 ts,.string hash,.slice ps sigs.length cs]] w fun x w'=>(∃pk nk ck pl nl cl,x=.returned (.agg #[.int .i64 5,.int .i64 0,.string aN,.slice pk nk ck,.slice pl nl cl])/\isJ (fun k=>O k\/ qx w w' k) w' (mo ⟨room,aK,ag,false,key,⟨k,i,t,ks,l⟩,prev,aA,depth,ts,hash,sigs⟩) [.int .i64 5,.int .i64 0,.string aN,.slice pk nk ck,.slice pl nl cl])/\Below w.heap.size w w':=by
 obtain⟨WB,lW⟩:∃WB,WB=((w.alloc (.cells #[.string room,.string aK,.string ag,.bool false,.string key,.int .i64 k,.int .i64 i,.string t,.slice pk ks.length ck,.slice pl l.length cl,.slice pp prev.length cp,.slice pa aA.length ca,.int .i64 depth,.int .i64 ts,.string hash,.slice ps sigs.length cs] 28)).alloc (.cells #[.int .i64 0,.int .i64 0,.string ⟨#[]⟩,.slice none 0 0,.slice none 0 0] 25)).alloc (.cells #[.int .i64 5,.int .i64 0,.string ⟨#[]⟩,.slice none 0 0,.slice none 0 0] 25):=⟨_,rfl⟩;have bX:Below w.heap.size w WB:=by rw[lW];exact(((Below.refl _ _).alloc (Nat.le_refl _) _).alloc (by simp) _).alloc (by simp;omega) _
 obtain⟨q1,q2,q3⟩:=EH (w:=w) (.cells #[.string room,.string aK,.string ag,.bool false,.string key,.int .i64 k,.int .i64 i,.string t,.slice pk ks.length ck,.slice pl l.length cl,.slice pp prev.length cp,.slice pa aA.length ca,.int .i64 depth,.int .i64 ts,.string hash,.slice ps sigs.length cs] 28) (.cells #[.int .i64 0,.int .i64 0,.string ⟨#[]⟩,.slice none 0 0,.slice none 0 0] 25) (.cells #[.int .i64 5,.int .i64 0,.string ⟨#[]⟩,.slice none 0 0,.slice none 0 0] 25);rw[<-lW]at q1 q2 q3;have IX:TI O (w.heap.size+3) (w.heap.size+2) 5 WB [] [] (.slice none 0 0) (.slice none 0 0) WB:=TI.start (by rw[lW];simp) (by omega) (fun k h=>by have:=hO k h;omega) q1;have HE:Hid (∀{ks':List ByteArray} {js:List J} {vk vl:Value} {W:World},TI O (w.heap.size+3) (w.heap.size+2) 5 WB ks' js vk vl W->iL O W ⟨room,aK,ag,false,key,⟨k,i,t,ks,l⟩,prev,aA,depth,ts,hash,sigs⟩ ⟨pk,ck,pl,cl,pp,cp,pa,ca,ps,cs⟩/\(∀k,O k->k<W.heap.size)/\(∀j v, [.string room,.string aK,.string ag,.bool false,.string key,.int .i64 k,.int .i64 i,.string t,.slice pk ks.length ck,.slice pl l.length cl,.slice pp prev.length cp,.slice pa aA.length ca,.int .i64 depth,.int .i64 ts,.string hash,.slice ps sigs.length cs][j]?=some v->W.cell? ⟨w.heap.size,j,none⟩=some v)/\W.heap[w.heap.size+1]?=some (.cells #[.int .i64 0,.int .i64 0,.string ⟨#[]⟩,.slice none 0 0,.slice none 0 0] 25 (0,0))):=by
  intro ks' js vk vl W h;have e1:=h.size;have e2:=h.IK;refine⟨hE.carry fun k hk=>⟨hk, ?_⟩,fun k hk=>by have:=hO k hk;omega,fun j v hj=> ?_, ?_⟩
  ·have:=hO k hk;exact(h.fA.block k (by omega) (by unfold One;omega)).trans (bX.block k this)
  ·exact a_ ((h.fA.block _ (by omega) (by unfold One;omega)).trans q3) j v hj
  ·exact(h.fA.block _ (by omega) (by unfold One;omega)).trans q2
 have WT:=(HE.out IX).2.2.1 11 _ rfl;have rq:TI O (w.heap.size+3) (w.heap.size+2) 5 WB [] [] (.slice none 0 0) (.slice none 0 0) (((w.alloc (.cells #[.string room,.string aK,.string ag,.bool false,.string key,.int .i64 k,.int .i64 i,.string t,.slice pk ks.length ck,.slice pl l.length cl,.slice pp prev.length cp,.slice pa aA.length ca,.int .i64 depth,.int .i64 ts,.string hash,.slice ps sigs.length cs] 28)).alloc (.cells #[.int .i64 0,.int .i64 0,.string ⟨#[]⟩,.slice none 0 0,.slice none 0 0] 25)).alloc (.cells #[.int .i64 5,.int .i64 0,.string ⟨#[]⟩,.slice none 0 0,.slice none 0 0] 25)):=by rw[<-lW];exact IX
 rw[lW]at WT;clear q1 q2 q3 lW hE IX;go_enter Tryz.func79,Tryz.ntmps79;go_wp2_with(first
  | (go_at_call 114;refine(cZ hu9 (dO _ _ aK) (by simp) (by simp) _).mono ?_;rintro x W10 ⟨rfl,zb4,zb5,tJ⟩
     obtain⟨q1,m1,c1,uw⟩:∃q m c,zb4=.slice q m c:=by
      obtain⟨q,c,h⟩:=dN tJ.keys;exact⟨q,_,c,h⟩
     obtain⟨q2,m2,c2,vO⟩:∃q m c,zb5=.slice q m c:=by
      obtain⟨xs,bM,_⟩:=tJ.eG;obtain⟨q,c,h⟩:=dN bM;exact⟨q,_,c,h⟩
     subst uw vO;have NP:W10.heap[w.heap.size+1+1]?=some (.cells #[.int .i64 5,.int .i64 0,.string ⟨#[]⟩,.slice q1 m1 c1,.slice q2 m2 c2] 25 (0,0)):=tJ.obj;have qB:=(HE.out tJ).2.2.2;obtain⟨j0,j1,j2,j3,j4⟩:=aM NP;obtain⟨i0,i1,i2,i3,i4⟩:=aM qB;obtain⟨z0,z1,z2,z3,z4⟩:=fD qB)
  | (go_at_call 117;have _g:=IY;refine(fM aK _).mono ?_;rintro x v9 ⟨rfl,ry⟩
     have hu9:=IY.more ry)
  | (go_at_call 114;refine(cZ hu8 (xg _ _ ts) (by simp) (by simp) _).mono ?_;rintro x W9 ⟨rfl,vk9,vl9,IY⟩
     have a1:=(HE.out IY).2.2.1 1 _ rfl)
  | (go_at_call 116;have _g:=Ca;refine(lI ts _).mono ?_;rintro x v8 ⟨rfl,wM⟩
     have hu8:=Ca.more wM)
  | (go_at_call 114;refine(cZ hu7 hy7 (by simp) (by simp) _).mono ?_;rintro x W8 ⟨rfl,vk8,vl8,Ca⟩
     have a13:=(HE.out Ca).2.2.1 13 _ rfl)
  | (go_at_call 118;refine(yE (HE.out Cb).1.sigs (HE.out Cb).2.1 h3).mono ?_;rintro x v7 ⟨⟨pk7,nk7,ck7,pl7,nl7,cl7,rfl,hj7⟩,uV⟩
     have hu7:=Cb.more uV;have hy7:=Cb.fresh uV (uU hj7))
  | (go_at_call 114;refine(cZ hu6 (dO _ _ ag) (by simp) (by simp) _).mono ?_;rintro x W7 ⟨rfl,vk7,vl7,Cb⟩
     have a15:=(HE.out Cb).2.2.1 15 _ rfl)
  | (go_at_call 117;have _g:=IZ;refine(fM ag _).mono ?_;rintro x v6 ⟨rfl,jP⟩
     have hu6:=IZ.more jP)
  | (go_at_call 114;refine(cZ hu5 (dO _ _ room) (by simp) (by simp) _).mono ?_;rintro x W6 ⟨rfl,vk6,vl6,IZ⟩
     have a2:=(HE.out IZ).2.2.1 2 _ rfl)
  | (go_at_call 117;have _g:=lX;refine(fM room _).mono ?_;rintro x v5 ⟨rfl,jB⟩
     have hu5:=lX.more jB)
  | (go_at_call 114;refine(cZ hu4 wS (by simp) (by simp) _).mono ?_;rintro x W5 ⟨rfl,vk5,vl5,lX⟩
     have a0:=(HE.out lX).2.2.1 0 _ rfl)
  | (go_at_call 115;refine(nV (HE.out yF).1.prev (HE.out yF).2.1 h1).mono ?_;rintro x v4 ⟨⟨pl4,nl4,cl4,rfl,hj4⟩,dB⟩
     have hu4:=yF.more dB;have wS:=yF.fresh dB (uU hj4))
  | (go_at_call 114;refine(cZ hu3 (dO _ _ hash) (by simp) (by simp) _).mono ?_;rintro x W4 ⟨rfl,vk4,vl4,yF⟩
     have a10:=(HE.out yF).2.2.1 10 _ rfl;have a3:=(HE.out yF).2.2.1 3 _ rfl)
  | (go_at_call 117;have _g:=I1;refine(fM hash _).mono ?_;rintro x v3 ⟨rfl,dA⟩
     have hu3:=I1.more dA)
  | (go_at_call 114;refine(cZ hu2 (xg _ _ depth) (by simp) (by simp) _).mono ?_;rintro x W3 ⟨rfl,vk3,vl3,I1⟩
     have a14:=(HE.out I1).2.2.1 14 _ rfl)
  | (go_at_call 116;have _g:=I4;refine(lI depth _).mono ?_;rintro x v2 ⟨rfl,aT⟩
     have hu2:=I4.more aT)
  | (go_at_call 114;refine(cZ rA ((HE.out rA).1.cont.carry fun k hk=>⟨.inl hk,rfl⟩) (by simp) (by simp) _).mono ?_;rintro x W2 ⟨rfl,OG,oJ,I4⟩
     have a12:=(HE.out I4).2.2.1 12 _ rfl)
  | (go_at_call 114;refine(cZ hu0 hy0 (by simp) (by simp) _).mono ?_;rintro x W1 ⟨rfl,vk1,vl1,rA⟩
     have a5:=(HE.out rA).2.2.1 5 _ rfl;have a6:=(HE.out rA).2.2.1 6 _ rfl;have a7:=(HE.out rA).2.2.1 7 _ rfl;have a8:=(HE.out rA).2.2.1 8 _ rfl;have a9:=(HE.out rA).2.2.1 9 _ rfl)
  | (go_at_call 115;refine(nV (HE.out rq).1.aA (HE.out rq).2.1 h2).mono ?_;rintro x v0 ⟨⟨pl0,nl0,cl0,rfl,hj0⟩,dS⟩
     have hu0:=rq.more dS;have hy0:=rq.fresh dS (uU hj0)))
 have h5:=dG qB (.int .i64 5) (.int .i64 0) (.string ⟨#[]⟩) (.slice q1 m1 c1) (.slice q2 m2 c2);have dR:av (One (w.heap.size+1)) W10 _:=dH W10 (w.heap.size+1) (.int .i64 5) (.int .i64 0) (.string ⟨#[]⟩) (.slice q1 m1 c1) (.slice q2 m2 c2);unfold kK at h5 dR;obtain⟨k0,k1,k2,k3,k4⟩:=aM h5;refine bodyPost_ret (v:=.agg #[.int .i64 5,.int .i64 0,.string ⟨#[]⟩,.slice q1 m1 c1,.slice q2 m2 c2]) (by simp[results,Tryz.results79,go_sem,k0,k1,k2,k3,k4]) rfl ?_;obtain⟨r1,r2⟩:=tJ.end hO bX dR;exact⟨⟨_,_,_,_,_,_,rfl,r1⟩,r2⟩
structure uW(w:World):Prop where
 pow:NQ w.heap.size w
 utf:MP w.heap.size w
theorem uW.below{w w':World}(h:uW w)(hb:Below w.heap.size w w'):uW w':=⟨fun w2 h2=>h.pow w2 (aj hb h2),h.utf.below hb⟩
structure MU(room aK ag:ByteArray)(st:Bool)(key:ByteArray)(k i:Int)(t:ByteArray)(ks:List ByteArray)(l:List J)(prev aA:List ByteArray)(depth ts:Int)(hash:ByteArray)(sigs:List (ByteArray×ByteArray))(pk:Option Addr)(ck:Nat)(pl:Option Addr)(cl:Nat)(pp:Option Addr)(cp:Nat)(pa:Option Addr)(ca:Nat)(ps:Option Addr)(cs:Nat)(w:World):Prop where
 cells:∀W,Below (w.alloc (.cells #[.string room,.string aK,.string ag,.bool st,.string key,.int .i64 k,.int .i64 i,.string t,.slice pk ks.length ck,.slice pl l.length cl,.slice pp prev.length cp,.slice pa aA.length ca,.int .i64 depth,.int .i64 ts,.string hash,.slice ps sigs.length cs] 28)).heap.size (w.alloc (.cells #[.string room,.string aK,.string ag,.bool st,.string key,.int .i64 k,.int .i64 i,.string t,.slice pk ks.length ck,.slice pl l.length cl,.slice pp prev.length cp,.slice pa aA.length ca,.int .i64 depth,.int .i64 ts,.string hash,.slice ps sigs.length cs] 28)) W->∀j v, [.string room,.string aK,.string ag,.bool st,.string key,.int .i64 k,.int .i64 i,.string t,.slice pk ks.length ck,.slice pl l.length cl,.slice pp prev.length cp,.slice pa aA.length ca,.int .i64 depth,.int .i64 ts,.string hash,.slice ps sigs.length cs][j]?=some v->W.cell? ⟨w.heap.size,j,none⟩=some v
 below:Below w.heap.size w (w.alloc (.cells #[.string room,.string aK,.string ag,.bool st,.string key,.int .i64 k,.int .i64 i,.string t,.slice pk ks.length ck,.slice pl l.length cl,.slice pp prev.length cp,.slice pa aA.length ca,.int .i64 depth,.int .i64 ts,.string hash,.slice ps sigs.length cs] 28))
 h0:∀W,Below (w.alloc (.cells #[.string room,.string aK,.string ag,.bool st,.string key,.int .i64 k,.int .i64 i,.string t,.slice pk ks.length ck,.slice pl l.length cl,.slice pp prev.length cp,.slice pa aA.length ca,.int .i64 depth,.int .i64 ts,.string hash,.slice ps sigs.length cs] 28)).heap.size (w.alloc (.cells #[.string room,.string aK,.string ag,.bool st,.string key,.int .i64 k,.int .i64 i,.string t,.slice pk ks.length ck,.slice pl l.length cl,.slice pp prev.length cp,.slice pa aA.length ca,.int .i64 depth,.int .i64 ts,.string hash,.slice ps sigs.length cs] 28)) W->Calls Tryz.prog 103 #[.agg #[.string room,.string aK,.string ag,.bool st,.string key,.int .i64 k,.int .i64 i,.string t,.slice pk ks.length ck,.slice pl l.length cl,.slice pp prev.length cp,.slice pa aA.length ca,.int .i64 depth,.int .i64 ts,.string hash,.slice ps sigs.length cs]] W fun x w'=>x=.returned (.bool (dU ⟨room,aK,ag,st,key,⟨k,i,t,ks,l⟩,prev,aA,depth,ts,hash,sigs⟩))/\Below W.heap.size W w'
 h1:∀W,Below (w.alloc (.cells #[.string room,.string aK,.string ag,.bool st,.string key,.int .i64 k,.int .i64 i,.string t,.slice pk ks.length ck,.slice pl l.length cl,.slice pp prev.length cp,.slice pa aA.length ca,.int .i64 depth,.int .i64 ts,.string hash,.slice ps sigs.length cs] 28)).heap.size (w.alloc (.cells #[.string room,.string aK,.string ag,.bool st,.string key,.int .i64 k,.int .i64 i,.string t,.slice pk ks.length ck,.slice pl l.length cl,.slice pp prev.length cp,.slice pa aA.length ca,.int .i64 depth,.int .i64 ts,.string hash,.slice ps sigs.length cs] 28)) W->Calls Tryz.prog 104 #[.agg #[.string room,.string aK,.string ag,.bool st,.string key,.int .i64 k,.int .i64 i,.string t,.slice pk ks.length ck,.slice pl l.length cl,.slice pp prev.length cp,.slice pa aA.length ca,.int .i64 depth,.int .i64 ts,.string hash,.slice ps sigs.length cs]] W fun x w'=>x=.returned (.bool (fH ⟨room,aK,ag,st,key,⟨k,i,t,ks,l⟩,prev,aA,depth,ts,hash,sigs⟩))/\Below W.heap.size W w'
 h2:∀W,Below (w.alloc (.cells #[.string room,.string aK,.string ag,.bool st,.string key,.int .i64 k,.int .i64 i,.string t,.slice pk ks.length ck,.slice pl l.length cl,.slice pp prev.length cp,.slice pa aA.length ca,.int .i64 depth,.int .i64 ts,.string hash,.slice ps sigs.length cs] 28)).heap.size (w.alloc (.cells #[.string room,.string aK,.string ag,.bool st,.string key,.int .i64 k,.int .i64 i,.string t,.slice pk ks.length ck,.slice pl l.length cl,.slice pp prev.length cp,.slice pa aA.length ca,.int .i64 depth,.int .i64 ts,.string hash,.slice ps sigs.length cs] 28)) W->Calls Tryz.prog 105 #[.agg #[.int .i64 k,.int .i64 i,.string t,.slice pk ks.length ck,.slice pl l.length cl]] W fun x w'=>x=.returned (.bool (dz ⟨k,i,t,ks,l⟩))/\Below W.heap.size W w'
 h3:∀W,Below (w.alloc (.cells #[.string room,.string aK,.string ag,.bool st,.string key,.int .i64 k,.int .i64 i,.string t,.slice pk ks.length ck,.slice pl l.length cl,.slice pp prev.length cp,.slice pa aA.length ca,.int .i64 depth,.int .i64 ts,.string hash,.slice ps sigs.length cs] 28)).heap.size (w.alloc (.cells #[.string room,.string aK,.string ag,.bool st,.string key,.int .i64 k,.int .i64 i,.string t,.slice pk ks.length ck,.slice pl l.length cl,.slice pp prev.length cp,.slice pa aA.length ca,.int .i64 depth,.int .i64 ts,.string hash,.slice ps sigs.length cs] 28)) W->Calls Tryz.prog 106 #[.slice pp prev.length cp,.int .i64 20] W fun x w'=>x=.returned (.bool (bu 20 prev))/\Below W.heap.size W w'
 h4:∀W,Below (w.alloc (.cells #[.string room,.string aK,.string ag,.bool st,.string key,.int .i64 k,.int .i64 i,.string t,.slice pk ks.length ck,.slice pl l.length cl,.slice pp prev.length cp,.slice pa aA.length ca,.int .i64 depth,.int .i64 ts,.string hash,.slice ps sigs.length cs] 28)).heap.size (w.alloc (.cells #[.string room,.string aK,.string ag,.bool st,.string key,.int .i64 k,.int .i64 i,.string t,.slice pk ks.length ck,.slice pl l.length cl,.slice pp prev.length cp,.slice pa aA.length ca,.int .i64 depth,.int .i64 ts,.string hash,.slice ps sigs.length cs] 28)) W->Calls Tryz.prog 106 #[.slice pa aA.length ca,.int .i64 10] W fun x w'=>x=.returned (.bool (bu 10 aA))/\Below W.heap.size W w'
 h5:∀W,Below (w.alloc (.cells #[.string room,.string aK,.string ag,.bool st,.string key,.int .i64 k,.int .i64 i,.string t,.slice pk ks.length ck,.slice pl l.length cl,.slice pp prev.length cp,.slice pa aA.length ca,.int .i64 depth,.int .i64 ts,.string hash,.slice ps sigs.length cs] 28)).heap.size (w.alloc (.cells #[.string room,.string aK,.string ag,.bool st,.string key,.int .i64 k,.int .i64 i,.string t,.slice pk ks.length ck,.slice pl l.length cl,.slice pp prev.length cp,.slice pa aA.length ca,.int .i64 depth,.int .i64 ts,.string hash,.slice ps sigs.length cs] 28)) W->Calls Tryz.prog 107 #[.int .i64 depth,.int .i64 1099511627776] W fun x w'=>x=.returned (.bool (di depth 1099511627776))/\Below W.heap.size W w'
 h6:∀W,Below (w.alloc (.cells #[.string room,.string aK,.string ag,.bool st,.string key,.int .i64 k,.int .i64 i,.string t,.slice pk ks.length ck,.slice pl l.length cl,.slice pp prev.length cp,.slice pa aA.length ca,.int .i64 depth,.int .i64 ts,.string hash,.slice ps sigs.length cs] 28)).heap.size (w.alloc (.cells #[.string room,.string aK,.string ag,.bool st,.string key,.int .i64 k,.int .i64 i,.string t,.slice pk ks.length ck,.slice pl l.length cl,.slice pp prev.length cp,.slice pa aA.length ca,.int .i64 depth,.int .i64 ts,.string hash,.slice ps sigs.length cs] 28)) W->Calls Tryz.prog 107 #[.int .i64 ts,.int .i64 9007199254740991] W fun x w'=>x=.returned (.bool (di ts dC))/\Below W.heap.size W w'
 h7:∀W,Below (w.alloc (.cells #[.string room,.string aK,.string ag,.bool st,.string key,.int .i64 k,.int .i64 i,.string t,.slice pk ks.length ck,.slice pl l.length cl,.slice pp prev.length cp,.slice pa aA.length ca,.int .i64 depth,.int .i64 ts,.string hash,.slice ps sigs.length cs] 28)).heap.size (w.alloc (.cells #[.string room,.string aK,.string ag,.bool st,.string key,.int .i64 k,.int .i64 i,.string t,.slice pk ks.length ck,.slice pl l.length cl,.slice pp prev.length cp,.slice pa aA.length ca,.int .i64 depth,.int .i64 ts,.string hash,.slice ps sigs.length cs] 28)) W->Calls Tryz.prog 108 #[.string hash] W fun x w'=>x=.returned (.bool (fU hash))/\Below W.heap.size W w'
 h8:∀W,Below (w.alloc (.cells #[.string room,.string aK,.string ag,.bool st,.string key,.int .i64 k,.int .i64 i,.string t,.slice pk ks.length ck,.slice pl l.length cl,.slice pp prev.length cp,.slice pa aA.length ca,.int .i64 depth,.int .i64 ts,.string hash,.slice ps sigs.length cs] 28)).heap.size (w.alloc (.cells #[.string room,.string aK,.string ag,.bool st,.string key,.int .i64 k,.int .i64 i,.string t,.slice pk ks.length ck,.slice pl l.length cl,.slice pp prev.length cp,.slice pa aA.length ca,.int .i64 depth,.int .i64 ts,.string hash,.slice ps sigs.length cs] 28)) W->Calls Tryz.prog 109 #[.slice ps sigs.length cs] W fun x w'=>x=.returned (.bool (bJ sigs))/\Below W.heap.size W w'
theorem MV(room aK ag:ByteArray)(st:Bool)(key:ByteArray)(k i:Int)(t:ByteArray)(ks:List ByteArray)(l:List J)(prev aA:List ByteArray)(depth ts:Int)(hash:ByteArray)(sigs:List (ByteArray×ByteArray))(pk:Option Addr)(ck:Nat)(pl:Option Addr)(cl:Nat)(pp:Option Addr)(cp:Nat)(pa:Option Addr)(ca:Nat)(ps:Option Addr)(cs:Nat)(w:World)(X:MU room aK ag st key k i t ks l prev aA depth ts hash sigs pk ck pl cl pp cp pa ca ps cs w)(e0:dU ⟨room,aK,ag,st,key,⟨k,i,t,ks,l⟩,prev,aA,depth,ts,hash,sigs⟩=false):
    Calls Tryz.prog 77 #[.agg #[.string room,.string aK,.string ag,.bool st,.string key,.int .i64 k,.int .i64 i,.string t,.slice pk ks.length ck,.slice pl l.length cl,.slice pp prev.length cp,.slice pa aA.length ca,.int .i64 depth,.int .i64 ts,.string hash,.slice ps sigs.length cs]] w fun x w'=>x=.returned (.bool (aG ⟨room,aK,ag,st,key,⟨k,i,t,ks,l⟩,prev,aA,depth,ts,hash,sigs⟩))/\Below w.heap.size w w':=by
 have HS:Hid (aG ⟨room,aK,ag,st,key,⟨k,i,t,ks,l⟩,prev,aA,depth,ts,hash,sigs⟩=false):=by
  show _=_
  unfold aG;simp only[e0];simp
 have H0:=X.h0 _ (Below.refl _ _);rw[e0]at H0;have HC:=X.cells;have l_:Hid (Below w.heap.size w (w.alloc (.cells #[.string room,.string aK,.string ag,.bool st,.string key,.int .i64 k,.int .i64 i,.string t,.slice pk ks.length ck,.slice pl l.length cl,.slice pp prev.length cp,.slice pa aA.length ca,.int .i64 depth,.int .i64 ts,.string hash,.slice ps sigs.length cs] 28))):=X.below;have GC:Hid _:=HC;clear X HC e0;go_enter Tryz.func77,Tryz.ntmps77;go_wp2_with(first
  | (go_at_call 103;refine H0.mono ?_;rintro x w0 ⟨rfl,dS⟩
     have g0:=dS))
 go_ret;exact⟨ai HS.out.symm,aj l_.out g0⟩
theorem MW(room aK ag:ByteArray)(st:Bool)(key:ByteArray)(k i:Int)(t:ByteArray)(ks:List ByteArray)(l:List J)(prev aA:List ByteArray)(depth ts:Int)(hash:ByteArray)(sigs:List (ByteArray×ByteArray))(pk:Option Addr)(ck:Nat)(pl:Option Addr)(cl:Nat)(pp:Option Addr)(cp:Nat)(pa:Option Addr)(ca:Nat)(ps:Option Addr)(cs:Nat)(w:World)(X:MU room aK ag st key k i t ks l prev aA depth ts hash sigs pk ck pl cl pp cp pa ca ps cs w)(e0:dU ⟨room,aK,ag,st,key,⟨k,i,t,ks,l⟩,prev,aA,depth,ts,hash,sigs⟩=true)(e1:fH ⟨room,aK,ag,st,key,⟨k,i,t,ks,l⟩,prev,aA,depth,ts,hash,sigs⟩=false):
    Calls Tryz.prog 77 #[.agg #[.string room,.string aK,.string ag,.bool st,.string key,.int .i64 k,.int .i64 i,.string t,.slice pk ks.length ck,.slice pl l.length cl,.slice pp prev.length cp,.slice pa aA.length ca,.int .i64 depth,.int .i64 ts,.string hash,.slice ps sigs.length cs]] w fun x w'=>x=.returned (.bool (aG ⟨room,aK,ag,st,key,⟨k,i,t,ks,l⟩,prev,aA,depth,ts,hash,sigs⟩))/\Below w.heap.size w w':=by
 have HS:Hid (aG ⟨room,aK,ag,st,key,⟨k,i,t,ks,l⟩,prev,aA,depth,ts,hash,sigs⟩=false):=by
  show _=_
  unfold aG;simp only[e0,e1];simp
 have H0:=X.h0 _ (Below.refl _ _);rw[e0]at H0;have H1:=X.h1;rw[e1]at H1;have HC:=X.cells;have l_:Hid (Below w.heap.size w (w.alloc (.cells #[.string room,.string aK,.string ag,.bool st,.string key,.int .i64 k,.int .i64 i,.string t,.slice pk ks.length ck,.slice pl l.length cl,.slice pp prev.length cp,.slice pa aA.length ca,.int .i64 depth,.int .i64 ts,.string hash,.slice ps sigs.length cs] 28))):=X.below;have G1:Hid _:=H1;have GC:Hid _:=HC;clear X HC e0 e1 H1;go_enter Tryz.func77,Tryz.ntmps77;go_wp2_with(first
  | (go_at_call 104;refine k1.mono ?_;rintro x w1 ⟨rfl,aP⟩
     have g1:=aj g0 aP)
  | (go_at_call 103;refine H0.mono ?_;rintro x w0 ⟨rfl,dS⟩
     have g0:=dS;have k1:=G1.out w0 g0;have zL:=GC.out w0 g0 0 _ rfl;have zM:=GC.out w0 g0 1 _ rfl;have zO:=GC.out w0 g0 2 _ rfl;have zP:=GC.out w0 g0 3 _ rfl;have zQ:=GC.out w0 g0 4 _ rfl;have zR:=GC.out w0 g0 5 _ rfl;have zS:=GC.out w0 g0 6 _ rfl;have zT:=GC.out w0 g0 7 _ rfl;have zU:=GC.out w0 g0 8 _ rfl;have zV:=GC.out w0 g0 9 _ rfl;have qF:=GC.out w0 g0 10 _ rfl;have qG:=GC.out w0 g0 11 _ rfl;have qH:=GC.out w0 g0 12 _ rfl;have qI:=GC.out w0 g0 13 _ rfl;have qJ:=GC.out w0 g0 14 _ rfl;have qK:=GC.out w0 g0 15 _ rfl))
 go_ret;exact⟨ai HS.out.symm,aj l_.out g1⟩
theorem MX(room aK ag:ByteArray)(st:Bool)(key:ByteArray)(k i:Int)(t:ByteArray)(ks:List ByteArray)(l:List J)(prev aA:List ByteArray)(depth ts:Int)(hash:ByteArray)(sigs:List (ByteArray×ByteArray))(pk:Option Addr)(ck:Nat)(pl:Option Addr)(cl:Nat)(pp:Option Addr)(cp:Nat)(pa:Option Addr)(ca:Nat)(ps:Option Addr)(cs:Nat)(w:World)(X:MU room aK ag st key k i t ks l prev aA depth ts hash sigs pk ck pl cl pp cp pa ca ps cs w)(e0:dU ⟨room,aK,ag,st,key,⟨k,i,t,ks,l⟩,prev,aA,depth,ts,hash,sigs⟩=true)(e1:fH ⟨room,aK,ag,st,key,⟨k,i,t,ks,l⟩,prev,aA,depth,ts,hash,sigs⟩=true)(e2:dz ⟨k,i,t,ks,l⟩=false):
    Calls Tryz.prog 77 #[.agg #[.string room,.string aK,.string ag,.bool st,.string key,.int .i64 k,.int .i64 i,.string t,.slice pk ks.length ck,.slice pl l.length cl,.slice pp prev.length cp,.slice pa aA.length ca,.int .i64 depth,.int .i64 ts,.string hash,.slice ps sigs.length cs]] w fun x w'=>x=.returned (.bool (aG ⟨room,aK,ag,st,key,⟨k,i,t,ks,l⟩,prev,aA,depth,ts,hash,sigs⟩))/\Below w.heap.size w w':=by
 have HS:Hid (aG ⟨room,aK,ag,st,key,⟨k,i,t,ks,l⟩,prev,aA,depth,ts,hash,sigs⟩=false):=by
  show _=_
  unfold aG;simp only[e0,e1,e2];simp
 have H0:=X.h0 _ (Below.refl _ _);rw[e0]at H0;have H1:=X.h1;rw[e1]at H1;have H2:=X.h2;rw[e2]at H2;have HC:=X.cells;have l_:Hid (Below w.heap.size w (w.alloc (.cells #[.string room,.string aK,.string ag,.bool st,.string key,.int .i64 k,.int .i64 i,.string t,.slice pk ks.length ck,.slice pl l.length cl,.slice pp prev.length cp,.slice pa aA.length ca,.int .i64 depth,.int .i64 ts,.string hash,.slice ps sigs.length cs] 28))):=X.below;have G1:Hid _:=H1;have G2:Hid _:=H2;have GC:Hid _:=HC;clear X HC e0 e1 e2 H1 H2;go_enter Tryz.func77,Tryz.ntmps77;go_wp2_with(first
  | (go_at_call 105;refine k2.mono ?_;rintro x w2 ⟨rfl,aT⟩
     have g2:=aj g1 aT)
  | (go_at_call 104;refine k1.mono ?_;rintro x w1 ⟨rfl,aP⟩
     have g1:=aj g0 aP;have k2:=G2.out w1 g1;have Cc:=GC.out w1 g1 5 _ rfl;have Ce:=GC.out w1 g1 6 _ rfl;have Cf:=GC.out w1 g1 7 _ rfl;have Cg:=GC.out w1 g1 8 _ rfl;have Ch:=GC.out w1 g1 9 _ rfl)
  | (go_at_call 103;refine H0.mono ?_;rintro x w0 ⟨rfl,dS⟩
     have g0:=dS;have k1:=G1.out w0 g0;have zL:=GC.out w0 g0 0 _ rfl;have zM:=GC.out w0 g0 1 _ rfl;have zO:=GC.out w0 g0 2 _ rfl;have zP:=GC.out w0 g0 3 _ rfl;have zQ:=GC.out w0 g0 4 _ rfl;have zR:=GC.out w0 g0 5 _ rfl;have zS:=GC.out w0 g0 6 _ rfl;have zT:=GC.out w0 g0 7 _ rfl;have zU:=GC.out w0 g0 8 _ rfl;have zV:=GC.out w0 g0 9 _ rfl;have qF:=GC.out w0 g0 10 _ rfl;have qG:=GC.out w0 g0 11 _ rfl;have qH:=GC.out w0 g0 12 _ rfl;have qI:=GC.out w0 g0 13 _ rfl;have qJ:=GC.out w0 g0 14 _ rfl;have qK:=GC.out w0 g0 15 _ rfl))
 go_ret;exact⟨ai HS.out.symm,aj l_.out g2⟩
end Go.Proofs.YtldegjjaknelgaaGreatDoor

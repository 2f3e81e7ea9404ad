/- A part. -/
import Derived.Test.YtegcgbjjpgjnmaaGreatDoorE05
set_option maxRecDepth 100000
set_option maxHeartbeats 16000000
namespace Go.Proofs.YtegcgbjjpgjnmaaGreatDoor
open Go.RowKit
abbrev Pb(K:Nat)(w:World):Prop:=∀w',Below K w w'->Lib.Utf8Tabs (Tryz.laysValid_ren.g 3) (Tryz.laysValid_ren.g 4) w'
theorem jq{a b c:World}(h:Below a.heap.size a b)(g:Below b.heap.size b c):Below a.heap.size a c:=h.trans ⟨g.os,g.tape,g.output,g.size,fun k hk=>g.block k (by have:=h.size;omega)⟩
theorem Pb.below{w w':World}(h:Pb w.heap.size w)(hb:Below w.heap.size w w'):Pb w'.heap.size w':=fun w2 h2=>h w2 (jq hb h2)
theorem Pd{t:ByteArray}:t.toList.isEmpty=decide (t.size=0):=by
 rw[Lib.toList_data,Bool.eq_iff_iff,List.isEmpty_iff,decide_eq_true_eq,<-List.length_eq_zero_iff]
 rfl
theorem lU{w:World}{cs:List Value}{t:TypeId}(j:Nat)(v:Value)(h:cs[j]?=some v):(w.alloc (.cells cs.toArray t)).cell? ⟨w.heap.size,j,none⟩=some v:=aR (heap_alloc_new _ _) j v h
theorem Pe(e:Ev)(p:Pt)(w:World)(hk:e.key.size<=1000000000)(hT:Pb w.heap.size w):
    Calls Tryz.prog 58 #[ed e p] w fun x w'=>x=.returned (.bool (ig e))/\Below w.heap.size w w':=by
 obtain⟨room,aQ,ah,st,key,⟨k,i,t,ks,l⟩,prev,aC,depth,ts,hash,sigs⟩:=e;obtain⟨pk,ck,pl,cl,pp,cp,pa,ca,ps,cs⟩:=p;simp only at hk;have HR:Hid (∀b,ig ⟨room,aQ,ah,b,key,⟨k,i,t,ks,l⟩,prev,aC,depth,ts,hash,sigs⟩=if b=true then decide (key.size<=128)&&Lib.validD key.data.toList else decide (key.size=0)):=fun _=>rfl;simp only[ed,eP,J.kind,J.int,J.text,J.keys,J.list];obtain⟨C,hC⟩:∃C,C=Obj.cells #[.string room,.string aQ,.string ah,.bool st,.string key,.int .i64 k,.int .i64 i,.string t,.slice pk ks.length ck,.slice pl l.length cl,.slice pp prev.length cp,.slice pa aC.length ca,.int .i64 depth,.int .i64 ts,.string hash,.slice ps sigs.length cs] 28:=⟨_,rfl⟩;have dP:Below w.heap.size w (w.alloc C):=(Below.refl _ _).alloc (Nat.le_refl _) _;have cV:Calls Tryz.prog 99 #[.string key] (w.alloc C) _:=Any.utf8_ValidString Tryz.laysValid key (w.alloc C) (by omega) (hT _ dP);rw[hC]at cV dP;clear hC
 cases st with
 | false=>
  have h:=HR.out false;go_enter Tryz.func58,Tryz.ntmps58;go_wp2;go_ret;refine⟨av ?_,dP⟩;rw[h,if_neg (by decide)];exact Pd
 | true=>
  by_cases h1:key.size<=128
  ·have h1i:(key.size:Int)<=128:=by omega
   go_enter Tryz.func58,Tryz.ntmps58;go_wp2_with(go_at_call 99;refine cV.mono ?_;rintro e w' ⟨rfl,hb⟩);go_ret;refine⟨av ?_,jq dP hb⟩;rw[HR.out,if_pos rfl,decide_eq_true h1,Bool.true_and]
  ·have h1i:¬(key.size:Int)<=128:=by omega
   go_enter Tryz.func58,Tryz.ntmps58;go_wp2;go_ret;refine⟨av ?_,dP⟩;rw[HR.out,if_pos rfl,decide_eq_false h1,Bool.false_and]
theorem KD(e:Ev)(p:Pt)(w:World)(h1:e.room.size<=1000000000)(h2:e.ah.size<=1000000000)(h3:e.aQ.size<=1000000000):
    Calls Tryz.prog 57 #[ed e p] w fun x w'=>x=.returned (.bool (fJ e))/\Below w.heap.size w w':=by
 obtain⟨room,aQ,ah,st,key,⟨k,i,t,ks,l⟩,prev,aC,depth,ts,hash,sigs⟩:=e;obtain⟨pk,ck,pl,cl,pp,cp,pa,ca,ps,cs⟩:=p;simp only at h1 h2 h3;have HR:Hid (fJ ⟨room,aQ,ah,st,key,⟨k,i,t,ks,l⟩,prev,aC,depth,ts,hash,sigs⟩=((Id.parts 33 room).2.2&&(Id.parts 64 ah).2.2&&Id.aQ aQ)):=rfl;simp only[ed,eP,J.kind,J.int,J.text,J.keys,J.list];obtain⟨C,hC⟩:∃C,C=Obj.cells #[.string room,.string aQ,.string ah,.bool st,.string key,.int .i64 k,.int .i64 i,.string t,.slice pk ks.length ck,.slice pl l.length cl,.slice pp prev.length cp,.slice pa aC.length ca,.int .i64 depth,.int .i64 ts,.string hash,.slice ps sigs.length cs] 28:=⟨_,rfl⟩;have dP:Below w.heap.size w (w.alloc C):=(Below.refl _ _).alloc (Nat.le_refl _) _;have hcA:∀W,Below (w.alloc C).heap.size (w.alloc C) W->W.cell? ⟨w.heap.size,2,none⟩=some (.string ah)/\W.cell? ⟨w.heap.size,1,none⟩=some (.string aQ):=fun W hW=>by
  have hb:=World.cell?_of_block (a:=⟨w.heap.size,2,none⟩) (hW.block w.heap.size (by simp));have zk:=World.cell?_of_block (a:=⟨w.heap.size,1,none⟩) (hW.block w.heap.size (by simp));rw[hb,zk,hC];exact⟨lU (cs:= [_,_,_,_,_,_,_,_,_,_,_,_,_,_,_,_]) 2 _ rfl,lU (cs:= [_,_,_,_,_,_,_,_,_,_,_,_,_,_,_,_]) 1 _ rfl⟩
 have cR:=Id.Rw room (w.alloc C) (by omega);have Cr:Hid (∀W,Below (w.alloc C).heap.size (w.alloc C) W->W.cell? ⟨w.heap.size,2,none⟩=some (.string ah)/\W.cell? ⟨w.heap.size,1,none⟩=some (.string aQ)):=hcA;have rO:Hid (Below w.heap.size w (w.alloc C)):=dP;clear hcA dP;unfold Id.told at cR;generalize Id.parts 33 room=R at cR HR;obtain⟨r1,r2,r3⟩:=R;have hu:=fun W=>Id.Rv ah W (by omega);unfold Id.told at hu;generalize Id.parts 64 ah=U at hu HR;obtain⟨u1,u2,u3⟩:=U;simp only at cR hu HR;rw[hC]at cR Cr rO;clear hC;go_enter Tryz.func57,Tryz.ntmps57
 cases r3<;>cases u3
 all_goals
  go_wp2_with(first
   | (go_at_call 96;refine cR.mono ?_;rintro e w1 ⟨rfl,bI⟩;have NG:=(Cr.out w1 bI).1;have hU:=hu w1)
   | (go_at_call 97;refine hU.mono ?_;rintro e w2 ⟨rfl,bM⟩;have Pf:=(Cr.out w2 (jq bI bM)).2;have hTy:=Id.Ro aQ w2 (by omega))
   | (go_at_call 98;refine hTy.mono ?_;rintro e w3 ⟨rfl,a_⟩))
  go_ret
 ·exact⟨av HR.out.symm,jq rO.out (jq bI bM)⟩
 ·exact⟨av HR.out.symm,jq rO.out (jq bI bM)⟩
 ·exact⟨av HR.out.symm,jq rO.out (jq bI bM)⟩
 ·exact⟨av HR.out.symm,jq rO.out (jq bI (jq bM a_))⟩
theorem KE(a b:ByteArray):Op.bytesLess a.toList b.toList=pE a b:=by
 rw[Lib.toList_data,Lib.toList_data];unfold pE;generalize a.data.toList=x;generalize b.data.toList=y
 induction x generalizing y with
 | nil=>cases y<;>simp[Op.bytesLess,lessB]
 | cons c x ih=>
  cases y with
  | nil=>simp[Op.bytesLess,lessB]
  | cons d y=>
   unfold Op.bytesLess lessB;rw[ih y]
   by_cases h1:c<d
   ·simp[h1]
   ·by_cases h2:c=d
    ·subst h2;simp
    ·simp[h1,h2]
theorem EN:∀(l:List (ByteArray×ByteArray)),riseS l=true↔∀j,0<j->j<l.length->pE (l.getD (j - 1) (aH,aH)).1 (l.getD j (aH,aH)).1=true
 | []=>⟨fun _ j _ hj=>absurd hj (by simp),fun _=>rfl⟩
 | [a]=>⟨fun _ j h0 hj=>absurd hj (by simp;omega),fun _=>rfl⟩
 | a::b::r=>by
  unfold riseS;rw[Bool.and_eq_true,EN (b::r)]
  constructor
  ·rintro⟨h1,h2⟩ j h0 hj
   match j,h0,hj with
   | 1,_,_=>simpa using h1
   | j+2,_,hj=>
    have:=h2 (j+1) (by omega) (by simpa using hj);simpa using this
  ·intro h;refine⟨by simpa using h 1 (by omega) (by simp),fun j h0 hj=> ?_⟩;have:=h (j+1) (by omega) (by simpa using hj)
   match j,h0 with
   | j+1,_=>simpa using this
def uN(s:ByteArray×ByteArray):Bool:=Id.EH s.1&&iH s.2
theorem yu{l:List (ByteArray×ByteArray)}(hl:l.length<=4)(h:∀j,j<l.length->uN (l.getD j (aH,aH))=true/\(0<j->pE (l.getD (j - 1) (aH,aH)).1 (l.getD j (aH,aH)).1=true)):di l=true:=by
 unfold di;rw[Bool.and_eq_true,Bool.and_eq_true,decide_eq_true_eq];refine⟨⟨hl, ?_⟩,(EN l).2 fun j h0 hj=>(h j hj).2 h0⟩;rw[List.all_eq_true];intro x hx;obtain⟨j,hj,rfl⟩:=List.getElem_of_mem hx;have:=(h j hj).1;rw[List.getD_eq_getElem?_getD,List.getElem?_eq_getElem hj]at this;exact this
theorem qU{l:List (ByteArray×ByteArray)}{j:Nat}(hj:j<l.length)(h:uN (l.getD j (aH,aH))=false):di l=false:=by
 cases hs:di l with
 | false=>rfl
 | true=>
  unfold di at hs;rw[Bool.and_eq_true,Bool.and_eq_true,List.all_eq_true]at hs;have:=hs.1.2 (l.getD j (aH,aH)) (by rw[List.getD_eq_getElem?_getD,List.getElem?_eq_getElem hj];exact List.getElem_mem _);unfold uN at h;rw[h]at this
  cases this
theorem uO{l:List (ByteArray×ByteArray)}{j:Nat}(h0:0<j)(hj:j<l.length)(h:pE (l.getD (j - 1) (aH,aH)).1 (l.getD j (aH,aH)).1=false):di l=false:=by
 cases hs:di l with
 | false=>rfl
 | true=>
  unfold di at hs;rw[Bool.and_eq_true]at hs;rw[(EN l).1 hs.2 j h0 hj]at h
  cases h
theorem below_drewN{B:Nat}{a b:World}(h:Below B a b)(n:Nat):Below B a (b.drewN n):=⟨h.os,h.tape,h.output,h.size,h.block⟩
theorem pY{w:World}{a b:Value}{t:TypeId}{W:World}(hW:Below (w.alloc (.cells #[a,b] t)).heap.size (w.alloc (.cells #[a,b] t)) W):W.cell? ⟨w.heap.size,0,none⟩=some a/\W.cell? ⟨w.heap.size,1,none⟩=some b:=by
 have h0:=World.cell?_of_block (a:=⟨w.heap.size,0,none⟩) (hW.block w.heap.size (by simp));have h1:=World.cell?_of_block (a:=⟨w.heap.size,1,none⟩) (hW.block w.heap.size (by simp));rw[h0,h1];exact⟨lU (cs:= [_,_]) 0 _ rfl,lU (cs:= [_,_]) 1 _ rfl⟩
theorem KF{O:Nat->Prop}{l:List (ByteArray×ByteArray)}{p:Option Addr}{c:Nat}{w:World}(l_:Aa O w p c l)(hO:∀k,O k->k<w.heap.size)(hl:l.length<=100000)(hz:∀x∈l,x.1.size<=1000000000/\x.2.size<=1000000000):
    Calls Tryz.prog 63 #[.slice p l.length c] w fun x w'=>x=.returned (.bool (di l))/\Below w.heap.size w w':=by
 obtain⟨n,hn⟩:∃n,l.length=n:=⟨_,rfl⟩;have HN:Hid (l.length=n):=hn;have Q7:=l_.1;rw[hn]at hl Q7 ⊢;clear hn
 by_cases h4:(4:Int)<(n:Int)
 ·have HF:Hid (di l=false):=by
    show _=_
    unfold di;rw[HN.out,decide_eq_false (by omega),Bool.false_and,Bool.false_and]
  go_enter Tryz.func63,Tryz.ntmps63;go_wp2;go_ret;exact⟨av HF.out.symm,Below.refl _ _⟩
 go_enter Tryz.func63,Tryz.ntmps63;go_wp2
 go_loopw [10] (fun i wr=>∃k:Nat,i=.int .i64 k/\k<=n/\Hid (∀j,j<k->uN (l.getD j (aH,aH))=true/\(0<j->pE (l.getD (j - 1) (aH,aH)).1 (l.getD j (aH,aH)).1=true))/\Below w.heap.size w wr) (fun i _=>n - (intOf i).toNat)
 case atStart=>exact⟨0,rfl,Nat.zero_le _,fun j hj=>absurd hj (by omega),Below.refl _ _⟩
 case round=>
  obtain⟨k,rfl,hk,HG,hb⟩:=hrel
  by_cases bJ:k<n
  ·have Vo:(k:Int)<(n:Int):=by omega
   have gM:k<l.length:=by rw[HN.out];exact bJ
   have BX:Hid (k<l.length):=gM;obtain⟨b,o,hp,xz,GI,vw⟩:=l_.2 k gM;have hcP:Hid (∀j,j<l.length->∀W:World,Below w.heap.size w W->W.cell? ⟨b,o+j*2,none⟩=some (.string (l.getD j (aH,aH)).1)):=by
    intro j hj W hW;obtain⟨b',o',hp',hO',h1',h2'⟩:=l_.2 j hj;rw[hp]at hp'
    cases hp'
    exact(World.cell?_of_block (a:=⟨b,o+j*2,none⟩) (hW.block _ (hO _ hO'))).trans h1'
   subst hp;have hx:=hz (l.getD k (aH,aH)) (by rw[List.getD_eq_getElem?_getD,List.getElem?_eq_getElem gM];exact List.getElem_mem _);have d1:wr.cell? ⟨b,o+k*2,none⟩=some (.string (l.getD k (aH,aH)).1):=(World.cell?_of_block (a:=⟨b,o+k*2,none⟩) (hb.block _ (hO _ xz))).trans GI;have d2:wr.cell? ⟨b,o+k*2+1,none⟩=some (.string (l.getD k (aH,aH)).2):=(World.cell?_of_block (a:=⟨b,o+k*2+1,none⟩) (hb.block _ (hO _ xz))).trans vw;have Q8:Hid (uN (l.getD k (aH,aH))=(Id.EH (l.getD k (aH,aH)).1&&iH (l.getD k (aH,aH)).2)):=rfl;obtain⟨x1,xg⟩:∃x,(l.getD k (aH,aH)).1=x:=⟨_,rfl⟩;obtain⟨x2,zX⟩:∃x,(l.getD k (aH,aH)).2=x:=⟨_,rfl⟩;have HX1:Hid ((l.getD k (aH,aH)).1=x1):=xg;rw[xg]at d1 hx Q8;rw[zX]at d2 hx Q8;clear GI vw xg zX gM;have dP:Below w.heap.size w (wr.alloc (.cells #[.string x1,.string x2] 56)):=hb.alloc hb.size _;have hS:=Id.ve x1 (wr.alloc (.cells #[.string x1,.string x2] 56)) (by omega);have hD:=fun W=>Al x2 W hx.2
   cases hs:Id.EH x1 with
   | false=>
    have HF:Hid (di l=false):=qU BX.out (by rw[Q8.out,hs];rfl);rw[hs]at hS;go_wp2_with(go_at_call 102;refine hS.mono ?_;rintro x w1 ⟨rfl,bI⟩);go_ret;exact⟨av HF.out.symm,dP.trans ⟨bI.os,bI.tape,bI.output,bI.size,fun k hk=>bI.block k (by have:=dP.size;omega)⟩⟩
   | true=>
    rw[hs]at hS
    cases hd:iH x2 with
    | false=>
     have HF:Hid (di l=false):=qU BX.out (by rw[Q8.out,hs,hd];rfl);rw[hd]at hD;go_wp2_with(first
      | (go_at_call 102;refine hS.mono ?_;rintro x w1 ⟨rfl,bI⟩;have e1:=(pY bI).2;have YE:=hD w1)
      | (go_at_call 62;refine YE.mono ?_;rintro x w2 ⟨rfl,bM⟩))
     go_ret;exact⟨av HF.out.symm,dP.trans ⟨bI.os,bI.tape,bI.output,bI.size,fun k hk=>bI.block k (by have:=dP.size;omega)⟩ |>.trans ⟨bM.os,bM.tape,bM.output,bM.size,fun k hk=>bM.block k (by have:=dP.size;have:=bI.size;omega)⟩⟩
    | true=>
     rw[hd]at hD;have RU:Hid (uN (l.getD k (aH,aH))=true):=by show _=_;rw[Q8.out,hs,hd];rfl
     have XF:Hid (∀w1 w2,Below (wr.alloc (.cells #[.string x1,.string x2] 56)).heap.size (wr.alloc (.cells #[.string x1,.string x2] 56)) w1->Below w1.heap.size w1 w2->Below w.heap.size w w2):=fun w1 w2 bI bM=>
      dP.trans ⟨bI.os,bI.tape,bI.output,bI.size,fun k hk=>bI.block k (by have:=dP.size;omega)⟩ |>.trans ⟨bM.os,bM.tape,bM.output,bM.size,fun k hk=>bM.block k (by have:=dP.size;have:=bI.size;omega)⟩
     clear dP
     cases k with
     | zero=>
      simp only[Nat.zero_mul,Nat.add_zero]at d1 d2;go_wp2_with(first
       | (go_at_call 102;refine hS.mono ?_;rintro x w1 ⟨rfl,bI⟩;have e1:=(pY bI).2;have YE:=hD w1)
       | (go_at_call 62;refine YE.mono ?_;rintro x w2 ⟨rfl,bM⟩))
      go_quiet (fail);go_wp2;go_roundw
      case rel=>exact⟨1,by go_num,bJ,fun j hj=>(by
          obtain rfl:j=0:=(by omega);exact⟨RU.out,fun h=>absurd h (by omega)⟩),below_drewN (XF.out w1 w2 bI bM) _⟩
      case measure=>simp[intOf];omega
     | succ m=>
      have mW:m<l.length:=by have:=BX.out;omega
      have UX:(m:Int)<(n:Int):=by omega
      obtain⟨y1,UY⟩:∃x,(l.getD m (aH,aH)).1=x:=⟨_,rfl⟩;have HY1:Hid ((l.getD m (aH,aH)).1=y1):=UY;have hcY:=hcP.out m mW;rw[UY]at hcY;have YF:Hid (∀W:World,Below w.heap.size w W->W.cell? ⟨b,o+m*2,none⟩=some (.string y1)):=hcY;clear UY hcY mW;have hgt:decide ((0:Int)<((m+1:Nat):Int))=true:=decide_eq_true (by omega)
      cases zY:pE y1 x1 with
      | true=>
       have Ch:Op.bytesLess y1.toList x1.toList=true:=by rw[KE];exact zY
       have HLK:Hid (pE y1 x1=true):=zY;clear zY;go_wp2_with(first
        | (go_at_call 102;refine hS.mono ?_;rintro x w1 ⟨rfl,bI⟩;have e1:=(pY bI).2;have YE:=hD w1)
        | (go_at_call 62;refine YE.mono ?_;rintro x w2 ⟨rfl,bM⟩
           have e2:=(pY (jq bI bM)).1;have e3:=YF.out w2 (XF.out w1 w2 bI bM)))
       go_quiet (fail);go_wp2;go_roundw
       case rel=>exact⟨m+2,by go_num,by omega,fun j hj=>(Nat.lt_succ_iff_lt_or_eq.1 hj).elim (HG.out j) fun e=>by subst e;exact⟨RU.out,fun _=>by rw[Nat.add_sub_cancel,HX1.out,HY1.out];exact HLK.out⟩,below_drewN (XF.out w1 w2 bI bM) _⟩
       case measure=>simp[intOf];omega
      | false=>
       have Ch:Op.bytesLess y1.toList x1.toList=false:=by rw[KE];exact zY
       have HF:Hid (di l=false):=uO (j:=m+1) (by omega) BX.out (by rw[Nat.add_sub_cancel,HX1.out,HY1.out];exact zY);clear zY;go_wp2_with(first
        | (go_at_call 102;refine hS.mono ?_;rintro x w1 ⟨rfl,bI⟩;have e1:=(pY bI).2;have YE:=hD w1)
        | (go_at_call 62;refine YE.mono ?_;rintro x w2 ⟨rfl,bM⟩
           have e2:=(pY (jq bI bM)).1;have e3:=YF.out w2 (XF.out w1 w2 bI bM)))
       go_quiet (fail);go_wp2;go_ret;exact⟨av HF.out.symm,below_drewN (XF.out w1 w2 bI bM) _⟩
  ·obtain rfl:k=n:=by omega
   have HT:Hid (di l=true):=yu (by rw[HN.out];omega) (by rw[HN.out];exact HG.out);go_wp2;go_ret;exact⟨av HT.out.symm,hb⟩
theorem Tryz.Gn:(Tryz.prog.info? 5).map (fun i=>(i.zero,i.size,i.bytes))=some (some (.int .u8 0),1,1):=by kernel_rfl
theorem oV{w:World}{eH:Array Oper}{rest:List Oper}{o:Oper}{a:Act}{Q:Exit->Act->World->Prop}(RA:o.guard=none)(s x:Operand)(t e:TypeId)(k:IntKind)(bytes:Nat)
    (ho:o.op=.call {callee:=.builtin .append,args:=#[s,x],argTypes:=#[t,t]}) (ht:Tryz.prog.underlying t=some (.slice e))
    (sw:(Tryz.prog.info? e).map (fun i=>(i.zero,i.size,i.bytes))=some (some (.int k 0),1,bytes)) (FY:bytes<=8)
    (base:Nat) (v:Value) (L:List Int) (hs:a.eval s=v) (aT:w.ownsRow base e 1 v L.length (L.map (Value.int k)))
    (ad:Addr) (y:Int) (hx:a.eval x=.slice (some ad) 1 1) (hc:w.cell? ad=some (.int k y)) (cB:L.length<=1000000000) (rH:base<=w.heap.size)
    (h:∀v' w',w'.ownsRow base e 1 v' (L++ [y]).length ((L++ [y]).map (Value.int k))->w.grownBy w' v.ownBlock->wpList Tryz.prog eH Q rest (a.put o.dst v') w'):wpList Tryz.prog eH Q (o::rest) a w:=by
 obtain⟨i0,hi,vZ,yo,zq⟩:=info_parts sw;refine wpList_append_own w RA s x t ho base e i0 (.int k 0) 1 bytes ht hi vZ yo zq rfl (by decide) v L.length (L.map (Value.int k)) hs aT ad 1 1 [.int k y] hx rfl (fun j u hj=> ?_) (fun u hu=> ?_) (by unfold maxLen;omega) ?_ rH ?_
 ·match j,hj with
  | 0,hj=>simp at hj;subst hj;simpa [Addr.add]using hc
 ·simp at hu;subst hu;rfl
 ·have:(L.length+1)*bytes<=(L.length+1)*8:=Nat.mul_le_mul_left _ FY;omega
 ·intro v' w' zW rF _;exact h v' w' (by rw[List.length_append,List.map_append];exact zW) rF
theorem KG{w:World}{B:Nat}{v:Value}{xs:List Int}(h:w.ownsRow B 5 1 v xs.length (xs.map (Value.int .u8))):
    (convert 40 9 v).run Tryz.prog w=.ok (.string (strOfNums xs)) w:=by
 rcases h.2 with⟨rfl,hn⟩| ⟨g,cap,cur,rfl,hg,_⟩
 ·obtain rfl:xs= []:=List.eq_nil_of_length_eq_zero hn;exact run_convert_bytes_nil w 40 5 Tryz.underlying40 Tryz.underlying5 0 0 9 Tryz.underlying9
 ·refine run_convert_bytes_arg w 40 5 Tryz.underlying40 Tryz.underlying5 g 0 xs.length cap xs rfl (fun i hi=> ?_) 9 Tryz.underlying9;rw[Nat.zero_add,h.cellAt i (by omega),List.getElem?_map,List.getElem?_eq_getElem hi,List.getD_eq_getElem?_getD,List.getElem?_eq_getElem hi]
  rfl
theorem aM{w:World}{B e size n:Nat}{v:Value}{xs:List Value}(h:w.ownsRow B e size v n xs):∀k,v.ownBlock=some k->B<=k/\k<w.heap.size:=by
 intro k hk
 rcases h.2 with⟨rfl,_⟩| ⟨g,cap,cur,rfl,hg,xn,_⟩
 ·cases hk
 ·cases hk;exact⟨hg,(Array.getElem?_eq_some_iff.1 xn).1⟩
theorem aj.grown{S:Nat->Prop}{a b c:World}{row:Option Nat}(h:aj S a b)(hg:b.grownBy c row)(hr:∀k,row=some k->a.heap.size<=k):aj S a c:=
 h.trans (S':=fun k=>row=some k) (aj.dm hg fun _ _ e=>e) fun i hi e=>absurd (hr i e) (by omega)
end Go.Proofs.YtegcgbjjpgjnmaaGreatDoor

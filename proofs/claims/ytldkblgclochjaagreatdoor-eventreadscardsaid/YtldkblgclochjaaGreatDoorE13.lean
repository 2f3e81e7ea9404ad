/- A part. -/
import Derived.Test.YtldkblgclochjaaGreatDoorE12
set_option maxRecDepth 100000
set_option maxHeartbeats 16000000
namespace Go.Proofs.YtldkblgclochjaaGreatDoor
open Go.RowKit
abbrev SS(K:Nat)(w:World):Prop:=∀w',Below K w w'->Lib.Utf8Tabs (Tryz.laysValid_ren.g 3) (Tryz.laysValid_ren.g 4) w'
theorem jH{a b c:World}(h:Below a.heap.size a b)(g:Below b.heap.size b c):Below a.heap.size a c:=h.trans ⟨g.os,g.tape,g.output,g.size,fun k d=>g.block k (by have:=h.size;omega)⟩
theorem SS.below{w w':World}(h:SS w.heap.size w)(d:Below w.heap.size w w'):SS w'.heap.size w':=fun c h2=>h c (jH d h2)
theorem SV{t:ByteArray}:t.toList.isEmpty=decide (t.size=0):=by
 rw[Lib.toList_data,Bool.eq_iff_iff,List.isEmpty_iff,decide_eq_true_eq,<-List.length_eq_zero_iff]
 rfl
theorem mP{w:World}{cs:List Value}{t:TypeId}(j:Nat)(v:Value)(h:cs[j]?=some v):(w.alloc (.cells cs.toArray t)).cell? ⟨w.heap.size,j,none⟩=some v:=aQ (heap_alloc_new _ _) j v h
theorem SX(e:Ev)(p:Pt)(w:World)(A:e.key.size<=1000000000)(z:SS w.heap.size w):
    Calls Tryz.prog 58 #[fA e p] w fun x w'=>x=.returned (.bool (iO e))/\Below w.heap.size w w':=by
 obtain⟨room,aU,ai,st,key,⟨k,i,t,ks,l⟩,prev,aA,depth,ts,hash,sigs⟩:=e;obtain⟨pk,ck,pl,cl,pp,cp,pa,ca,ps,cs⟩:=p;simp only at A;have f:Hid (∀b,iO ⟨room,aU,ai,b,key,⟨k,i,t,ks,l⟩,prev,aA,depth,ts,hash,sigs⟩=if b=true then decide (key.size<=128)&&Lib.validD key.data.toList else decide (key.size=0)):=fun _=>rfl;simp only[fA,iN,J.kind,J.int,J.text,J.keys,J.list];obtain⟨C,j⟩:∃C,C=Obj.cells #[.string room,.string aU,.string ai,.bool st,.string key,.int .i64 k,.int .i64 i,.string t,.slice pk ks.length ck,.slice pl l.length cl,.slice pp prev.length cp,.slice pa aA.length ca,.int .i64 depth,.int .i64 ts,.string hash,.slice ps sigs.length cs] 29:=⟨_,rfl⟩;have c:Below w.heap.size w (w.alloc C):=(Below.refl _ _).alloc (Nat.le_refl _) _;have m:Calls Tryz.prog 96 #[.string key] (w.alloc C) _:=Any.utf8_ValidString Tryz.laysValid key (w.alloc C) (by omega) (z _ c);rw[j]at m c;clear j
 cases st with
 | false=>
  have h:=f.out false;go_enter Tryz.func58,Tryz.ntmps58;go_wp2;go_ret;refine⟨ak ?_,c⟩;rw[h,if_neg (by decide)];exact SV
 | true=>
  by_cases h1:key.size<=128
  ·have d:(key.size:Int)<=128:=by omega
   go_enter Tryz.func58,Tryz.ntmps58;go_wp2_with(go_at_call 96;refine m.mono ?_;rintro e w' ⟨rfl,u⟩);go_ret;refine⟨ak ?_,jH c u⟩;rw[f.out,if_pos rfl,decide_eq_true h1,Bool.true_and]
  ·have d:¬(key.size:Int)<=128:=by omega
   go_enter Tryz.func58,Tryz.ntmps58;go_wp2;go_ret;refine⟨ak ?_,c⟩;rw[f.out,if_pos rfl,decide_eq_false h1,Bool.false_and]
theorem Oe(e:Ev)(p:Pt)(w:World)(h1:e.room.size<=1000000000)(h2:e.ai.size<=1000000000)(h3:e.aU.size<=1000000000):
    Calls Tryz.prog 57 #[fA e p] w fun x w'=>x=.returned (.bool (gu e))/\Below w.heap.size w w':=by
 obtain⟨room,aU,ai,st,key,⟨k,i,t,ks,l⟩,prev,aA,depth,ts,hash,sigs⟩:=e;obtain⟨pk,ck,pl,cl,pp,cp,pa,ca,ps,cs⟩:=p;simp only at h1 h2 h3;have c:Hid (gu ⟨room,aU,ai,st,key,⟨k,i,t,ks,l⟩,prev,aA,depth,ts,hash,sigs⟩=((Id.parts 33 room).2.2&&(Id.parts 64 ai).2.2&&Id.aU aU)):=rfl;simp only[fA,iN,J.kind,J.int,J.text,J.keys,J.list];obtain⟨C,A⟩:∃C,C=Obj.cells #[.string room,.string aU,.string ai,.bool st,.string key,.int .i64 k,.int .i64 i,.string t,.slice pk ks.length ck,.slice pl l.length cl,.slice pp prev.length cp,.slice pa aA.length ca,.int .i64 depth,.int .i64 ts,.string hash,.slice ps sigs.length cs] 29:=⟨_,rfl⟩;have G:Below w.heap.size w (w.alloc C):=(Below.refl _ _).alloc (Nat.le_refl _) _;have m:∀W,Below (w.alloc C).heap.size (w.alloc C) W->W.cell? ⟨w.heap.size,2,none⟩=some (.string ai)/\W.cell? ⟨w.heap.size,1,none⟩=some (.string aU):=fun W H=>by
  have K:=World.cell?_of_block (a:=⟨w.heap.size,2,none⟩) (H.block w.heap.size (by simp));have S:=World.cell?_of_block (a:=⟨w.heap.size,1,none⟩) (H.block w.heap.size (by simp));rw[K,S,A];exact⟨mP (cs:= [_,_,_,_,_,_,_,_,_,_,_,_,_,_,_,_]) 2 _ rfl,mP (cs:= [_,_,_,_,_,_,_,_,_,_,_,_,_,_,_,_]) 1 _ rfl⟩
 have f:=Id.V7 room (w.alloc C) (by omega);have z:Hid (∀W,Below (w.alloc C).heap.size (w.alloc C) W->W.cell? ⟨w.heap.size,2,none⟩=some (.string ai)/\W.cell? ⟨w.heap.size,1,none⟩=some (.string aU)):=m;have j:Hid (Below w.heap.size w (w.alloc C)):=G;clear m G;unfold Id.told at f;generalize Id.parts 33 room=R at f c;obtain⟨X,Z,V⟩:=R;have u:=fun W=>Id.V6 ai W (by omega);unfold Id.told at u;generalize Id.parts 64 ai=U at u c;obtain⟨u1,u2,u3⟩:=U;simp only at f u c;rw[A]at f z j;clear A;go_enter Tryz.func57,Tryz.ntmps57
 cases V<;>cases u3
 all_goals
  go_wp2_with(first
   | (go_at_call 93;refine f.mono ?_;rintro e I ⟨rfl,d⟩;have Qx:=(z.out I d).1;have N:=u I)
   | (go_at_call 94;refine N.mono ?_;rintro e F ⟨rfl,h⟩;have Y:=(z.out F (jH d h)).2;have E:=Id.VY aU F (by omega))
   | (go_at_call 95;refine E.mono ?_;rintro e w3 ⟨rfl,T⟩))
  go_ret
 ·exact⟨ak c.out.symm,jH j.out (jH d h)⟩
 ·exact⟨ak c.out.symm,jH j.out (jH d h)⟩
 ·exact⟨ak c.out.symm,jH j.out (jH d h)⟩
 ·exact⟨ak c.out.symm,jH j.out (jH d (jH h T))⟩
theorem Og(a b:ByteArray):Op.bytesLess a.toList b.toList=pQ a b:=by
 rw[Lib.toList_data,Lib.toList_data];unfold pQ;generalize a.data.toList=x;generalize b.data.toList=y
 induction x generalizing y with
 | nil=>cases y<;>simp[Op.bytesLess,lessB]
 | cons c x ih=>
  cases y with
  | nil=>simp[Op.bytesLess,lessB]
  | cons d y=>
   unfold Op.bytesLess lessB;rw[ih y]
   by_cases h1:c<d
   ·simp[h1]
   ·by_cases h2:c=d
    ·subst h2;simp
    ·simp[h1,h2]
theorem Hg:∀(l:List (ByteArray×ByteArray)),riseS l=true↔∀j,0<j->j<l.length->pQ (l.getD (j - 1) (aH,aH)).1 (l.getD j (aH,aH)).1=true
 | []=>⟨fun _ j _ c=>absurd c (by simp),fun _=>rfl⟩
 | [a]=>⟨fun _ j h0 c=>absurd c (by simp;omega),fun _=>rfl⟩
 | a::b::r=>by
  unfold riseS;rw[Bool.and_eq_true,Hg (b::r)]
  constructor
  ·rintro⟨h1,h2⟩ j h0 c
   match j,h0,c with
   | 1,_,_=>simpa using h1
   | j+2,_,c=>
    have:=h2 (j+1) (by omega) (by simpa using c);simpa using this
  ·intro h;refine⟨by simpa using h 1 (by omega) (by simp),fun j h0 c=> ?_⟩;have:=h (j+1) (by omega) (by simpa using c)
   match j,h0 with
   | j+1,_=>simpa using this
def wF(s:ByteArray×ByteArray):Bool:=Id.Ha s.1&&iX s.2
theorem Ak{l:List (ByteArray×ByteArray)}(f:l.length<=4)(h:∀j,j<l.length->wF (l.getD j (aH,aH))=true/\(0<j->pQ (l.getD (j - 1) (aH,aH)).1 (l.getD j (aH,aH)).1=true)):dE l=true:=by
 unfold dE;rw[Bool.and_eq_true,Bool.and_eq_true,decide_eq_true_eq];refine⟨⟨f, ?_⟩,(Hg l).2 fun j h0 c=>(h j c).2 h0⟩;rw[List.all_eq_true];intro x d;obtain⟨j,c,rfl⟩:=List.getElem_of_mem d;have:=(h j c).1;rw[List.getD_eq_getElem?_getD,List.getElem?_eq_getElem c]at this;exact this
theorem sJ{l:List (ByteArray×ByteArray)}{j:Nat}(c:j<l.length)(h:wF (l.getD j (aH,aH))=false):dE l=false:=by
 cases hs:dE l with
 | false=>rfl
 | true=>
  unfold dE at hs;rw[Bool.and_eq_true,Bool.and_eq_true,List.all_eq_true]at hs;have:=hs.1.2 (l.getD j (aH,aH)) (by rw[List.getD_eq_getElem?_getD,List.getElem?_eq_getElem c];exact List.getElem_mem _);unfold wF at h;rw[h]at this
  cases this
theorem wG{l:List (ByteArray×ByteArray)}{j:Nat}(h0:0<j)(c:j<l.length)(h:pQ (l.getD (j - 1) (aH,aH)).1 (l.getD j (aH,aH)).1=false):dE l=false:=by
 cases hs:dE l with
 | false=>rfl
 | true=>
  unfold dE at hs;rw[Bool.and_eq_true]at hs;rw[(Hg l).1 hs.2 j h0 c]at h
  cases h
theorem below_drewN{B:Nat}{a b:World}(h:Below B a b)(n:Nat):Below B a (b.drewN n):=⟨h.os,h.tape,h.output,h.size,h.block⟩
theorem qR{w:World}{a b:Value}{t:TypeId}{W:World}(c:Below (w.alloc (.cells #[a,b] t)).heap.size (w.alloc (.cells #[a,b] t)) W):W.cell? ⟨w.heap.size,0,none⟩=some a/\W.cell? ⟨w.heap.size,1,none⟩=some b:=by
 have h0:=World.cell?_of_block (a:=⟨w.heap.size,0,none⟩) (c.block w.heap.size (by simp));have h1:=World.cell?_of_block (a:=⟨w.heap.size,1,none⟩) (c.block w.heap.size (by simp));rw[h0,h1];exact⟨mP (cs:= [_,_]) 0 _ rfl,mP (cs:= [_,_]) 1 _ rfl⟩
theorem Oh{O:Nat->Prop}{l:List (ByteArray×ByteArray)}{p:Option Addr}{c:Nat}{w:World}(mF:FK O w p c l)(hO:∀k,O k->k<w.heap.size)(hl:l.length<=100000)(hz:∀x∈l,x.1.size<=1000000000/\x.2.size<=1000000000):
    Calls Tryz.prog 63 #[.slice p l.length c] w fun x w'=>x=.returned (.bool (dE l))/\Below w.heap.size w w':=by
 obtain⟨n,hn⟩:∃n,l.length=n:=⟨_,rfl⟩;have HN:Hid (l.length=n):=hn;have UC:=mF.1;rw[hn]at hl UC ⊢;clear hn
 by_cases h4:(4:Int)<(n:Int)
 ·have H:Hid (dE l=false):=by
    show _=_
    unfold dE;rw[HN.out,decide_eq_false (by omega),Bool.false_and,Bool.false_and]
  go_enter Tryz.func63,Tryz.ntmps63;go_wp2;go_ret;exact⟨ak H.out.symm,Below.refl _ _⟩
 go_enter Tryz.func63,Tryz.ntmps63;go_wp2
 go_loopw [10] (fun i wr=>∃k:Nat,i=.int .i64 k/\k<=n/\Hid (∀j,j<k->wF (l.getD j (aH,aH))=true/\(0<j->pQ (l.getD (j - 1) (aH,aH)).1 (l.getD j (aH,aH)).1=true))/\Below w.heap.size w wr) (fun i _=>n - (intOf i).toNat)
 case atStart=>exact⟨0,rfl,Nat.zero_le _,fun j T=>absurd T (by omega),Below.refl _ _⟩
 case round=>
  obtain⟨k,rfl,Y,HG,hb⟩:=hrel
  by_cases bQ:k<n
  ·have hki:(k:Int)<(n:Int):=by omega
   have gZ:k<l.length:=by rw[HN.out];exact bQ
   have Ec:Hid (k<l.length):=gZ;obtain⟨b,o,hp,za,M0,xN⟩:=mF.2 k gZ;have hcP:Hid (∀j,j<l.length->∀W:World,Below w.heap.size w W->W.cell? ⟨b,o+j*2,none⟩=some (.string (l.getD j (aH,aH)).1)):=by
    intro j T W hW;obtain⟨b',o',U,hO',h1',h2'⟩:=mF.2 j T;rw[hp]at U
    cases U
    exact(World.cell?_of_block (a:=⟨b,o+j*2,none⟩) (hW.block _ (hO _ hO'))).trans h1'
   subst hp;have hx:=hz (l.getD k (aH,aH)) (by rw[List.getD_eq_getElem?_getD,List.getElem?_eq_getElem gZ];exact List.getElem_mem _);have d1:wr.cell? ⟨b,o+k*2,none⟩=some (.string (l.getD k (aH,aH)).1):=(World.cell?_of_block (a:=⟨b,o+k*2,none⟩) (hb.block _ (hO _ za))).trans M0;have d2:wr.cell? ⟨b,o+k*2+1,none⟩=some (.string (l.getD k (aH,aH)).2):=(World.cell?_of_block (a:=⟨b,o+k*2+1,none⟩) (hb.block _ (hO _ za))).trans xN;have V:Hid (wF (l.getD k (aH,aH))=(Id.Ha (l.getD k (aH,aH)).1&&iX (l.getD k (aH,aH)).2)):=rfl;obtain⟨E,Bt⟩:∃x,(l.getD k (aH,aH)).1=x:=⟨_,rfl⟩;obtain⟨S,xi⟩:∃x,(l.getD k (aH,aH)).2=x:=⟨_,rfl⟩;have X:Hid ((l.getD k (aH,aH)).1=E):=Bt;rw[Bt]at d1 hx V;rw[xi]at d2 hx V;clear M0 xN Bt xi gZ;have G:Below w.heap.size w (wr.alloc (.cells #[.string E,.string S] 53)):=hb.alloc hb.size _;have K:=Id.xh E (wr.alloc (.cells #[.string E,.string S] 53)) (by omega);have N:=fun W=>CW S W hx.2
   cases hs:Id.Ha E with
   | false=>
    have H:Hid (dE l=false):=sJ Ec.out (by rw[V.out,hs];rfl);rw[hs]at K;go_wp2_with(go_at_call 99;refine K.mono ?_;rintro x u ⟨rfl,d⟩);go_ret;exact⟨ak H.out.symm,G.trans ⟨d.os,d.tape,d.output,d.size,fun k Y=>d.block k (by have:=G.size;omega)⟩⟩
   | true=>
    rw[hs]at K
    cases hd:iX S with
    | false=>
     have H:Hid (dE l=false):=sJ Ec.out (by rw[V.out,hs,hd];rfl);rw[hd]at N;go_wp2_with(first
      | (go_at_call 99;refine K.mono ?_;rintro x u ⟨rfl,d⟩;have e1:=(qR d).2;have z:=N u)
      | (go_at_call 62;refine z.mono ?_;rintro x A ⟨rfl,f⟩))
     go_ret;exact⟨ak H.out.symm,G.trans ⟨d.os,d.tape,d.output,d.size,fun k Y=>d.block k (by have:=G.size;omega)⟩ |>.trans ⟨f.os,f.tape,f.output,f.size,fun k Y=>f.block k (by have:=G.size;have:=d.size;omega)⟩⟩
    | true=>
     rw[hd]at N;have Wt:Hid (wF (l.getD k (aH,aH))=true):=by show _=_;rw[V.out,hs,hd];rfl
     have F:Hid (∀u A,Below (wr.alloc (.cells #[.string E,.string S] 53)).heap.size (wr.alloc (.cells #[.string E,.string S] 53)) u->Below u.heap.size u A->Below w.heap.size w A):=fun u A d f=>
      G.trans ⟨d.os,d.tape,d.output,d.size,fun k Y=>d.block k (by have:=G.size;omega)⟩ |>.trans ⟨f.os,f.tape,f.output,f.size,fun k Y=>f.block k (by have:=G.size;have:=d.size;omega)⟩
     clear G
     cases k with
     | zero=>
      simp only[Nat.zero_mul,Nat.add_zero]at d1 d2;go_wp2_with(first
       | (go_at_call 99;refine K.mono ?_;rintro x u ⟨rfl,d⟩;have e1:=(qR d).2;have z:=N u)
       | (go_at_call 62;refine z.mono ?_;rintro x A ⟨rfl,f⟩))
      go_quiet (fail);go_wp2;go_roundw
      case rel=>exact⟨1,by go_num,bQ,fun j T=>(by
          obtain rfl:j=0:=(by omega);exact⟨Wt.out,fun h=>absurd h (by omega)⟩),below_drewN (F.out u A d f) _⟩
      case measure=>simp[intOf];omega
     | succ m=>
      have lG:m<l.length:=by have:=Ec.out;omega
      have YS:(m:Int)<(n:Int):=by omega
      obtain⟨y1,YQ⟩:∃x,(l.getD m (aH,aH)).1=x:=⟨_,rfl⟩;have Z:Hid ((l.getD m (aH,aH)).1=y1):=YQ;have I:=hcP.out m lG;rw[YQ]at I;have HCY:Hid (∀W:World,Below w.heap.size w W->W.cell? ⟨b,o+m*2,none⟩=some (.string y1)):=I;clear YQ I lG;have hgt:decide ((0:Int)<((m+1:Nat):Int))=true:=decide_eq_true (by omega)
      cases Cu:pQ y1 E with
      | true=>
       have Eg:Op.bytesLess y1.toList E.toList=true:=by rw[Og];exact Cu
       have UE:Hid (pQ y1 E=true):=Cu;clear Cu;go_wp2_with(first
        | (go_at_call 99;refine K.mono ?_;rintro x u ⟨rfl,d⟩;have e1:=(qR d).2;have z:=N u)
        | (go_at_call 62;refine z.mono ?_;rintro x A ⟨rfl,f⟩
           have e2:=(qR (jH d f)).1;have e3:=HCY.out A (F.out u A d f)))
       go_quiet (fail);go_wp2;go_roundw
       case rel=>exact⟨m+2,by go_num,by omega,fun j T=>(Nat.lt_succ_iff_lt_or_eq.1 T).elim (HG.out j) fun e=>by subst e;exact⟨Wt.out,fun _=>by rw[Nat.add_sub_cancel,X.out,Z.out];exact UE.out⟩,below_drewN (F.out u A d f) _⟩
       case measure=>simp[intOf];omega
      | false=>
       have Eg:Op.bytesLess y1.toList E.toList=false:=by rw[Og];exact Cu
       have H:Hid (dE l=false):=wG (j:=m+1) (by omega) Ec.out (by rw[Nat.add_sub_cancel,X.out,Z.out];exact Cu);clear Cu;go_wp2_with(first
        | (go_at_call 99;refine K.mono ?_;rintro x u ⟨rfl,d⟩;have e1:=(qR d).2;have z:=N u)
        | (go_at_call 62;refine z.mono ?_;rintro x A ⟨rfl,f⟩
           have e2:=(qR (jH d f)).1;have e3:=HCY.out A (F.out u A d f)))
       go_quiet (fail);go_wp2;go_ret;exact⟨ak H.out.symm,below_drewN (F.out u A d f) _⟩
  ·obtain rfl:k=n:=by omega
   have HT:Hid (dE l=true):=Ak (by rw[HN.out];omega) (by rw[HN.out];exact HG.out);go_wp2;go_ret;exact⟨ak HT.out.symm,hb⟩
theorem CX{O:Nat->Prop}{l:List (ByteArray×ByteArray)}{p:Option Addr}{c:Nat}{w:World}(mF:FK O w p c l)(hO:∀k,O k->k<w.heap.size)(hl:l.length<=100000):
    Calls Tryz.prog 70 #[.slice p l.length c] w fun x w'=>(∃pk nk ck pl nl cl,x=.returned (.agg #[.int .i64 5,.int .i64 0,.string aH,.slice pk nk ck,.slice pl nl cl])/\isJ (gH w w') w' (fH l) [.int .i64 5,.int .i64 0,.string aH,.slice pk nk ck,.slice pl nl cl])/\Below w.heap.size w w':=by
 obtain⟨n,hn⟩:∃n,l.length=n:=⟨_,rfl⟩;have HN:Hid (l.length=n):=hn;have UC:=mF.1;rw[hn]at hl UC ⊢;clear hn;obtain⟨WB,eY⟩:∃WB,WB=(w.alloc (.cells #[.int .i64 0,.int .i64 0,.string ⟨#[]⟩,.slice none 0 0,.slice none 0 0] 25)).alloc (.cells #[.int .i64 5,.int .i64 0,.string ⟨#[]⟩,.slice none 0 0,.slice none 0 0] 25):=⟨_,rfl⟩;have dK:Below w.heap.size w WB:=by rw[eY];exact((Below.refl _ _).alloc (Nat.le_refl _) _).alloc (by simp) _
 have bq:WB.heap[w.heap.size]?=some (.cells #[.int .i64 0,.int .i64 0,.string ⟨#[]⟩,.slice none 0 0,.slice none 0 0] 25 (0,0)):=by rw[eY];exact kV _ _
 have tY:TI (fun _=>False) (w.heap.size+2) (w.heap.size+1) 5 WB [] [] (.slice none 0 0) (.slice none 0 0) WB:=TI.start (by rw[eY];simp) (by omega) (fun k h=>h.elim) (by rw[eY];exact jm _ _);go_enter Tryz.func70,Tryz.ntmps70;go_wp2;rw[<-eY];clear eY
 go_loopw [9] (fun i wr=>∃(k:Nat) (vk vl:Value),i=.int .i64 k/\k<=n/\TI (fun _=>False) (w.heap.size+2) (w.heap.size+1) 5 WB ((l.take k).map (·.1)) ((l.take k).map fun s=>aR s.2) vk vl wr) (fun i _=>n - (intOf i).toNat)
 case atStart=>exact⟨0,_,_,rfl,Nat.zero_le _,tY⟩
 case round=>
  clear tY;obtain⟨k,vk,vl,rfl,hk,z⟩:=hrel
  by_cases bQ:k<n
  ·obtain⟨ks,qE⟩:∃ks,(l.take k).map (·.1)=ks:=⟨_,rfl⟩;obtain⟨js,mf⟩:∃js,((l.take k).map fun s=>aR s.2)=js:=⟨_,rfl⟩;have zge:ks.length=k:=by rw[<-qE,List.length_map,List.length_take,HN.out];omega
   have YR:js.length=k:=by rw[<-mf,List.length_map,List.length_take,HN.out];omega
   have hki:(k:Int)<(n:Int):=by omega
   have gZ:k<l.length:=by rw[HN.out];exact bQ
   obtain⟨b,of,ZY,za,M0,xN⟩:=mF.2 k gZ;subst ZY;have DX:wr.heap[b]?=w.heap[b]?:=by
    have h1:=hO _ za;have h2:=z.IQ;exact(z.bf.block _ (by omega) (by unfold One;omega)).trans (dK.block _ h1)
   have d1:=(World.cell?_of_block (a:=⟨b,of+k*2,none⟩) DX).trans M0;have d2:=(World.cell?_of_block (a:=⟨b,of+k*2+1,none⟩) DX).trans xN;obtain⟨x,hx⟩:∃x,(l.getD k (aH,aH)).1=x:=⟨_,rfl⟩;obtain⟨u,hu⟩:∃u,(l.getD k (aH,aH)).2=u:=⟨_,rfl⟩;have X:Hid ((l.take (k+1)).map (·.1)=ks++ [x]):=by
    show _=_
    rw[List.take_add_one,List.getElem?_eq_getElem gZ,List.map_append,qE,<-hx,List.getD_eq_getElem?_getD,List.getElem?_eq_getElem gZ];rfl
   have V:Hid (((l.take (k+1)).map fun s=>aR s.2)=js++ [aR u]):=by
    show _=_
    rw[List.take_add_one,List.getElem?_eq_getElem gZ,List.map_append,mf,<-hu,List.getD_eq_getElem?_getD,List.getElem?_eq_getElem gZ];rfl
   rw[hx]at d1;rw[hu]at d2;rw[qE,mf]at z;obtain⟨ql,vD,xA⟩:∃q c,vl=.slice q js.length c:=by
    obtain⟨xs0,AQ,_⟩:=z.eD;exact fe AQ
   obtain⟨qk,Er,GI⟩:=fe z.keys;have h1:=(z.alloc (.cells #[.string x,.string u] 53)).alloc (.cells #[.string x] 9);have zgf:=z.size;have hEb:J7 (fun _=>False) (w.heap.size+2) vk vl ((wr.alloc (.cells #[.string x,.string u] 53)).alloc (.cells #[.string x] 9)) wr.heap.size:=
    .inr ⟨zgf,by simp;omega,fun e=>by have:=(aJ z.keys _ e).2;omega,fun e=>by
     obtain⟨xs0,AQ,_⟩:=z.eD;have:=(aJ AQ _ e).2;omega⟩
   have vV:((wr.alloc (.cells #[.string x,.string u] 53)).alloc (.cells #[.string x] 9)).heap[wr.heap.size]?=some (.cells #[.string x,.string u] 53 (0,0)):=by
    rw[Below.heap_alloc _ _ _ (by simp)];exact heap_alloc_new _ _
   have c3:=fV (z.alloc (.cells #[.string x,.string u] 53)).obj;have gV:(wr.alloc (.cells #[.string x,.string u] 53)).cell? ⟨wr.heap.size,0,none⟩=some (.string x):=mP (cs:= [_,_]) 0 _ rfl;have ZC:ks.length<=100000:=by omega
   have hjb:js.length<=100000:=by omega
   have HJL:Hid (js.length=k):=YR;clear DX M0 xN hx hu qE mf gZ YR zge;subst GI xA;go_wp2_with(at_builtin;refine nA rfl _ _ 22 rfl (w.heap.size+2) 9 (.string ⟨#[]⟩) 1 16 Tryz.underlying22 Tryz.jM rfl (by decide) (by decide) _ ks.length (ks.map Value.string) rfl h1.keys _ [.string x] rfl rfl (Bv (by simp)) (yh x) (by omega) h1.size ?_;intro P8 W2 gI nM uD;obtain⟨d3,f3,h3,AR⟩:=h1.key gI nM uD;obtain⟨b2,c2,fC⟩:=ik gI;subst fC);obtain⟨zbU,Wn⟩:=AR _ hEb;have U:=Wn.trans vV;clear AR h1 vV Wn hEb gI nM uD d3 f3 c3 gV;obtain⟨W3,FL⟩:∃W3,W3=W2.setCell ⟨w.heap.size+1,3,none⟩ (.slice (some ⟨b2,0,none⟩) (ks.length+1) c2):=⟨_,rfl⟩;rw[<-FL]at h3 zbU U ⊢;clear FL;have hd:=h3.drew;have hT:=jc u W3.drew;have c0:=aZ hd.obj;have zZ:wr.heap.size<W3.heap.size:=(Array.getElem?_eq_some_iff.1 U).1;have Z:Hid ((Value.slice ql js.length vD).ownBlock≠some wr.heap.size):=by
    rcases zbU with h| h
    ·exact h.elim
    ·exact h.2.2.2
   clear zbU;have HCC:Hid (∀W:World,W.heap[wr.heap.size]?=some (.cells #[.string x,.string u] 53 (0,0))->W.cell? ⟨wr.heap.size,1,none⟩=some (.string u)):=fun W hW=>aQ (cur:= [_,_]) hW 1 _ rfl;have fM:W3.drew.heap[wr.heap.size]?=some (.cells #[.string x,.string u] 53 (0,0)):=U;refine aD (by kernel_rfl) (fun W=>W.heap[wr.heap.size]?=some (.cells #[.string x,.string u] 53 (0,0))) ?_;change wpIn _ _ _ _ _ _ _ _ (World.drew _);refine aa (i:=0) (d:=some 20) rfl ?_;refine aa (i:=2) (d:=some 22) rfl ?_;refine aC (i:=3) (d:=some 23) rfl (by(intro wq hq;have q0:=HCC.out wq hq;go_simp;first| done| with_reducible rfl)) ?_;refine bR (i:=1) (j:=4) fM (by kernel_rfl) rfl rfl (by rfl) (by rfl) ?_ ?_
   ·intro K f;go_simp;refine f _ _ ?_;clear f K;refine av (i:=4) fM rfl ?_;intro K f;go_simp;go_wp2_with(go_at_call 69;refine hT.mono ?_;rintro x' w3 ⟨rfl,dh⟩);have h4:=hd.more dh;have F:=h4.alloc (.cells #[.int .i64 3,.int .i64 0,.string u,.slice none 0 0,.slice none 0 0] 25);obtain⟨xs,N,fC⟩:=F.eD;have c1:=aZ h4.obj;have pO:=aZ F.obj;have I:=(dh.block wr.heap.size zZ).trans fM;have Y:wr.heap.size<w3.heap.size:=Nat.lt_of_lt_of_le zZ dh.size;have H:=(Below.heap_alloc w3 (.cells #[.int .i64 3,.int .i64 0,.string u,.slice none 0 0,.slice none 0 0] 25) _ Y).trans I;refine av (i:=5) I rfl ?_;intro K f;go_simp;refine f _ _ ?_;clear f K;refine av (i:=6) H rfl ?_;intro K f;refine aP (.tmp 21) (.tmp 25) 23 rfl (w.heap.size+2) 25 (.agg #[.int .i64 0,.int .i64 0,.string ⟨#[]⟩,.slice none 0 0,.slice none 0 0]) 5 80 Tryz.underlying23 Tryz.eB rfl (by decide) (by decide) _ js.length xs rfl N _ [.int .i64 3,.int .i64 0,.string u,.slice none 0 0,.slice none 0 0] rfl rfl (jS rfl) (lV u) (by omega) F.size ?_;intro oh W4 G E S;refine f _ _ ?_;clear f K;obtain⟨b4,c4,xM⟩:=ik G;subst xM;obtain⟨g0,g1,lF⟩:=F.push N fC (cu _ _ u) G E S;have A:=(E.block wr.heap.size (by simp;omega) fun e=>Z.out e.symm).trans H;have K3:ag (One (w.heap.size+1)) W4 (W4.setCell ⟨w.heap.size+1,4,none⟩ (.slice (some ⟨b4,0,none⟩) (js.length+1) c4)):=ag.setCell (ag.refl _ _) (fun _=>(rfl:w.heap.size+1=w.heap.size+1)) _;have T:=(K3.block wr.heap.size (Array.getElem?_eq_some_iff.1 A).1 (by unfold One;omega)).trans A;clear G E S;refine aa (i:=7) (d:=some 27) rfl ?_;refine av (i:=8) A rfl ?_;intro K f;go_simp;refine f _ _ ?_;clear f K;refine aB T (by kernel_rfl) ?_ _;clear g0 g1 c0 c1 pO fM I H A T;go_wp2;go_roundw
    case rel=>exact⟨k+1,_,_,by go_num,bQ,by rw[X.out,V.out];exact lF⟩
    case measure=>simp[intOf];omega
   ·intro K f;go_simp;go_wp2_with(go_at_call 69;refine hT.mono ?_;rintro x' w3 ⟨rfl,dh⟩);have h4:=hd.more dh;have F:=h4.alloc (.cells #[.int .i64 3,.int .i64 0,.string u,.slice none 0 0,.slice none 0 0] 25);obtain⟨xs,N,fC⟩:=F.eD;have c1:=aZ h4.obj;have pO:=aZ F.obj;have I:=(dh.block wr.heap.size zZ).trans fM;have Y:wr.heap.size<w3.heap.size:=Nat.lt_of_lt_of_le zZ dh.size;have H:=(Below.heap_alloc w3 (.cells #[.int .i64 3,.int .i64 0,.string u,.slice none 0 0,.slice none 0 0] 25) _ Y).trans I;refine bR (i:=1) (j:=5) I (by kernel_rfl) rfl rfl (by rfl) (by rfl) ?_ ?_
    ·intro K f;go_simp;refine f _ _ ?_;clear f K;refine av (i:=5) I rfl ?_;intro K f;go_simp;refine f _ _ ?_;clear f K;refine av (i:=6) H rfl ?_;intro K f;refine aP (.tmp 21) (.tmp 25) 23 rfl (w.heap.size+2) 25 (.agg #[.int .i64 0,.int .i64 0,.string ⟨#[]⟩,.slice none 0 0,.slice none 0 0]) 5 80 Tryz.underlying23 Tryz.eB rfl (by decide) (by decide) _ js.length xs rfl N _ [.int .i64 3,.int .i64 0,.string u,.slice none 0 0,.slice none 0 0] rfl rfl (jS rfl) (lV u) (by omega) F.size ?_;intro oh W4 G E S;refine f _ _ ?_;clear f K;obtain⟨b4,c4,xM⟩:=ik G;subst xM;obtain⟨g0,g1,lF⟩:=F.push N fC (cu _ _ u) G E S;have A:=(E.block wr.heap.size (by simp;omega) fun e=>Z.out e.symm).trans H;have K3:ag (One (w.heap.size+1)) W4 (W4.setCell ⟨w.heap.size+1,4,none⟩ (.slice (some ⟨b4,0,none⟩) (js.length+1) c4)):=ag.setCell (ag.refl _ _) (fun _=>(rfl:w.heap.size+1=w.heap.size+1)) _;have T:=(K3.block wr.heap.size (Array.getElem?_eq_some_iff.1 A).1 (by unfold One;omega)).trans A;clear G E S;refine aa (i:=7) (d:=some 27) rfl ?_;refine av (i:=8) A rfl ?_;intro K f;go_simp;refine f _ _ ?_;clear f K;refine aB T (by kernel_rfl) ?_ _;clear g0 g1 c0 c1 pO fM I H A T;go_wp2;go_roundw
     case rel=>exact⟨k+1,_,_,by go_num,bQ,by rw[X.out,V.out];exact lF⟩
     case measure=>simp[intOf];omega
    ·intro K f;go_simp;refine f _ _ ?_;clear f K;refine av (i:=1) H rfl ?_;intro K f;go_simp;refine f _ _ ?_;clear f K;refine av (i:=6) H rfl ?_;intro K f;refine aP (.tmp 21) (.tmp 25) 23 rfl (w.heap.size+2) 25 (.agg #[.int .i64 0,.int .i64 0,.string ⟨#[]⟩,.slice none 0 0,.slice none 0 0]) 5 80 Tryz.underlying23 Tryz.eB rfl (by decide) (by decide) _ js.length xs rfl N _ [.int .i64 3,.int .i64 0,.string u,.slice none 0 0,.slice none 0 0] rfl rfl (jS rfl) (lV u) (by omega) F.size ?_;intro oh W4 G E S;refine f _ _ ?_;clear f K;obtain⟨b4,c4,xM⟩:=ik G;subst xM;obtain⟨g0,g1,lF⟩:=F.push N fC (cu _ _ u) G E S;have A:=(E.block wr.heap.size (by simp;omega) fun e=>Z.out e.symm).trans H;have K3:ag (One (w.heap.size+1)) W4 (W4.setCell ⟨w.heap.size+1,4,none⟩ (.slice (some ⟨b4,0,none⟩) (js.length+1) c4)):=ag.setCell (ag.refl _ _) (fun _=>(rfl:w.heap.size+1=w.heap.size+1)) _;have T:=(K3.block wr.heap.size (Array.getElem?_eq_some_iff.1 A).1 (by unfold One;omega)).trans A;clear G E S;refine aa (i:=7) (d:=some 27) rfl ?_;refine av (i:=8) A rfl ?_;intro K f;go_simp;refine f _ _ ?_;clear f K;refine aB T (by kernel_rfl) ?_ _;clear g0 g1 c0 c1 pO fM I H A T;go_wp2;go_roundw
     case rel=>exact⟨k+1,_,_,by go_num,bQ,by rw[X.out,V.out];exact lF⟩
     case measure=>simp[intOf];omega
  ·obtain rfl:k=n:=by omega
   rw[List.take_of_length_le (by rw[HN.out];omega)]at z;obtain⟨q2,c2,xA⟩:∃q c,vl=.slice q (l.map fun s=>aR s.2).length c:=by
    obtain⟨xs,N,_⟩:=z.eD;exact fe N
   obtain⟨q1,c1,GI⟩:=fe z.keys;subst xA GI;have yR:=z.obj;have pX:wr.heap[w.heap.size]?=some (.cells #[.int .i64 0,.int .i64 0,.string ⟨#[]⟩,.slice none 0 0,.slice none 0 0] 25 (0,0)):=(z.bf.block _ (by have:=z.IQ;omega) (by unfold One;omega)).trans bq;obtain⟨j0,j1,j2,j3,j4⟩:=aj yR;obtain⟨i0,i1,i2,i3,i4⟩:=aj pX;obtain⟨z0,z1,z2,z3,z4⟩:=aN pX;obtain⟨m,hm⟩:∃m,(l.map fun s=>aR s.2).length=m:=⟨_,rfl⟩;obtain⟨m1,FC⟩:∃m,(l.map (·.1)).length=m:=⟨_,rfl⟩;have HTI:Hid (TI (fun _=>False) (w.heap.size+2) (w.heap.size+1) 5 WB (l.map (·.1)) (l.map fun s=>aR s.2) (.slice q1 m1 c1) (.slice q2 m c2) wr):=by rw[<-hm,<-FC];exact z
   rw[hm]at j4;rw[FC]at j3;have h5:=aK pX (.int .i64 5) (.int .i64 0) (.string ⟨#[]⟩) (.slice q1 m1 c1) (.slice q2 m c2);have bn:ag (One w.heap.size) wr _:=aI wr w.heap.size (.int .i64 5) (.int .i64 0) (.string ⟨#[]⟩) (.slice q1 m1 c1) (.slice q2 m c2);unfold di at h5 bn;obtain⟨k0,k1,k2,k3,k4⟩:=aj h5;clear z yR pX hm FC;go_wp2;refine bodyPost_ret (v:=.agg #[.int .i64 5,.int .i64 0,.string ⟨#[]⟩,.slice q1 m1 c1,.slice q2 m c2]) (by simp[results,Tryz.results70,go_sem,k0,k1,k2,k3,k4]) rfl ?_;obtain⟨r1,r2⟩:=HTI.out.done dK bn;exact⟨⟨_,_,_,_,_,_,rfl,r1⟩,r2⟩
theorem TI.end{O:Nat->Prop}{w WB wr W5:World}{kd:Int}{ks:List ByteArray}{js:List J}{f j:Option Addr}{n1 n2 c1 c2:Nat}(h:TI O (w.heap.size+3) (w.heap.size+2) kd WB ks js (.slice f n1 c1) (.slice j n2 c2) wr)(z:∀k,O k->k<w.heap.size)(m:Below w.heap.size w WB)(d:ag (One (w.heap.size+1)) wr W5):
    isJ (fun k=>O k\/ gH w W5 k) W5 (.mk kd 0 aH ks js) [.int .i64 kd,.int .i64 0,.string aH,.slice f n1 c1,.slice j n2 c2]/\Below w.heap.size w W5:=by
 have U:=h.size;have h5:=d.size;have T:=h.IQ;obtain⟨xs,E,I⟩:=h.eD;obtain⟨F,N,G,u⟩:=nT h.keys;obtain⟨x,S,H,K,A⟩:=rZ E I
 cases G
 cases H
 have carry:∀k,w.heap.size+3<=k->k<wr.heap.size->(O k\/ gH w W5 k)/\W5.heap[k]?=wr.heap[k]?:=fun k h1 h2=>⟨.inr ⟨by omega,by omega⟩,d.block k h2 (by unfold One;omega)⟩;refine⟨?_, ?_⟩
 ·unfold isJ;refine⟨f,c1,j,c2,rfl,u.carry fun k c=>carry k c.1 c.2,K,A.carry fun k c=> ?_⟩
  rcases c with c| c
  ·rcases c with c| c
   ·have:=z k c;exact⟨.inl c,d.block k (by omega) (by unfold One;omega)⟩
   ·exact carry k c.1 c.2.1
  ·exact carry k c.1 c.2
 ·exact(m.trans (h.bf.below (by omega) fun k c=>by unfold One;omega)).trans (d.below (by omega) fun k c=>by unfold One;omega)
theorem J9{w:World}(o1 o2 c:Obj):(((w.alloc o1).alloc o2).alloc c).heap[w.heap.size+2]?=some c/\(((w.alloc o1).alloc o2).alloc c).heap[w.heap.size+1]?=some o2/\(((w.alloc o1).alloc o2).alloc c).heap[w.heap.size]?=some o1:=by
 have h3:=heap_alloc_new ((w.alloc o1).alloc o2) c;refine⟨by simpa using h3, ?_, ?_⟩
 ·rw[Below.heap_alloc _ _ _ (by simp)];exact jm _ _
 ·rw[Below.heap_alloc _ _ _ (by simp;omega)];exact kV _ _
theorem sM{O:Nat->Prop}{W W2:World}{y:J}{cs:List Value}(h:isJ (gH W W2) W2 y cs):isJ (fun k=>O k\/ gH W W2 k) W2 y cs:=h.carry fun _ c=>⟨.inr c,rfl⟩
theorem SY{O:Nat->Prop}(room aU ai key:ByteArray)(k i:Int)(t:ByteArray)(ks:List ByteArray)(l:List J)(prev aA:List ByteArray)(depth ts:Int)(hash:ByteArray)(sigs:List (ByteArray×ByteArray))(pk:Option Addr)(ck:Nat)(pl:Option Addr)(cl:Nat)(pp:Option Addr)(cp:Nat)(pa:Option Addr)(ca:Nat)(ps:Option Addr)(cs:Nat)(w:World)
    (hE:mY O w ⟨room,aU,ai,true,key,⟨k,i,t,ks,l⟩,prev,aA,depth,ts,hash,sigs⟩ ⟨pk,ck,pl,cl,pp,cp,pa,ca,ps,cs⟩) (N:∀k,O k->k<w.heap.size) (h1:prev.length<=100000) (h2:aA.length<=100000) (h3:sigs.length<=100000):
    Calls Tryz.prog 29 #[.agg #[.string room,.string aU,.string ai,.bool true,.string key,.int .i64 k,.int .i64 i,.string t,.slice pk ks.length ck,.slice pl l.length cl,.slice pp prev.length cp,.slice pa aA.length ca,.int .i64 depth,.int .i64 ts,.string hash,.slice ps sigs.length cs]] w fun x w'=>(∃pk nk ck pl nl cl,x=.returned (.agg #[.int .i64 5,.int .i64 0,.string aH,.slice pk nk ck,.slice pl nl cl])/\isJ (fun k=>O k\/ gH w w' k) w' (dW ⟨room,aU,ai,true,key,⟨k,i,t,ks,l⟩,prev,aA,depth,ts,hash,sigs⟩) [.int .i64 5,.int .i64 0,.string aH,.slice pk nk ck,.slice pl nl cl])/\Below w.heap.size w w':=by
 obtain⟨WB,F⟩:∃WB,WB=((w.alloc (.cells #[.string room,.string aU,.string ai,.bool true,.string key,.int .i64 k,.int .i64 i,.string t,.slice pk ks.length ck,.slice pl l.length cl,.slice pp prev.length cp,.slice pa aA.length ca,.int .i64 depth,.int .i64 ts,.string hash,.slice ps sigs.length cs] 29)).alloc (.cells #[.int .i64 0,.int .i64 0,.string ⟨#[]⟩,.slice none 0 0,.slice none 0 0] 25)).alloc (.cells #[.int .i64 5,.int .i64 0,.string ⟨#[]⟩,.slice none 0 0,.slice none 0 0] 25):=⟨_,rfl⟩;have dK:Below w.heap.size w WB:=by rw[F];exact(((Below.refl _ _).alloc (Nat.le_refl _) _).alloc (by simp) _).alloc (by simp;omega) _
 obtain⟨f,u,Y⟩:=J9 (w:=w) (.cells #[.string room,.string aU,.string ai,.bool true,.string key,.int .i64 k,.int .i64 i,.string t,.slice pk ks.length ck,.slice pl l.length cl,.slice pp prev.length cp,.slice pa aA.length ca,.int .i64 depth,.int .i64 ts,.string hash,.slice ps sigs.length cs] 29) (.cells #[.int .i64 0,.int .i64 0,.string ⟨#[]⟩,.slice none 0 0,.slice none 0 0] 25) (.cells #[.int .i64 5,.int .i64 0,.string ⟨#[]⟩,.slice none 0 0,.slice none 0 0] 25);rw[<-F]at f u Y;have X:TI O (w.heap.size+3) (w.heap.size+2) 5 WB [] [] (.slice none 0 0) (.slice none 0 0) WB:=TI.start (by rw[F];simp) (by omega) (fun k h=>by have:=N k h;omega) f;have d:Hid (∀{ks':List ByteArray} {js:List J} {vk vl:Value} {W:World},TI O (w.heap.size+3) (w.heap.size+2) 5 WB ks' js vk vl W->mY O W ⟨room,aU,ai,true,key,⟨k,i,t,ks,l⟩,prev,aA,depth,ts,hash,sigs⟩ ⟨pk,ck,pl,cl,pp,cp,pa,ca,ps,cs⟩/\(∀k,O k->k<W.heap.size)/\(∀j v, [.string room,.string aU,.string ai,.bool true,.string key,.int .i64 k,.int .i64 i,.string t,.slice pk ks.length ck,.slice pl l.length cl,.slice pp prev.length cp,.slice pa aA.length ca,.int .i64 depth,.int .i64 ts,.string hash,.slice ps sigs.length cs][j]?=some v->W.cell? ⟨w.heap.size,j,none⟩=some v)/\W.heap[w.heap.size+1]?=some (.cells #[.int .i64 0,.int .i64 0,.string ⟨#[]⟩,.slice none 0 0,.slice none 0 0] 25 (0,0))):=by
  intro ks' js vk vl W h;have e1:=h.size;have e2:=h.IQ;refine⟨hE.carry fun k E=>⟨E, ?_⟩,fun k E=>by have:=N k E;omega,fun j v hj=> ?_, ?_⟩
  ·have:=N k E;exact(h.bf.block k (by omega) (by unfold One;omega)).trans (dK.block k this)
  ·exact aQ ((h.bf.block _ (by omega) (by unfold One;omega)).trans Y) j v hj
  ·exact(h.bf.block _ (by omega) (by unfold One;omega)).trans u
 have xB:=(d.out X).2.2.1 11 _ rfl;have S:TI O (w.heap.size+3) (w.heap.size+2) 5 WB [] [] (.slice none 0 0) (.slice none 0 0) (((w.alloc (.cells #[.string room,.string aU,.string ai,.bool true,.string key,.int .i64 k,.int .i64 i,.string t,.slice pk ks.length ck,.slice pl l.length cl,.slice pp prev.length cp,.slice pa aA.length ca,.int .i64 depth,.int .i64 ts,.string hash,.slice ps sigs.length cs] 29)).alloc (.cells #[.int .i64 0,.int .i64 0,.string ⟨#[]⟩,.slice none 0 0,.slice none 0 0] 25)).alloc (.cells #[.int .i64 5,.int .i64 0,.string ⟨#[]⟩,.slice none 0 0,.slice none 0 0] 25)):=by rw[<-F];exact X
 rw[F]at xB;clear f u Y F hE X;go_enter Tryz.func29,Tryz.ntmps29;go_wp2_with(first
  | (go_at_call 66;refine(fo V (cu _ _ aU) (by simp) (by simp) _).mono ?_;rintro x A ⟨rfl,zgh,zgi,H⟩
     obtain⟨f,U,c1,GI⟩:∃q m c,zgh=.slice q m c:=by
      obtain⟨q,c,h⟩:=fe H.keys;exact⟨q,_,c,h⟩
     obtain⟨u,K,c2,xA⟩:∃q m c,zgi=.slice q m c:=by
      obtain⟨xs,cK,_⟩:=H.eD;obtain⟨q,c,h⟩:=fe cK;exact⟨q,_,c,h⟩
     subst GI xA;have yR:A.heap[w.heap.size+1+1]?=some (.cells #[.int .i64 5,.int .i64 0,.string ⟨#[]⟩,.slice f U c1,.slice u K c2] 25 (0,0)):=H.obj;have pX:=(d.out H).2.2.2;obtain⟨j0,j1,j2,j3,j4⟩:=aj yR;obtain⟨i0,i1,i2,i3,i4⟩:=aj pX;obtain⟨z0,z1,z2,z3,z4⟩:=aN pX)
  | (go_at_call 69;have _g:=yj;refine(jc aU _).mono ?_;rintro x qh ⟨rfl,zgj⟩
     have V:=yj.more zgj)
  | (go_at_call 66;refine(fo hu9 (pG _ _ ts) (by simp) (by simp) _).mono ?_;rintro x yl ⟨rfl,zd5,zd6,yj⟩
     have a1:=(d.out yj).2.2.1 1 _ rfl)
  | (go_at_call 68;have _g:=Oj;refine(pF ts _).mono ?_;rintro x v9 ⟨rfl,YT⟩
     have hu9:=Oj.more YT)
  | (go_at_call 66;refine(fo hu8 hy8 (by simp) (by simp) _).mono ?_;rintro x W9 ⟨rfl,vk9,vl9,Oj⟩
     have yL:=(d.out Oj).2.2.1 13 _ rfl)
  | (go_at_call 70;refine(CX (d.out G).1.sigs (d.out G).2.1 h3).mono ?_;rintro x v8 ⟨⟨pk8,nk8,ck8,pl8,nl8,cl8,rfl,hj8⟩,qj⟩
     have hu8:=G.more qj;have hy8:=G.fresh qj (sM hj8))
  | (go_at_call 66;refine(fo hu7 (cu _ _ ai) (by simp) (by simp) _).mono ?_;rintro x W8 ⟨rfl,vk8,vl8,G⟩
     have xC:=(d.out G).2.2.1 15 _ rfl)
  | (go_at_call 69;have _g:=Hm;refine(jc ai _).mono ?_;rintro x v7 ⟨rfl,Ka⟩
     have hu7:=Hm.more Ka)
  | (go_at_call 66;refine(fo hu6 (cu _ _ room) (by simp) (by simp) _).mono ?_;rintro x W7 ⟨rfl,vk7,vl7,Hm⟩
     have a2:=(d.out Hm).2.2.1 2 _ rfl)
  | (go_at_call 69;have _g:=Ol;refine(jc room _).mono ?_;rintro x v6 ⟨rfl,Bw⟩
     have hu6:=Ol.more Bw)
  | (go_at_call 66;refine(fo Z hy5 (by simp) (by simp) _).mono ?_;rintro x W6 ⟨rfl,vk6,vl6,Ol⟩
     have a0:=(d.out Ol).2.2.1 0 _ rfl)
  | (go_at_call 67;refine(sI (d.out I).1.prev (d.out I).2.1 h1).mono ?_;rintro x v5 ⟨⟨pl5,nl5,cl5,rfl,ZZ⟩,oP⟩
     have Z:=I.more oP;have hy5:=I.fresh oP (sM ZZ))
  | (go_at_call 66;refine(fo hu4 (cu _ _ key) (by simp) (by simp) _).mono ?_;rintro x W5 ⟨rfl,vk5,vl5,I⟩
     have AV:=(d.out I).2.2.1 10 _ rfl)
  | (go_at_call 69;have _g:=T;refine(jc key _).mono ?_;rintro x v4 ⟨rfl,eQ⟩
     have hu4:=T.more eQ)
  | (go_at_call 66;refine(fo hu3 (cu _ _ hash) (by simp) (by simp) _).mono ?_;rintro x W4 ⟨rfl,vk4,vl4,T⟩
     have a4:=(d.out T).2.2.1 4 _ rfl;have a3:=(d.out T).2.2.1 3 _ rfl)
  | (go_at_call 69;have _g:=Om;refine(jc hash _).mono ?_;rintro x v3 ⟨rfl,dh⟩
     have hu3:=Om.more dh)
  | (go_at_call 66;refine(fo hu2 (pG _ _ depth) (by simp) (by simp) _).mono ?_;rintro x W3 ⟨rfl,vk3,vl3,Om⟩
     have jT:=(d.out Om).2.2.1 14 _ rfl)
  | (go_at_call 68;have _g:=Oo;refine(pF depth _).mono ?_;rintro x v2 ⟨rfl,bO⟩
     have hu2:=Oo.more bO)
  | (go_at_call 66;refine(fo z ((d.out z).1.cont.carry fun k E=>⟨.inl E,rfl⟩) (by simp) (by simp) _).mono ?_;rintro x W2 ⟨rfl,P8,oh,Oo⟩
     have a12:=(d.out Oo).2.2.1 12 _ rfl)
  | (go_at_call 66;refine(fo hu0 hy0 (by simp) (by simp) _).mono ?_;rintro x W1 ⟨rfl,vk1,vl1,z⟩
     have a5:=(d.out z).2.2.1 5 _ rfl;have a6:=(d.out z).2.2.1 6 _ rfl;have a7:=(d.out z).2.2.1 7 _ rfl;have a8:=(d.out z).2.2.1 8 _ rfl;have a9:=(d.out z).2.2.1 9 _ rfl)
  | (go_at_call 67;refine(sI (d.out S).1.aA (d.out S).2.1 h2).mono ?_;rintro x v0 ⟨⟨pl0,nl0,cl0,rfl,Z4⟩,o7⟩
     have hu0:=S.more o7;have hy0:=S.fresh o7 (sM Z4)))
 have h5:=aK pX (.int .i64 5) (.int .i64 0) (.string ⟨#[]⟩) (.slice f U c1) (.slice u K c2);have bn:ag (One (w.heap.size+1)) A _:=aI A (w.heap.size+1) (.int .i64 5) (.int .i64 0) (.string ⟨#[]⟩) (.slice f U c1) (.slice u K c2);unfold di at h5 bn;obtain⟨k0,k1,k2,k3,k4⟩:=aj h5;refine bodyPost_ret (v:=.agg #[.int .i64 5,.int .i64 0,.string ⟨#[]⟩,.slice f U c1,.slice u K c2]) (by simp[results,Tryz.results29,go_sem,k0,k1,k2,k3,k4]) rfl ?_;obtain⟨r1,r2⟩:=H.end N dK bn;exact⟨⟨_,_,_,_,_,_,rfl,r1⟩,r2⟩
theorem Oq{O:Nat->Prop}(room aU ai key:ByteArray)(k i:Int)(t:ByteArray)(ks:List ByteArray)(l:List J)(prev aA:List ByteArray)(depth ts:Int)(hash:ByteArray)(sigs:List (ByteArray×ByteArray))(pk:Option Addr)(ck:Nat)(pl:Option Addr)(cl:Nat)(pp:Option Addr)(cp:Nat)(pa:Option Addr)(ca:Nat)(ps:Option Addr)(cs:Nat)(w:World)
    (hE:mY O w ⟨room,aU,ai,false,key,⟨k,i,t,ks,l⟩,prev,aA,depth,ts,hash,sigs⟩ ⟨pk,ck,pl,cl,pp,cp,pa,ca,ps,cs⟩) (K:∀k,O k->k<w.heap.size) (h1:prev.length<=100000) (h2:aA.length<=100000) (h3:sigs.length<=100000):
    Calls Tryz.prog 29 #[.agg #[.string room,.string aU,.string ai,.bool false,.string key,.int .i64 k,.int .i64 i,.string t,.slice pk ks.length ck,.slice pl l.length cl,.slice pp prev.length cp,.slice pa aA.length ca,.int .i64 depth,.int .i64 ts,.string hash,.slice ps sigs.length cs]] w fun x w'=>(∃pk nk ck pl nl cl,x=.returned (.agg #[.int .i64 5,.int .i64 0,.string aH,.slice pk nk ck,.slice pl nl cl])/\isJ (fun k=>O k\/ gH w w' k) w' (dW ⟨room,aU,ai,false,key,⟨k,i,t,ks,l⟩,prev,aA,depth,ts,hash,sigs⟩) [.int .i64 5,.int .i64 0,.string aH,.slice pk nk ck,.slice pl nl cl])/\Below w.heap.size w w':=by
 obtain⟨WB,F⟩:∃WB,WB=((w.alloc (.cells #[.string room,.string aU,.string ai,.bool false,.string key,.int .i64 k,.int .i64 i,.string t,.slice pk ks.length ck,.slice pl l.length cl,.slice pp prev.length cp,.slice pa aA.length ca,.int .i64 depth,.int .i64 ts,.string hash,.slice ps sigs.length cs] 29)).alloc (.cells #[.int .i64 0,.int .i64 0,.string ⟨#[]⟩,.slice none 0 0,.slice none 0 0] 25)).alloc (.cells #[.int .i64 5,.int .i64 0,.string ⟨#[]⟩,.slice none 0 0,.slice none 0 0] 25):=⟨_,rfl⟩;have dK:Below w.heap.size w WB:=by rw[F];exact(((Below.refl _ _).alloc (Nat.le_refl _) _).alloc (by simp) _).alloc (by simp;omega) _
 obtain⟨f,u,U⟩:=J9 (w:=w) (.cells #[.string room,.string aU,.string ai,.bool false,.string key,.int .i64 k,.int .i64 i,.string t,.slice pk ks.length ck,.slice pl l.length cl,.slice pp prev.length cp,.slice pa aA.length ca,.int .i64 depth,.int .i64 ts,.string hash,.slice ps sigs.length cs] 29) (.cells #[.int .i64 0,.int .i64 0,.string ⟨#[]⟩,.slice none 0 0,.slice none 0 0] 25) (.cells #[.int .i64 5,.int .i64 0,.string ⟨#[]⟩,.slice none 0 0,.slice none 0 0] 25);rw[<-F]at f u U;have T:TI O (w.heap.size+3) (w.heap.size+2) 5 WB [] [] (.slice none 0 0) (.slice none 0 0) WB:=TI.start (by rw[F];simp) (by omega) (fun k h=>by have:=K k h;omega) f;have d:Hid (∀{ks':List ByteArray} {js:List J} {vk vl:Value} {W:World},TI O (w.heap.size+3) (w.heap.size+2) 5 WB ks' js vk vl W->mY O W ⟨room,aU,ai,false,key,⟨k,i,t,ks,l⟩,prev,aA,depth,ts,hash,sigs⟩ ⟨pk,ck,pl,cl,pp,cp,pa,ca,ps,cs⟩/\(∀k,O k->k<W.heap.size)/\(∀j v, [.string room,.string aU,.string ai,.bool false,.string key,.int .i64 k,.int .i64 i,.string t,.slice pk ks.length ck,.slice pl l.length cl,.slice pp prev.length cp,.slice pa aA.length ca,.int .i64 depth,.int .i64 ts,.string hash,.slice ps sigs.length cs][j]?=some v->W.cell? ⟨w.heap.size,j,none⟩=some v)/\W.heap[w.heap.size+1]?=some (.cells #[.int .i64 0,.int .i64 0,.string ⟨#[]⟩,.slice none 0 0,.slice none 0 0] 25 (0,0))):=by
  intro ks' js vk vl W h;have e1:=h.size;have e2:=h.IQ;refine⟨hE.carry fun k A=>⟨A, ?_⟩,fun k A=>by have:=K k A;omega,fun j v hj=> ?_, ?_⟩
  ·have:=K k A;exact(h.bf.block k (by omega) (by unfold One;omega)).trans (dK.block k this)
  ·exact aQ ((h.bf.block _ (by omega) (by unfold One;omega)).trans U) j v hj
  ·exact(h.bf.block _ (by omega) (by unfold One;omega)).trans u
 have xB:=(d.out T).2.2.1 11 _ rfl;have N:TI O (w.heap.size+3) (w.heap.size+2) 5 WB [] [] (.slice none 0 0) (.slice none 0 0) (((w.alloc (.cells #[.string room,.string aU,.string ai,.bool false,.string key,.int .i64 k,.int .i64 i,.string t,.slice pk ks.length ck,.slice pl l.length cl,.slice pp prev.length cp,.slice pa aA.length ca,.int .i64 depth,.int .i64 ts,.string hash,.slice ps sigs.length cs] 29)).alloc (.cells #[.int .i64 0,.int .i64 0,.string ⟨#[]⟩,.slice none 0 0,.slice none 0 0] 25)).alloc (.cells #[.int .i64 5,.int .i64 0,.string ⟨#[]⟩,.slice none 0 0,.slice none 0 0] 25)):=by rw[<-F];exact T
 rw[F]at xB;clear f u U F hE T;go_enter Tryz.func29,Tryz.ntmps29;go_wp2_with(first
  | (go_at_call 66;refine(fo hu9 (cu _ _ aU) (by simp) (by simp) _).mono ?_;rintro x yl ⟨rfl,zd5,zd6,H⟩
     obtain⟨f,S,c1,GI⟩:∃q m c,zd5=.slice q m c:=by
      obtain⟨q,c,h⟩:=fe H.keys;exact⟨q,_,c,h⟩
     obtain⟨u,I,c2,xA⟩:∃q m c,zd6=.slice q m c:=by
      obtain⟨xs,cK,_⟩:=H.eD;obtain⟨q,c,h⟩:=fe cK;exact⟨q,_,c,h⟩
     subst GI xA;have yR:yl.heap[w.heap.size+1+1]?=some (.cells #[.int .i64 5,.int .i64 0,.string ⟨#[]⟩,.slice f S c1,.slice u I c2] 25 (0,0)):=H.obj;have Z:=(d.out H).2.2.2;obtain⟨j0,j1,j2,j3,j4⟩:=aj yR;obtain⟨i0,i1,i2,i3,i4⟩:=aj Z;obtain⟨z0,z1,z2,z3,z4⟩:=aN Z)
  | (go_at_call 69;have _g:=Oj;refine(jc aU _).mono ?_;rintro x v9 ⟨rfl,YT⟩
     have hu9:=Oj.more YT)
  | (go_at_call 66;refine(fo hu8 (pG _ _ ts) (by simp) (by simp) _).mono ?_;rintro x W9 ⟨rfl,vk9,vl9,Oj⟩
     have a1:=(d.out Oj).2.2.1 1 _ rfl)
  | (go_at_call 68;have _g:=Y;refine(pF ts _).mono ?_;rintro x v8 ⟨rfl,qj⟩
     have hu8:=Y.more qj)
  | (go_at_call 66;refine(fo hu7 hy7 (by simp) (by simp) _).mono ?_;rintro x W8 ⟨rfl,vk8,vl8,Y⟩
     have yL:=(d.out Y).2.2.1 13 _ rfl)
  | (go_at_call 70;refine(CX (d.out G).1.sigs (d.out G).2.1 h3).mono ?_;rintro x v7 ⟨⟨pk7,nk7,ck7,pl7,nl7,cl7,rfl,hj7⟩,Ka⟩
     have hu7:=G.more Ka;have hy7:=G.fresh Ka (sM hj7))
  | (go_at_call 66;refine(fo hu6 (cu _ _ ai) (by simp) (by simp) _).mono ?_;rintro x W7 ⟨rfl,vk7,vl7,G⟩
     have xC:=(d.out G).2.2.1 15 _ rfl)
  | (go_at_call 69;have _g:=Ol;refine(jc ai _).mono ?_;rintro x v6 ⟨rfl,Bw⟩
     have hu6:=Ol.more Bw)
  | (go_at_call 66;refine(fo V (cu _ _ room) (by simp) (by simp) _).mono ?_;rintro x W6 ⟨rfl,vk6,vl6,Ol⟩
     have a2:=(d.out Ol).2.2.1 2 _ rfl)
  | (go_at_call 69;have _g:=lF;refine(jc room _).mono ?_;rintro x v5 ⟨rfl,oP⟩
     have V:=lF.more oP)
  | (go_at_call 66;refine(fo hu4 yM (by simp) (by simp) _).mono ?_;rintro x W5 ⟨rfl,vk5,vl5,lF⟩
     have a0:=(d.out lF).2.2.1 0 _ rfl)
  | (go_at_call 67;refine(sI (d.out E).1.prev (d.out E).2.1 h1).mono ?_;rintro x v4 ⟨⟨pl4,nl4,cl4,rfl,hj4⟩,eQ⟩
     have hu4:=E.more eQ;have yM:=E.fresh eQ (sM hj4))
  | (go_at_call 66;refine(fo hu3 (cu _ _ hash) (by simp) (by simp) _).mono ?_;rintro x W4 ⟨rfl,vk4,vl4,E⟩
     have AV:=(d.out E).2.2.1 10 _ rfl;have a3:=(d.out E).2.2.1 3 _ rfl)
  | (go_at_call 69;have _g:=Om;refine(jc hash _).mono ?_;rintro x v3 ⟨rfl,dh⟩
     have hu3:=Om.more dh)
  | (go_at_call 66;refine(fo hu2 (pG _ _ depth) (by simp) (by simp) _).mono ?_;rintro x W3 ⟨rfl,vk3,vl3,Om⟩
     have jT:=(d.out Om).2.2.1 14 _ rfl)
  | (go_at_call 68;have _g:=Oo;refine(pF depth _).mono ?_;rintro x v2 ⟨rfl,bO⟩
     have hu2:=Oo.more bO)
  | (go_at_call 66;refine(fo z ((d.out z).1.cont.carry fun k A=>⟨.inl A,rfl⟩) (by simp) (by simp) _).mono ?_;rintro x W2 ⟨rfl,P8,oh,Oo⟩
     have a12:=(d.out Oo).2.2.1 12 _ rfl)
  | (go_at_call 66;refine(fo X hy0 (by simp) (by simp) _).mono ?_;rintro x W1 ⟨rfl,vk1,vl1,z⟩
     have a5:=(d.out z).2.2.1 5 _ rfl;have a6:=(d.out z).2.2.1 6 _ rfl;have a7:=(d.out z).2.2.1 7 _ rfl;have a8:=(d.out z).2.2.1 8 _ rfl;have a9:=(d.out z).2.2.1 9 _ rfl)
  | (go_at_call 67;refine(sI (d.out N).1.aA (d.out N).2.1 h2).mono ?_;rintro x v0 ⟨⟨pl0,nl0,cl0,rfl,Z4⟩,o7⟩
     have X:=N.more o7;have hy0:=N.fresh o7 (sM Z4)))
 have h5:=aK Z (.int .i64 5) (.int .i64 0) (.string ⟨#[]⟩) (.slice f S c1) (.slice u I c2);have bn:ag (One (w.heap.size+1)) yl _:=aI yl (w.heap.size+1) (.int .i64 5) (.int .i64 0) (.string ⟨#[]⟩) (.slice f S c1) (.slice u I c2);unfold di at h5 bn;obtain⟨k0,k1,k2,k3,k4⟩:=aj h5;refine bodyPost_ret (v:=.agg #[.int .i64 5,.int .i64 0,.string ⟨#[]⟩,.slice f S c1,.slice u I c2]) (by simp[results,Tryz.results29,go_sem,k0,k1,k2,k3,k4]) rfl ?_;obtain⟨r1,r2⟩:=H.end K dK bn;exact⟨⟨_,_,_,_,_,_,rfl,r1⟩,r2⟩
structure lW(w:World):Prop where
 pow:Uy w.heap.size w
 utf:SS w.heap.size w
theorem lW.below{w w':World}(h:lW w)(c:Below w.heap.size w w'):lW w':=⟨fun d h2=>h.pow d (ae c h2),h.utf.below c⟩
structure S_(room aU ai:ByteArray)(st:Bool)(key:ByteArray)(k i:Int)(t:ByteArray)(ks:List ByteArray)(l:List J)(prev aA:List ByteArray)(depth ts:Int)(hash:ByteArray)(sigs:List (ByteArray×ByteArray))(pk:Option Addr)(ck:Nat)(pl:Option Addr)(cl:Nat)(pp:Option Addr)(cp:Nat)(pa:Option Addr)(ca:Nat)(ps:Option Addr)(cs:Nat)(w:World):Prop where
 cells:∀W,Below (w.alloc (.cells #[.string room,.string aU,.string ai,.bool st,.string key,.int .i64 k,.int .i64 i,.string t,.slice pk ks.length ck,.slice pl l.length cl,.slice pp prev.length cp,.slice pa aA.length ca,.int .i64 depth,.int .i64 ts,.string hash,.slice ps sigs.length cs] 29)).heap.size (w.alloc (.cells #[.string room,.string aU,.string ai,.bool st,.string key,.int .i64 k,.int .i64 i,.string t,.slice pk ks.length ck,.slice pl l.length cl,.slice pp prev.length cp,.slice pa aA.length ca,.int .i64 depth,.int .i64 ts,.string hash,.slice ps sigs.length cs] 29)) W->∀j v, [.string room,.string aU,.string ai,.bool st,.string key,.int .i64 k,.int .i64 i,.string t,.slice pk ks.length ck,.slice pl l.length cl,.slice pp prev.length cp,.slice pa aA.length ca,.int .i64 depth,.int .i64 ts,.string hash,.slice ps sigs.length cs][j]?=some v->W.cell? ⟨w.heap.size,j,none⟩=some v
 below:Below w.heap.size w (w.alloc (.cells #[.string room,.string aU,.string ai,.bool st,.string key,.int .i64 k,.int .i64 i,.string t,.slice pk ks.length ck,.slice pl l.length cl,.slice pp prev.length cp,.slice pa aA.length ca,.int .i64 depth,.int .i64 ts,.string hash,.slice ps sigs.length cs] 29))
 h0:∀W,Below (w.alloc (.cells #[.string room,.string aU,.string ai,.bool st,.string key,.int .i64 k,.int .i64 i,.string t,.slice pk ks.length ck,.slice pl l.length cl,.slice pp prev.length cp,.slice pa aA.length ca,.int .i64 depth,.int .i64 ts,.string hash,.slice ps sigs.length cs] 29)).heap.size (w.alloc (.cells #[.string room,.string aU,.string ai,.bool st,.string key,.int .i64 k,.int .i64 i,.string t,.slice pk ks.length ck,.slice pl l.length cl,.slice pp prev.length cp,.slice pa aA.length ca,.int .i64 depth,.int .i64 ts,.string hash,.slice ps sigs.length cs] 29)) W->Calls Tryz.prog 57 #[.agg #[.string room,.string aU,.string ai,.bool st,.string key,.int .i64 k,.int .i64 i,.string t,.slice pk ks.length ck,.slice pl l.length cl,.slice pp prev.length cp,.slice pa aA.length ca,.int .i64 depth,.int .i64 ts,.string hash,.slice ps sigs.length cs]] W fun x w'=>x=.returned (.bool (gu ⟨room,aU,ai,st,key,⟨k,i,t,ks,l⟩,prev,aA,depth,ts,hash,sigs⟩))/\Below W.heap.size W w'
 h1:∀W,Below (w.alloc (.cells #[.string room,.string aU,.string ai,.bool st,.string key,.int .i64 k,.int .i64 i,.string t,.slice pk ks.length ck,.slice pl l.length cl,.slice pp prev.length cp,.slice pa aA.length ca,.int .i64 depth,.int .i64 ts,.string hash,.slice ps sigs.length cs] 29)).heap.size (w.alloc (.cells #[.string room,.string aU,.string ai,.bool st,.string key,.int .i64 k,.int .i64 i,.string t,.slice pk ks.length ck,.slice pl l.length cl,.slice pp prev.length cp,.slice pa aA.length ca,.int .i64 depth,.int .i64 ts,.string hash,.slice ps sigs.length cs] 29)) W->Calls Tryz.prog 58 #[.agg #[.string room,.string aU,.string ai,.bool st,.string key,.int .i64 k,.int .i64 i,.string t,.slice pk ks.length ck,.slice pl l.length cl,.slice pp prev.length cp,.slice pa aA.length ca,.int .i64 depth,.int .i64 ts,.string hash,.slice ps sigs.length cs]] W fun x w'=>x=.returned (.bool (iO ⟨room,aU,ai,st,key,⟨k,i,t,ks,l⟩,prev,aA,depth,ts,hash,sigs⟩))/\Below W.heap.size W w'
 h2:∀W,Below (w.alloc (.cells #[.string room,.string aU,.string ai,.bool st,.string key,.int .i64 k,.int .i64 i,.string t,.slice pk ks.length ck,.slice pl l.length cl,.slice pp prev.length cp,.slice pa aA.length ca,.int .i64 depth,.int .i64 ts,.string hash,.slice ps sigs.length cs] 29)).heap.size (w.alloc (.cells #[.string room,.string aU,.string ai,.bool st,.string key,.int .i64 k,.int .i64 i,.string t,.slice pk ks.length ck,.slice pl l.length cl,.slice pp prev.length cp,.slice pa aA.length ca,.int .i64 depth,.int .i64 ts,.string hash,.slice ps sigs.length cs] 29)) W->Calls Tryz.prog 59 #[.agg #[.int .i64 k,.int .i64 i,.string t,.slice pk ks.length ck,.slice pl l.length cl]] W fun x w'=>x=.returned (.bool (fG ⟨k,i,t,ks,l⟩))/\Below W.heap.size W w'
 h3:∀W,Below (w.alloc (.cells #[.string room,.string aU,.string ai,.bool st,.string key,.int .i64 k,.int .i64 i,.string t,.slice pk ks.length ck,.slice pl l.length cl,.slice pp prev.length cp,.slice pa aA.length ca,.int .i64 depth,.int .i64 ts,.string hash,.slice ps sigs.length cs] 29)).heap.size (w.alloc (.cells #[.string room,.string aU,.string ai,.bool st,.string key,.int .i64 k,.int .i64 i,.string t,.slice pk ks.length ck,.slice pl l.length cl,.slice pp prev.length cp,.slice pa aA.length ca,.int .i64 depth,.int .i64 ts,.string hash,.slice ps sigs.length cs] 29)) W->Calls Tryz.prog 60 #[.slice pp prev.length cp,.int .i64 20] W fun x w'=>x=.returned (.bool (bZ 20 prev))/\Below W.heap.size W w'
 h4:∀W,Below (w.alloc (.cells #[.string room,.string aU,.string ai,.bool st,.string key,.int .i64 k,.int .i64 i,.string t,.slice pk ks.length ck,.slice pl l.length cl,.slice pp prev.length cp,.slice pa aA.length ca,.int .i64 depth,.int .i64 ts,.string hash,.slice ps sigs.length cs] 29)).heap.size (w.alloc (.cells #[.string room,.string aU,.string ai,.bool st,.string key,.int .i64 k,.int .i64 i,.string t,.slice pk ks.length ck,.slice pl l.length cl,.slice pp prev.length cp,.slice pa aA.length ca,.int .i64 depth,.int .i64 ts,.string hash,.slice ps sigs.length cs] 29)) W->Calls Tryz.prog 60 #[.slice pa aA.length ca,.int .i64 10] W fun x w'=>x=.returned (.bool (bZ 10 aA))/\Below W.heap.size W w'
 h5:∀W,Below (w.alloc (.cells #[.string room,.string aU,.string ai,.bool st,.string key,.int .i64 k,.int .i64 i,.string t,.slice pk ks.length ck,.slice pl l.length cl,.slice pp prev.length cp,.slice pa aA.length ca,.int .i64 depth,.int .i64 ts,.string hash,.slice ps sigs.length cs] 29)).heap.size (w.alloc (.cells #[.string room,.string aU,.string ai,.bool st,.string key,.int .i64 k,.int .i64 i,.string t,.slice pk ks.length ck,.slice pl l.length cl,.slice pp prev.length cp,.slice pa aA.length ca,.int .i64 depth,.int .i64 ts,.string hash,.slice ps sigs.length cs] 29)) W->Calls Tryz.prog 61 #[.int .i64 depth,.int .i64 1099511627776] W fun x w'=>x=.returned (.bool (eG depth 1099511627776))/\Below W.heap.size W w'
 h6:∀W,Below (w.alloc (.cells #[.string room,.string aU,.string ai,.bool st,.string key,.int .i64 k,.int .i64 i,.string t,.slice pk ks.length ck,.slice pl l.length cl,.slice pp prev.length cp,.slice pa aA.length ca,.int .i64 depth,.int .i64 ts,.string hash,.slice ps sigs.length cs] 29)).heap.size (w.alloc (.cells #[.string room,.string aU,.string ai,.bool st,.string key,.int .i64 k,.int .i64 i,.string t,.slice pk ks.length ck,.slice pl l.length cl,.slice pp prev.length cp,.slice pa aA.length ca,.int .i64 depth,.int .i64 ts,.string hash,.slice ps sigs.length cs] 29)) W->Calls Tryz.prog 61 #[.int .i64 ts,.int .i64 9007199254740991] W fun x w'=>x=.returned (.bool (eG ts bI))/\Below W.heap.size W w'
 h7:∀W,Below (w.alloc (.cells #[.string room,.string aU,.string ai,.bool st,.string key,.int .i64 k,.int .i64 i,.string t,.slice pk ks.length ck,.slice pl l.length cl,.slice pp prev.length cp,.slice pa aA.length ca,.int .i64 depth,.int .i64 ts,.string hash,.slice ps sigs.length cs] 29)).heap.size (w.alloc (.cells #[.string room,.string aU,.string ai,.bool st,.string key,.int .i64 k,.int .i64 i,.string t,.slice pk ks.length ck,.slice pl l.length cl,.slice pp prev.length cp,.slice pa aA.length ca,.int .i64 depth,.int .i64 ts,.string hash,.slice ps sigs.length cs] 29)) W->Calls Tryz.prog 62 #[.string hash] W fun x w'=>x=.returned (.bool (iX hash))/\Below W.heap.size W w'
 h8:∀W,Below (w.alloc (.cells #[.string room,.string aU,.string ai,.bool st,.string key,.int .i64 k,.int .i64 i,.string t,.slice pk ks.length ck,.slice pl l.length cl,.slice pp prev.length cp,.slice pa aA.length ca,.int .i64 depth,.int .i64 ts,.string hash,.slice ps sigs.length cs] 29)).heap.size (w.alloc (.cells #[.string room,.string aU,.string ai,.bool st,.string key,.int .i64 k,.int .i64 i,.string t,.slice pk ks.length ck,.slice pl l.length cl,.slice pp prev.length cp,.slice pa aA.length ca,.int .i64 depth,.int .i64 ts,.string hash,.slice ps sigs.length cs] 29)) W->Calls Tryz.prog 63 #[.slice ps sigs.length cs] W fun x w'=>x=.returned (.bool (dE sigs))/\Below W.heap.size W w'
theorem Ta(room aU ai:ByteArray)(st:Bool)(key:ByteArray)(k i:Int)(t:ByteArray)(ks:List ByteArray)(l:List J)(prev aA:List ByteArray)(depth ts:Int)(hash:ByteArray)(sigs:List (ByteArray×ByteArray))(pk:Option Addr)(ck:Nat)(pl:Option Addr)(cl:Nat)(pp:Option Addr)(cp:Nat)(pa:Option Addr)(ca:Nat)(ps:Option Addr)(cs:Nat)(w:World)(X:S_ room aU ai st key k i t ks l prev aA depth ts hash sigs pk ck pl cl pp cp pa ca ps cs w)(c:gu ⟨room,aU,ai,st,key,⟨k,i,t,ks,l⟩,prev,aA,depth,ts,hash,sigs⟩=false):
    Calls Tryz.prog 27 #[.agg #[.string room,.string aU,.string ai,.bool st,.string key,.int .i64 k,.int .i64 i,.string t,.slice pk ks.length ck,.slice pl l.length cl,.slice pp prev.length cp,.slice pa aA.length ca,.int .i64 depth,.int .i64 ts,.string hash,.slice ps sigs.length cs]] w fun x w'=>x=.returned (.bool (aO ⟨room,aU,ai,st,key,⟨k,i,t,ks,l⟩,prev,aA,depth,ts,hash,sigs⟩))/\Below w.heap.size w w':=by
 have j:Hid (aO ⟨room,aU,ai,st,key,⟨k,i,t,ks,l⟩,prev,aA,depth,ts,hash,sigs⟩=false):=by
  show _=_
  unfold aO;simp only[c];simp
 have f:=X.h0 _ (Below.refl _ _);rw[c]at f;have d:=X.cells;have h:Hid (Below w.heap.size w (w.alloc (.cells #[.string room,.string aU,.string ai,.bool st,.string key,.int .i64 k,.int .i64 i,.string t,.slice pk ks.length ck,.slice pl l.length cl,.slice pp prev.length cp,.slice pa aA.length ca,.int .i64 depth,.int .i64 ts,.string hash,.slice ps sigs.length cs] 29))):=X.below;have z:Hid _:=d;clear X d c;go_enter Tryz.func27,Tryz.ntmps27;go_wp2_with(first
  | (go_at_call 57;refine f.mono ?_;rintro x A ⟨rfl,m⟩
     have u:=m))
 go_ret;exact⟨ak j.out.symm,ae h.out u⟩
theorem Tc(room aU ai:ByteArray)(st:Bool)(key:ByteArray)(k i:Int)(t:ByteArray)(ks:List ByteArray)(l:List J)(prev aA:List ByteArray)(depth ts:Int)(hash:ByteArray)(sigs:List (ByteArray×ByteArray))(pk:Option Addr)(ck:Nat)(pl:Option Addr)(cl:Nat)(pp:Option Addr)(cp:Nat)(pa:Option Addr)(ca:Nat)(ps:Option Addr)(cs:Nat)(w:World)(X:S_ room aU ai st key k i t ks l prev aA depth ts hash sigs pk ck pl cl pp cp pa ca ps cs w)(m:gu ⟨room,aU,ai,st,key,⟨k,i,t,ks,l⟩,prev,aA,depth,ts,hash,sigs⟩=true)(j:iO ⟨room,aU,ai,st,key,⟨k,i,t,ks,l⟩,prev,aA,depth,ts,hash,sigs⟩=false):
    Calls Tryz.prog 27 #[.agg #[.string room,.string aU,.string ai,.bool st,.string key,.int .i64 k,.int .i64 i,.string t,.slice pk ks.length ck,.slice pl l.length cl,.slice pp prev.length cp,.slice pa aA.length ca,.int .i64 depth,.int .i64 ts,.string hash,.slice ps sigs.length cs]] w fun x w'=>x=.returned (.bool (aO ⟨room,aU,ai,st,key,⟨k,i,t,ks,l⟩,prev,aA,depth,ts,hash,sigs⟩))/\Below w.heap.size w w':=by
 have H:Hid (aO ⟨room,aU,ai,st,key,⟨k,i,t,ks,l⟩,prev,aA,depth,ts,hash,sigs⟩=false):=by
  show _=_
  unfold aO;simp only[m,j];simp
 have z:=X.h0 _ (Below.refl _ _);rw[m]at z;have h:=X.h1;rw[j]at h;have u:=X.cells;have G:Hid (Below w.heap.size w (w.alloc (.cells #[.string room,.string aU,.string ai,.bool st,.string key,.int .i64 k,.int .i64 i,.string t,.slice pk ks.length ck,.slice pl l.length cl,.slice pp prev.length cp,.slice pa aA.length ca,.int .i64 depth,.int .i64 ts,.string hash,.slice ps sigs.length cs] 29))):=X.below;have E:Hid _:=h;have f:Hid _:=u;clear X u m j h;go_enter Tryz.func27,Tryz.ntmps27;go_wp2_with(first
  | (go_at_call 58;refine K.mono ?_;rintro x w1 ⟨rfl,A⟩
     have F:=ae c A)
  | (go_at_call 57;refine z.mono ?_;rintro x d ⟨rfl,I⟩
     have c:=I;have K:=E.out d c;have V:=f.out d c 0 _ rfl;have ED:=f.out d c 1 _ rfl;have EE:=f.out d c 2 _ rfl;have S:=f.out d c 3 _ rfl;have EG:=f.out d c 4 _ rfl;have T:=f.out d c 5 _ rfl;have EI:=f.out d c 6 _ rfl;have EJ:=f.out d c 7 _ rfl;have EK:=f.out d c 8 _ rfl;have EL:=f.out d c 9 _ rfl;have wH:=f.out d c 10 _ rfl;have wJ:=f.out d c 11 _ rfl;have U:=f.out d c 12 _ rfl;have Y:=f.out d c 13 _ rfl;have N:=f.out d c 14 _ rfl;have Z:=f.out d c 15 _ rfl))
 go_ret;exact⟨ak H.out.symm,ae G.out F⟩
theorem Td(room aU ai:ByteArray)(st:Bool)(key:ByteArray)(k i:Int)(t:ByteArray)(ks:List ByteArray)(l:List J)(prev aA:List ByteArray)(depth ts:Int)(hash:ByteArray)(sigs:List (ByteArray×ByteArray))(pk:Option Addr)(ck:Nat)(pl:Option Addr)(cl:Nat)(pp:Option Addr)(cp:Nat)(pa:Option Addr)(ca:Nat)(ps:Option Addr)(cs:Nat)(w:World)(X:S_ room aU ai st key k i t ks l prev aA depth ts hash sigs pk ck pl cl pp cp pa ca ps cs w)(A:gu ⟨room,aU,ai,st,key,⟨k,i,t,ks,l⟩,prev,aA,depth,ts,hash,sigs⟩=true)(z:iO ⟨room,aU,ai,st,key,⟨k,i,t,ks,l⟩,prev,aA,depth,ts,hash,sigs⟩=true)(E:fG ⟨k,i,t,ks,l⟩=false):
    Calls Tryz.prog 27 #[.agg #[.string room,.string aU,.string ai,.bool st,.string key,.int .i64 k,.int .i64 i,.string t,.slice pk ks.length ck,.slice pl l.length cl,.slice pp prev.length cp,.slice pa aA.length ca,.int .i64 depth,.int .i64 ts,.string hash,.slice ps sigs.length cs]] w fun x w'=>x=.returned (.bool (aO ⟨room,aU,ai,st,key,⟨k,i,t,ks,l⟩,prev,aA,depth,ts,hash,sigs⟩))/\Below w.heap.size w w':=by
 have V:Hid (aO ⟨room,aU,ai,st,key,⟨k,i,t,ks,l⟩,prev,aA,depth,ts,hash,sigs⟩=false):=by
  show _=_
  unfold aO;simp only[A,z,E];simp
 have G:=X.h0 _ (Below.refl _ _);rw[A]at G;have m:=X.h1;rw[z]at m;have u:=X.h2;rw[E]at u;have F:=X.cells;have S:Hid (Below w.heap.size w (w.alloc (.cells #[.string room,.string aU,.string ai,.bool st,.string key,.int .i64 k,.int .i64 i,.string t,.slice pk ks.length ck,.slice pl l.length cl,.slice pp prev.length cp,.slice pa aA.length ca,.int .i64 depth,.int .i64 ts,.string hash,.slice ps sigs.length cs] 29))):=X.below;have K:Hid _:=m;have I:Hid _:=u;have c:Hid _:=F;clear X F A z E m u;go_enter Tryz.func27,Tryz.ntmps27;go_wp2_with(first
  | (go_at_call 59;refine U.mono ?_;rintro x w2 ⟨rfl,N⟩
     have T:=ae h N)
  | (go_at_call 58;refine Z.mono ?_;rintro x j ⟨rfl,H⟩
     have h:=ae d H;have U:=I.out j h;have Ho:=c.out j h 5 _ rfl;have Hq:=c.out j h 6 _ rfl;have Hr:=c.out j h 7 _ rfl;have Ht:=c.out j h 8 _ rfl;have Hu:=c.out j h 9 _ rfl)
  | (go_at_call 57;refine G.mono ?_;rintro x f ⟨rfl,Y⟩
     have d:=Y;have Z:=K.out f d;have EC:=c.out f d 0 _ rfl;have ED:=c.out f d 1 _ rfl;have EE:=c.out f d 2 _ rfl;have EF:=c.out f d 3 _ rfl;have EG:=c.out f d 4 _ rfl;have EH:=c.out f d 5 _ rfl;have EI:=c.out f d 6 _ rfl;have EJ:=c.out f d 7 _ rfl;have EK:=c.out f d 8 _ rfl;have EL:=c.out f d 9 _ rfl;have wH:=c.out f d 10 _ rfl;have wJ:=c.out f d 11 _ rfl;have wK:=c.out f d 12 _ rfl;have wL:=c.out f d 13 _ rfl;have wM:=c.out f d 14 _ rfl;have wN:=c.out f d 15 _ rfl))
 go_ret;exact⟨ak V.out.symm,ae S.out T⟩
theorem Te(room aU ai:ByteArray)(st:Bool)(key:ByteArray)(k i:Int)(t:ByteArray)(ks:List ByteArray)(l:List J)(prev aA:List ByteArray)(depth ts:Int)(hash:ByteArray)(sigs:List (ByteArray×ByteArray))(pk:Option Addr)(ck:Nat)(pl:Option Addr)(cl:Nat)(pp:Option Addr)(cp:Nat)(pa:Option Addr)(ca:Nat)(ps:Option Addr)(cs:Nat)(w:World)(X:S_ room aU ai st key k i t ks l prev aA depth ts hash sigs pk ck pl cl pp cp pa ca ps cs w)(z:gu ⟨room,aU,ai,st,key,⟨k,i,t,ks,l⟩,prev,aA,depth,ts,hash,sigs⟩=true)(E:iO ⟨room,aU,ai,st,key,⟨k,i,t,ks,l⟩,prev,aA,depth,ts,hash,sigs⟩=true)(F:fG ⟨k,i,t,ks,l⟩=true)(A:bZ 20 prev=false):
    Calls Tryz.prog 27 #[.agg #[.string room,.string aU,.string ai,.bool st,.string key,.int .i64 k,.int .i64 i,.string t,.slice pk ks.length ck,.slice pl l.length cl,.slice pp prev.length cp,.slice pa aA.length ca,.int .i64 depth,.int .i64 ts,.string hash,.slice ps sigs.length cs]] w fun x w'=>x=.returned (.bool (aO ⟨room,aU,ai,st,key,⟨k,i,t,ks,l⟩,prev,aA,depth,ts,hash,sigs⟩))/\Below w.heap.size w w':=by
 have T:Hid (aO ⟨room,aU,ai,st,key,⟨k,i,t,ks,l⟩,prev,aA,depth,ts,hash,sigs⟩=false):=by
  show _=_
  unfold aO;simp only[z,E,F,A];simp
 have K:=X.h0 _ (Below.refl _ _);rw[z]at K;have H:=X.h1;rw[E]at H;have m:=X.h2;rw[F]at m;have G:=X.h3;rw[A]at G;have N:=X.cells;have rR:Hid (Below w.heap.size w (w.alloc (.cells #[.string room,.string aU,.string ai,.bool st,.string key,.int .i64 k,.int .i64 i,.string t,.slice pk ks.length ck,.slice pl l.length cl,.slice pp prev.length cp,.slice pa aA.length ca,.int .i64 depth,.int .i64 ts,.string hash,.slice ps sigs.length cs] 29))):=X.below;have S:Hid _:=H;have U:Hid _:=m;have G3:Hid _:=G;have c:Hid _:=N;clear X N z E F A H m G;go_enter Tryz.func27,Tryz.ntmps27;go_wp2_with(first
  | (go_at_call 60;refine k3.mono ?_;rintro x w3 ⟨rfl,dh⟩
     have g3:=ae u dh)
  | (go_at_call 59;refine V.mono ?_;rintro x I ⟨rfl,Z⟩
     have u:=ae h Z;have k3:=G3.out I u;have Al:=c.out I u 10 _ rfl)
  | (go_at_call 58;refine Y.mono ?_;rintro x j ⟨rfl,bK⟩
     have h:=ae d bK;have V:=U.out j h;have Ho:=c.out j h 5 _ rfl;have Hq:=c.out j h 6 _ rfl;have Hr:=c.out j h 7 _ rfl;have Ht:=c.out j h 8 _ rfl;have Hu:=c.out j h 9 _ rfl)
  | (go_at_call 57;refine K.mono ?_;rintro x f ⟨rfl,o7⟩
     have d:=o7;have Y:=S.out f d;have EC:=c.out f d 0 _ rfl;have ED:=c.out f d 1 _ rfl;have EE:=c.out f d 2 _ rfl;have EF:=c.out f d 3 _ rfl;have EG:=c.out f d 4 _ rfl;have EH:=c.out f d 5 _ rfl;have EI:=c.out f d 6 _ rfl;have EJ:=c.out f d 7 _ rfl;have EK:=c.out f d 8 _ rfl;have EL:=c.out f d 9 _ rfl;have wH:=c.out f d 10 _ rfl;have wJ:=c.out f d 11 _ rfl;have wK:=c.out f d 12 _ rfl;have wL:=c.out f d 13 _ rfl;have wM:=c.out f d 14 _ rfl;have wN:=c.out f d 15 _ rfl))
 go_ret;exact⟨ak T.out.symm,ae rR.out g3⟩
theorem Tf(room aU ai:ByteArray)(st:Bool)(key:ByteArray)(k i:Int)(t:ByteArray)(ks:List ByteArray)(l:List J)(prev aA:List ByteArray)(depth ts:Int)(hash:ByteArray)(sigs:List (ByteArray×ByteArray))(pk:Option Addr)(ck:Nat)(pl:Option Addr)(cl:Nat)(pp:Option Addr)(cp:Nat)(pa:Option Addr)(ca:Nat)(ps:Option Addr)(cs:Nat)(w:World)(X:S_ room aU ai st key k i t ks l prev aA depth ts hash sigs pk ck pl cl pp cp pa ca ps cs w)(z:gu ⟨room,aU,ai,st,key,⟨k,i,t,ks,l⟩,prev,aA,depth,ts,hash,sigs⟩=true)(E:iO ⟨room,aU,ai,st,key,⟨k,i,t,ks,l⟩,prev,aA,depth,ts,hash,sigs⟩=true)(F:fG ⟨k,i,t,ks,l⟩=true)(A:bZ 20 prev=true)(K:bZ 10 aA=false):
    Calls Tryz.prog 27 #[.agg #[.string room,.string aU,.string ai,.bool st,.string key,.int .i64 k,.int .i64 i,.string t,.slice pk ks.length ck,.slice pl l.length cl,.slice pp prev.length cp,.slice pa aA.length ca,.int .i64 depth,.int .i64 ts,.string hash,.slice ps sigs.length cs]] w fun x w'=>x=.returned (.bool (aO ⟨room,aU,ai,st,key,⟨k,i,t,ks,l⟩,prev,aA,depth,ts,hash,sigs⟩))/\Below w.heap.size w w':=by
 have Y:Hid (aO ⟨room,aU,ai,st,key,⟨k,i,t,ks,l⟩,prev,aA,depth,ts,hash,sigs⟩=false):=by
  show _=_
  unfold aO;simp only[z,E,F,A,K];simp
 have S:=X.h0 _ (Below.refl _ _);rw[z]at S;have I:=X.h1;rw[E]at I;have m:=X.h2;rw[F]at m;have G:=X.h3;rw[A]at G;have H:=X.h4;rw[K]at H;have T:=X.cells;have rR:Hid (Below w.heap.size w (w.alloc (.cells #[.string room,.string aU,.string ai,.bool st,.string key,.int .i64 k,.int .i64 i,.string t,.slice pk ks.length ck,.slice pl l.length cl,.slice pp prev.length cp,.slice pa aA.length ca,.int .i64 depth,.int .i64 ts,.string hash,.slice ps sigs.length cs] 29))):=X.below;have U:Hid _:=I;have Z:Hid _:=m;have G3:Hid _:=G;have V:Hid _:=H;have c:Hid _:=T;clear X T z E F A K I m G H;go_enter Tryz.func27,Tryz.ntmps27;go_wp2_with(first
  | (go_at_call 60;refine k4.mono ?_;rintro x w4 ⟨rfl,eQ⟩
     have g4:=ae g3 eQ)
  | (go_at_call 60;refine k3.mono ?_;rintro x w3 ⟨rfl,dh⟩
     have g3:=ae u dh;have k4:=V.out w3 g3;have CZ:=c.out w3 g3 11 _ rfl)
  | (go_at_call 59;refine k2.mono ?_;rintro x N ⟨rfl,bO⟩
     have u:=ae h bO;have k3:=G3.out N u;have Al:=c.out N u 10 _ rfl)
  | (go_at_call 58;refine k1.mono ?_;rintro x j ⟨rfl,bK⟩
     have h:=ae d bK;have k2:=Z.out j h;have Ho:=c.out j h 5 _ rfl;have Hq:=c.out j h 6 _ rfl;have Hr:=c.out j h 7 _ rfl;have Ht:=c.out j h 8 _ rfl;have Hu:=c.out j h 9 _ rfl)
  | (go_at_call 57;refine S.mono ?_;rintro x f ⟨rfl,o7⟩
     have d:=o7;have k1:=U.out f d;have EC:=c.out f d 0 _ rfl;have ED:=c.out f d 1 _ rfl;have EE:=c.out f d 2 _ rfl;have EF:=c.out f d 3 _ rfl;have EG:=c.out f d 4 _ rfl;have EH:=c.out f d 5 _ rfl;have EI:=c.out f d 6 _ rfl;have EJ:=c.out f d 7 _ rfl;have EK:=c.out f d 8 _ rfl;have EL:=c.out f d 9 _ rfl;have wH:=c.out f d 10 _ rfl;have wJ:=c.out f d 11 _ rfl;have wK:=c.out f d 12 _ rfl;have wL:=c.out f d 13 _ rfl;have wM:=c.out f d 14 _ rfl;have wN:=c.out f d 15 _ rfl))
 go_ret;exact⟨ak Y.out.symm,ae rR.out g4⟩
end Go.Proofs.YtldkblgclochjaaGreatDoor

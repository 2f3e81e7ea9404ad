/- A part. -/
import Derived.Test.YtldegjjaknelgaaGreatDoorAR04
import Derived.Maps.AppendAt
import Derived.Maps.OwnSet
set_option maxRecDepth 100000
set_option maxHeartbeats 64000000
namespace Go.Proofs.YtldegjjaknelgaaGreatDoor
open Go.RowKit Go.Lib Go.Sort
theorem Dx:∀x y:List UInt8,decide (Lib.compareBytes x y<0)=lessB x y
 | [], []=>rfl
 | [],_::_=>rfl
 | _::_, []=>rfl
 | a::x,b::y=>by
  unfold Lib.compareBytes lessB
  by_cases h1:a<b
  ·simp[h1]
  ·by_cases h2:b<a
   ·have h3:¬a=b:=fun h=>by subst h;exact h1 h2
    simp[h1,h2,h3]
   ·have h3:a=b:=Classical.byContradiction fun h=>(UInt8.lt_or_lt_of_ne h).elim h1 h2;rw[if_neg h1,if_neg h2,Dx x y];simp[h3]
def aC(ks:List ByteArray)(i:Nat):ByteArray:=ks.getD i aN
theorem Gw{O:Nat->Prop}{ks:List ByteArray}{p:Option Addr}{c Bx:Nat}{W:World}(gW:ig O W p c ks)(CS:W.cell? ⟨Bx,0,none⟩=some (.slice p ks.length c))(a b:Nat)(ha:a<ks.length)(hb:b<ks.length):
    Calls Tryz.prog 182 #[.int .i64 a,.int .i64 b,.pointer (some ⟨Bx,0,none⟩)] W fun e w'=>e=.returned (.int .i64 (Lib.compareBytes (aC ks a).data.toList (aC ks b).data.toList))/\∃q,w'=W.drewN q:=by
 obtain⟨ad,rfl,_,rW⟩:=gW.2 a ha;obtain⟨ad',he,_,ze⟩:=gW.2 b hb
 cases he
 change W.cell? (ad.add a)=some (.string (aC ks a))at rW;change W.cell? (ad.add b)=some (.string (aC ks b))at ze;have RV:=fun wx:World=>Tryz.strings_Compare (aC ks a) (aC ks b) wx;generalize Lib.compareBytes (aC ks a).data.toList (aC ks b).data.toList=r at RV ⊢;generalize aC ks a=x at*;generalize aC ks b=y at*;go_enter Tryz.func182,Tryz.ntmps182;go_wp2;go_quiet (first| (go_at_call 183;exact Calls.quiet_of_same (RV _)));go_wp2;go_ret;exact⟨rfl,nq,rfl⟩
theorem Ag{α:Type} [Inhabited α](enc:α->Value)(w:World)(g m:Nat)(d:Array α)(os:Array Obj):av (fun k=>k=g) w (sortWorld enc w g 0 m d os):=by
 refine⟨rfl,rfl,rfl, ?_,fun k hk hn=> ?_⟩
 ·unfold sortWorld grow putRow mapBlock Sort.ahead;simp
 ·unfold sortWorld;rw[heap_grow_old _ _ (by unfold putRow mapBlock Sort.ahead;simpa using hk)];unfold putRow mapBlock Sort.ahead;simp only[Array.getElem?_modify];rw[if_neg (fun h=>hn h.symm)]
def vL(m:Nat)(x:Fin (m+1)):Value:=.int .i64 (x.val:Int)
def cfK(ks:List ByteArray)(m:Nat)(x y:Fin (m+1)):Int:=Lib.compareBytes (aC ks x.val).data.toList (aC ks y.val).data.toList
theorem Bw(ks:List ByteArray)(m:Nat)(x y:Fin (m+1)):ltOf (cfK ks m) x y=iN (aC ks x.val) (aC ks y.val):=Dx _ _
theorem Gx{a b c:ByteArray}(h:iN a b=false)(h':iN b c=false):iN a c=false:=by
 cases hac:iN a c with
 | false=>rfl
 | true=>
  by_cases jH:a=b
  ·subst jH;rw[h']at hac;cases hac
  ·rcases mg jH with h1| h1
   ·rw[h1]at h;cases h
   ·have:=iB h1 hac;rw[h']at this;cases this
theorem zdO(ks:List ByteArray)(m:Nat):SWO (ltOf (cfK ks m)) where
 irrefl x:=by rw[Bw];exact kI _
 trans x y z h1 h2:=by rw[Bw]at*;exact iB h1 h2
 ntrans x y z h1 h2:=by rw[Bw]at*;exact Gx h1 h2
def il(w:World)(g:Nat)(L:List Nat)(ks:List ByteArray):Prop:=
 L.Perm (List.range ks.length)/\(∀i j,i<j->j<L.length->iN (aC ks (L.getD j 0)) (aC ks (L.getD i 0))=false)/\∀j,j<L.length->w.cell? ⟨g,j,none⟩=some (.int .i64 ((L.getD j 0:Nat):Int))
def qp(k n:Nat):Array Value:=((List.range n).map fun i=>Value.int .i64 ((if i<k then i else 0:Nat):Int)).toArray
theorem oO(k n i:Nat)(h:i<n):(qp k n)[i]?=some (.int .i64 ((if i<k then i else 0:Nat):Int)):=by
 unfold qp;simp[h]
theorem Lx(k n:Nat)(h:k<n):(qp k n).setIfInBounds k (.int .i64 (k:Int))=qp (k+1) n:=by
 apply Array.ext_getElem?
 intro i;rw[Array.getElem?_setIfInBounds]
 by_cases hi:k=i
 ·subst hi;rw[if_pos rfl,if_pos (by unfold qp;simpa using h),oO _ _ _ h,if_pos (by omega)]
 ·rw[if_neg hi]
  by_cases hn:i<n
  ·rw[oO _ _ _ hn,oO _ _ _ hn]
   by_cases h1:i<k
   ·rw[if_pos h1,if_pos (by omega)]
   ·rw[if_neg h1,if_neg (by omega)]
  ·unfold qp;rw[List.getElem?_toArray,List.getElem?_toArray,List.getElem?_eq_none (by simp;omega),List.getElem?_eq_none (by simp;omega)]
def qd(m:Nat):Array (Fin (m+1)):=(List.finRange (m+1)).toArray
theorem mq(m:Nat):(qd m).size=m+1:=by unfold qd;simp
theorem RX(m j:Nat)(h:j<m+1):(qd m)[j]! =⟨j,h⟩:=by
 unfold qd;rw[getElem!_pos _ j (by simpa using h)];simp
theorem Tryz.J9:(Tryz.prog.info? 3).map (fun i=>(i.zero,i.size,i.bytes))=some (some (.int .i64 0),1,8):=by kernel_rfl
theorem LA{m:Nat}{ks:List ByteArray}(hm:ks.length=m+1){d':Array (Fin (m+1))}(hp:PermIn 0 (qd m).size (qd m) d')(hs:SortedIn (ltOf (cfK ks m)) 0 (qd m).size d'){w:World}{g:Nat}(hH:Holds (vL m) w g 0 d'):
    il w g (d'.toList.map (·.val)) ks:=by
 obtain⟨h1,_,h3⟩:=hp;have fq:d'.size=m+1:=by rw[h1,mq]
 have e1:(d'.extract 0 (qd m).size).toList=d'.toList:=by rw[<-h1,Array.extract_size]
 have e2:((qd m).extract 0 (qd m).size).toList=List.finRange (m+1):=by rw[Array.extract_size];unfold qd;simp
 rw[e1,e2]at h3;have oP:∀j,j<m+1->(d'.toList.map (·.val)).getD j 0=d'[j]!.val:=by
  intro j hj;rw[List.getD_eq_getElem?_getD,List.getElem?_map,List.getElem?_eq_getElem (by simpa [fq]using hj),getElem!_pos d' j (by omega)];simp
 refine⟨?_,fun i j hij hj=> ?_,fun j hj=> ?_⟩
 ·have:=h3.map (fun x:Fin (m+1)=>x.val);have e3:(List.finRange (m+1)).map (fun x:Fin (m+1)=>x.val)=List.range (m+1):=by
   apply List.ext_getElem
   ·simp
   ·intro n h1 h2;simp
  rw[e3]at this;rw[hm];exact this
 ·have Gh:j<m+1:=by simpa [fq]using hj
  rw[oP j Gh,oP i (by omega)];have:=hs i j (Nat.zero_le _) hij (by rw[mq];exact Gh);rw[Bw]at this;exact this
 ·have Gh:j<m+1:=by simpa [fq]using hj
  have:=(hH j (by omega)).1;rw[Nat.zero_add]at this;rw[this,oP j Gh]
  rfl
theorem wX{w:World}{B e g n:Nat}{xs:List Value}(h:w.ownsRow B e 1 (.slice (some ⟨g,0,none⟩) n n) n xs):w.heap[g]?=some (.cells xs.toArray e (0,0)):=by
 rcases h.2 with⟨h',_⟩| ⟨g',cap,cur,he,hg,xm,h1,h2,h3,h4⟩
 ·cases h'
 ·cases he
  rw[xm];have e:xs=cur.toList:=by rw[<-h4,List.take_of_length_le (by simp;omega)]
  rw[e]
theorem Gy(n:Nat):(madeCells #[Value.int .i64 0] n).toList.toArray=qp 0 n:=by
 rw[toList_madeCells_one];unfold qp
 congr 1
 apply List.ext_getElem
 ·simp
 ·intro i h1 h2;simp
theorem zdP:∀args w,(callFunc 182 args).run Tryz.prog w=.ok (.enter 182 args) w:=enters_of Tryz.func182 (by kernel_rfl) rfl
theorem Dy{O:Nat->Prop}{ks:List ByteArray}{p:Option Addr}{c m:Nat}{w:World}(gW:ig O w p c ks)(hO:∀k,O k->k<w.heap.size)(hm:ks.length=m+1)(hl:ks.length<=1000000):
    Calls Tryz.prog 165 #[.slice p ks.length c] w fun e w'=>∃g L,e=.returned (.slice (some ⟨g,0,none⟩) ks.length ks.length)/\il w' g L ks/\w.heap.size<=g/\g<w'.heap.size/\Below w.heap.size w w':=by
 obtain⟨i0,hi,oN,oI,rV⟩:=info_parts Tryz.J9;have HM:Hid (ks.length=m+1):=hm;clear hm;have CS:(w.alloc (.cells #[.slice p ks.length c] 22)).cell? ⟨w.heap.size,0,none⟩=some (.slice p ks.length c):=a_ (cur:= [_]) (heap_alloc_new _ _) 0 _ rfl;have dS:Below w.heap.size w (w.alloc (.cells #[.slice p ks.length c] 22)):=(Below.refl _ _).alloc (Nat.le_refl _) _;go_enter Tryz.func165,Tryz.ntmps165;go_wp2_with(first
  | (at_make;refine wpList_make_full _ rfl _ _ 121 rfl (w.heap.size+1) 3 i0 (.int .i64 0) 1 Tryz.underlying121 hi oN oI _ _ _ _ ks.length rfl rfl rfl rfl ?b2 ?b3 ?b4 ?_))
 case b2=>rw[rV];omega
 case b3=>unfold maxLen;omega
 case b4=>simp
 intro w1 aL lu;have Dz:(w.alloc (.cells #[.slice p ks.length c] 22)).heap.size=w.heap.size+1:=by simp
 have jF:=wX aL;rw[Gy]at jF;have aP:RowKit.Below (w.heap.size+1) (w.alloc (.cells #[.slice p ks.length c] 22)) w1:=(RowKit.Below.refl _ _).grown lu (by rw[Dz];exact Nat.le_refl _) (by simp);clear aL lu;go_wp2
 go_loopw [10] (fun i wr=>∃k:Nat,i=.int .i64 k/\k<=ks.length/\wr.heap[w.heap.size+1]?=some (.cells (qp k ks.length) 3 (0,0))/\RowKit.Below (w.heap.size+1) (w.alloc (.cells #[.slice p ks.length c] 22)) wr) (fun i _=>ks.length - (intOf i).toNat)
 case atStart=>exact⟨0,rfl,Nat.zero_le _,jF,aP⟩
 case round=>
  clear jF aP;obtain⟨k,rfl,hk,jF,hb⟩:=hrel
  by_cases bH:k<ks.length
  ·have fF:wr.cell? ⟨w.heap.size+1,k,none⟩=some (.int .i64 ((if k<k then k else 0:Nat):Int)):=by
     simp only[World.cell?,jF];exact oO k ks.length k bH
   have hfz:wr.frozen? ⟨w.heap.size+1,k,none⟩=false:=frozen_of_row wr _ k _ _ jF;have Ot:Hid ((wr.setCell ⟨w.heap.size+1,k,none⟩ (.int .i64 (k:Int))).heap[w.heap.size+1]?=some (.cells (qp (k+1) ks.length) 3 (0,0))):=by
    rw[heap_setCell_same wr _ k _ _ _ jF,Lx k _ bH];rfl
   have HB:=hb.setCell (p:=⟨w.heap.size+1,k,none⟩) (Nat.le_refl _) (.int .i64 (k:Int));go_wp2;go_roundw
   case rel=>exact⟨k+1,by go_num,bH,Ot.out,HB⟩
   case measure=>simp[intOf];omega
  ·obtain rfl:k=ks.length:=by omega
   have hm:=HM.out;have fq:=hb.size;rw[Dz]at fq;have RY:w.heap.size+1<wr.heap.size:=(Array.getElem?_eq_some_iff.1 jF).1;have hH:Holds (vL m) wr (w.heap.size+1) 0 (qd m):=by
    intro j hj;rw[mq]at hj;rw[Nat.zero_add];refine⟨?_,frozen_of_row wr _ j _ _ jF⟩;have hfc:=oO ks.length ks.length j (by omega);rw[if_pos (show j<ks.length by omega)]at hfc;rw[RX m j hj];simp only[World.cell?,jF];exact hfc
   have bX:RowKit.Below w.heap.size w wr:=((RowKit.Below.refl _ _).alloc (Nat.le_refl _) _).trans (hb.mono (by omega));have RU:CmpReads Tryz.prog 182 #[.pointer (some ⟨w.heap.size,0,none⟩)] (vL m) (cfK ks m) (w.heap.size+1) 0 (qd m).size wr:=by
    intro n os dk hdk x y;have qf:=Ag (vL m) wr (w.heap.size+1) n dk os;have zdQ:(sortWorld (vL m) wr (w.heap.size+1) 0 n dk os).cell? ⟨w.heap.size,0,none⟩=some (.slice p ks.length c):=by
     rw[qf.cell (p:=⟨w.heap.size,0,none⟩) (by simp only;omega) (by simp only;omega),hb.cell (p:=⟨w.heap.size,0,none⟩) (by simp only;omega)];exact CS
    have Oz:ig O (sortWorld (vL m) wr (w.heap.size+1) 0 n dk os) p c ks:=gW.carry fun k hk=>⟨hk,by
     have fG:=hO k hk;rw[qf.block k (by omega) (by omega),bX.block k fG]⟩
    exact Gw Oz zdQ x.val y.val (by omega) (by omega)
   have RV:Calls Tryz.prog 181 #[.slice (some ⟨w.heap.size+1,0,none⟩) ks.length ks.length,.func (.func 182) #[] #[.pointer (some ⟨w.heap.size,0,none⟩)]] wr fun e w'=>e=.returned (.tuple #[])/\(∃L,il w' (w.heap.size+1) L ks)/\av (fun k=>k=w.heap.size+1) wr w':=by
    have zdR:(Value.slice (some ⟨w.heap.size+1,0,none⟩) ks.length ks.length)=Value.slice (some ⟨w.heap.size+1,0,none⟩) (qd m).size ks.length:=by rw[mq,hm]
    rw[zdR];refine(Tryz.slices_SortFunc (vL m) (fun _=>rfl) (cfK ks m) (zdO ks m) 182 #[.pointer (some ⟨w.heap.size,0,none⟩)] (w.heap.size+1) 0 ks.length (qd m) wr zdP RU.lays hH RY (by rw[mq];omega)).mono fun e w' ⟨h1,d',n,os,hp,hs,hw⟩=> ?_;subst hw;exact⟨h1,⟨_,LA hm hp hs (holds_sortWorld (vL m) wr (w.heap.size+1) 0 n (qd m) d' os RY hH hp.1)⟩,Ag _ _ _ _ _ _⟩
   clear hm RU hH jF;go_wp2_with(first
    | (go_at_call 181;refine RV.mono ?_;rintro e w2 ⟨rfl,⟨L,hL⟩,pO⟩))
   go_ret;refine⟨w.heap.size+1,L,rfl,hL,by omega,by have:=pO.size;omega, ?_⟩;exact bX.trans (pO.below (by omega) fun k hk=>by omega)
theorem DC(p:Option Addr)(c:Nat)(w:World):
    Calls Tryz.prog 165 #[.slice p 0 c] w fun e w'=>∃g,e=.returned (.slice (some ⟨g,0,none⟩) 0 0)/\w.heap.size<=g/\g<w'.heap.size/\Below w.heap.size w w':=by
 obtain⟨i0,hi,oN,oI,rV⟩:=info_parts Tryz.J9;have CS:(w.alloc (.cells #[.slice p 0 c] 22)).cell? ⟨w.heap.size,0,none⟩=some (.slice p 0 c):=a_ (cur:= [_]) (heap_alloc_new _ _) 0 _ rfl;go_enter Tryz.func165,Tryz.ntmps165;go_wp2_with(first
  | (at_make;refine wpList_make_full _ rfl _ _ 121 rfl (w.heap.size+1) 3 i0 (.int .i64 0) 1 Tryz.underlying121 hi oN oI _ _ _ _ 0 rfl rfl rfl rfl ?b2 ?b3 ?b4 ?_))
 case b2=>omega
 case b3=>unfold maxLen;omega
 case b4=>simp
 intro w1 aL lu;have Dz:(w.alloc (.cells #[.slice p 0 c] 22)).heap.size=w.heap.size+1:=by simp
 have jF:=wX aL;have RY:w.heap.size+1<w1.heap.size:=(Array.getElem?_eq_some_iff.1 jF).1;have aP:RowKit.Below w.heap.size (w.alloc (.cells #[.slice p 0 c] 22)) w1:=(RowKit.Below.refl _ _).grown lu (by rw[Dz];omega) (by simp);have hb:RowKit.Below w.heap.size w w1:=((RowKit.Below.refl _ _).alloc (Nat.le_refl _) _).trans aP;have za3:∀wx:World,Calls Tryz.prog 181 #[.slice (some ⟨w.heap.size+1,0,none⟩) 0 0,.func (.func 182) #[] #[.pointer (some ⟨w.heap.size,0,none⟩)]] wx fun e w'=>e=.returned (.tuple #[])/\wx=w':=
  fun wx=>(Tryz.slices_SortFunc_none (α:=Nat) (some ⟨w.heap.size+1,0,none⟩) 0 _ wx).mono fun _ _ h=>⟨h.1,h.2.symm⟩
 clear aL lu jF aP;go_wp2;refine wp_loop_rounds 1 ?_;rw[rounds_succ];go_wp2_with(first
  | (go_at_call 181;refine(za3 _).mono ?_;rintro e w' ⟨rfl,rfl⟩))
 go_ret;exact⟨w.heap.size+1,rfl,by omega,RY,hb⟩
theorem xK{O:Nat->Prop}{ks:List ByteArray}{p:Option Addr}{c:Nat}{w:World}(gW:ig O w p c ks)(hO:∀k,O k->k<w.heap.size)(hl:ks.length<=1000000):
    Calls Tryz.prog 165 #[.slice p ks.length c] w fun e w'=>∃g L,e=.returned (.slice (some ⟨g,0,none⟩) ks.length ks.length)/\il w' g L ks/\w.heap.size<=g/\g<w'.heap.size/\Below w.heap.size w w':=by
 cases ks with
 | nil=>
  refine(DC p c w).mono fun e w' ⟨g,h1,h2,h3,h4⟩=>⟨g, [],h1,⟨List.Perm.refl _,fun i j _ hj=>absurd hj (by simp),fun j hj=>absurd hj (by simp)⟩,h2,h3,h4⟩
 | cons k r=>exact Dy gW hO rfl hl
theorem Ah(k:ByteArray)(v:J):∀(q:List (ByteArray×J)),(putK k v q).Perm ((k,v)::q)
 | []=>List.Perm.refl _
 | y::q=>by
  unfold putK
  split
  ·exact List.Perm.refl _
  ·exact((Ah k v q).cons y).trans (List.Perm.swap _ _ _)
theorem jq:∀(q:List (ByteArray×J)),(eT q).Perm q
 | []=>List.Perm.refl _
 | y::q=>by
  unfold eT;exact(Ah y.1 y.2 _).trans ((jq q).cons y)
theorem LB{a b:ByteArray}(h:iN a b=true):iN b a=false:=by
 cases h':iN b a with
 | false=>rfl
 | true=>have:=iB h h';rw[kI]at this;cases this
theorem xL:∀(a b:List (ByteArray×J)),rises (a.map (·.1))=true->rises (b.map (·.1))=true->a.Perm b->a=b
 | [],b,_,_,h=>(List.nil_perm.1 h).symm ▸ rfl
 | x::a, [],_,_,h=>by have:=h.length_eq;simp at this
 | x::a,y::b,ha,hb,h=>by
  simp only[List.map_cons,rises,Bool.and_eq_true]at ha hb;have hx:x∈y::b:=h.subset (by simp);have hy:y∈x::a:=h.symm.subset (by simp);have NK:x=y:=by
   rcases List.mem_cons.1 hx with h1| h1
   ·exact h1
   ·rcases List.mem_cons.1 hy with h2| h2
    ·exact h2.symm
    ·have g1:=List.all_eq_true.1 hb.1 x.1 (List.mem_map.2 ⟨x,h1,rfl⟩);have g2:=List.all_eq_true.1 ha.1 y.1 (List.mem_map.2 ⟨y,h2,rfl⟩);rw[LB g1]at g2;cases g2
  subst NK;rw[xL a b ha.2 hb.2 ((List.perm_cons x).1 h)]
theorem fV:∀{ks:List ByteArray},noKeyTwice ks=true->ks.Pairwise (· ≠ ·)
 | [],_=>List.Pairwise.nil
 | k::r,h=>by
  simp only[noKeyTwice,Bool.and_eq_true,Bool.not_eq_true',List.any_eq_false,decide_eq_true_eq]at h;refine List.pairwise_cons.2 ⟨fun x hx e=>h.1 x hx (by rw[e]),fV h.2⟩
theorem eY:∀{ks:List ByteArray},ks.Pairwise (· ≠ ·)->noKeyTwice ks=true
 | [],_=>rfl
 | k::r,h=>by
  have h':=List.pairwise_cons.1 h;simp only[noKeyTwice,Bool.and_eq_true,Bool.not_eq_true',List.any_eq_false,decide_eq_true_eq];refine⟨fun x hx e=>h'.1 x hx ?_,eY h'.2⟩
  cases x;cases k
  simp only at e;rw[e]
def mD(l:List J)(i:Nat):J:=l.getD i J.zero
def zh(ks:List ByteArray)(l:List J)(L:List Nat):List (ByteArray×J):=L.map fun i=>(aC ks i,mD l i)
theorem Ai:∀(ks:List ByteArray) (l:List J),ks.length=l.length->zh ks l (List.range ks.length)=ks.zip l
 | ks,l,h=>by
  unfold zh
  apply List.ext_getElem
  ·simp;omega
  ·intro i h1 h2;have hi:i<ks.length:=by simpa using h1
   simp only[List.getElem_map,List.getElem_range,List.getElem_zip,aC,mD];rw[List.getD_eq_getElem?_getD,List.getD_eq_getElem?_getD,List.getElem?_eq_getElem hi,List.getElem?_eq_getElem (by omega)]
   rfl
theorem xM{α:Type}(f:α->ByteArray):∀(l:List α),l.Pairwise (fun x y=>iN (f x) (f y)=true)->rises (l.map f)=true
 | [],_=>rfl
 | x::l,h=>by
  have h':=List.pairwise_cons.1 h;simp only[List.map_cons,rises,Bool.and_eq_true];refine⟨List.all_eq_true.2 fun z hz=> ?_,xM f l h'.2⟩;obtain⟨y,hy,rfl⟩:=List.mem_map.1 hz;exact h'.1 y hy
theorem DD{w:World}{g:Nat}{L:List Nat}{ks:List ByteArray}{l:List J}(hP:il w g L ks)(hd:ks.Pairwise (· ≠ ·))(hl:ks.length=l.length):zh ks l L=eT (ks.zip l):=by
 obtain⟨hp,hs,_⟩:=hP;have dP:L.length=ks.length:=by rw[hp.length_eq];simp
 have OA:(zh ks l L).Perm (ks.zip l):=by
  rw[<-Ai ks l hl];exact hp.map _
 have hpw:(ks.zip l).Pairwise fun x y=>x.1≠y.1:=by
  have:((ks.zip l).map (·.1)).Pairwise (· ≠ ·):=by rw[List.map_fst_zip (by omega)];exact hd
  exact List.pairwise_map.1 this
 refine xL _ _ ?_ (j6 _ hpw) (OA.trans (jq _).symm);unfold zh;rw[List.map_map];refine xM _ L ?_;rw[List.pairwise_iff_getElem];intro i j hi hj hij;have h1:=hs i j hij hj;have gi:L.getD i 0=L[i]:=by rw[List.getD_eq_getElem?_getD,List.getElem?_eq_getElem hi];rfl
 have gj:L.getD j 0=L[j]:=by rw[List.getD_eq_getElem?_getD,List.getElem?_eq_getElem hj];rfl
 rw[gi,gj]at h1;have OB:L.Nodup:=hp.nodup_iff.2 List.nodup_range;have sN:L[i]≠L[j]:=List.pairwise_iff_getElem.1 OB i j hi hj hij;have mi:L[i]<ks.length:=by have:=hp.subset (List.getElem_mem hi);simpa using this
 have mj:L[j]<ks.length:=by have:=hp.subset (List.getElem_mem hj);simpa using this
 have zdS:aC ks L[i]≠aC ks L[j]:=by
  unfold aC;rw[List.getD_eq_getElem?_getD,List.getD_eq_getElem?_getD,List.getElem?_eq_getElem mi,List.getElem?_eq_getElem mj];simp only[Option.getD_some];intro e
  rcases Nat.lt_or_gt_of_ne sN with h| h
  ·exact List.pairwise_iff_getElem.1 hd _ _ mi mj h e
  ·exact List.pairwise_iff_getElem.1 hd _ _ mj mi h e.symm
 rcases mg zdS with h| h
 ·exact h
 ·rw[h]at h1;cases h1
open Go.RowKit
section
variable {P : Program} {bT : Array Oper} {Q : Exit -> Act -> World -> Prop} {md : Region.Mode} {C : World -> Prop}
theorem bY{i j:Nat}{o u:Oper}{n:Nat}{listed:Array Bool}{a:Act}{w:World}(hC:C w)(hr:Region.ready md bT listed= [i,j])(hi:bT[i]?=some o)(hj:bT[j]?=some u)
    (hw:Region.wanted o (yielded bT a.tmps)=true) (hv:Region.wanted u (yielded bT a.tmps)=true)
    (h:∀K':Act->World->Prop,(∀a w,wpIn P md bT Q C n (listed.setIfInBounds i true) a w->K' a w)->Oper.wp P o a w K' Q)
    (h':∀K':Act->World->Prop,(∀a w,wpIn P md bT Q C n (listed.setIfInBounds j true) a w->K' a w)->Oper.wp P u a w K' Q):wpIn P md bT Q C (n+1) listed a w:=by
 refine⟨hC,fun h0=>(by rw[hr]at h0;cases h0),fun m hm=> ?_⟩;rw[hr]at hm;unfold wpOp
 rcases List.mem_cons.1 hm with rfl| hm
 ·rw[hi];simp only;rw[if_pos hw];exact .inl (h _ fun _ _ h'=>h')
 ·rw[List.mem_singleton.1 hm,hj];simp only;rw[if_pos hv];exact .inl (h' _ fun _ _ h'=>h')
end
theorem aR{w:World}{o:Oper}{a:Act}{K:Act->World->Prop}{Q:Exit->Act->World->Prop}(s x:Operand)(t:TypeId)
    (ho:o.op=.call {callee:=.builtin .append,args:=#[s,x],argTypes:=#[t,t]})
    (dM:Nat) (e:TypeId) (z:Value) (size bytes:Nat) (ht:Tryz.prog.underlying t=some (.slice e)) (sD:(Tryz.prog.info? e).map (fun i=>(i.zero,i.size,i.bytes))=some (some z,size,bytes))
    (VD:z.cells.size=size) (fq:0<size) (CR:bytes<=100)
    (v:Value) (n:Nat) (xs:List Value) (hs:a.eval s=v) (aL:w.ownsRow dM e size v n xs)
    (ad:Addr) (news:List Value) (hx:a.eval x=.slice (some ad) 1 1) (hl:news.length=size) (om:∀j u,news[j]?=some u->w.cell? (ad.add j)=some u) (h1:∀u∈news,u.oneCell'=true)
    (hn:n<=1000000) (jW:dM<=w.heap.size)
    (h:∀v' w',w'.ownsRow dM e size v' (n+1) (xs++news)->w.grownBy w' v.ownBlock->(v'.ownBlock=v.ownBlock\/ v'.ownBlock=some w.heap.size)->K (a.put o.dst v') w'):o.wp Tryz.prog a w K Q:=by
 obtain⟨i0,hi,oN,oI,rV⟩:=info_parts sD;have vK:(n+1)*bytes<=140737488355328:=by
  have:(n+1)*bytes<=(n+1)*100:=Nat.mul_le_mul_left _ CR;omega
 obtain⟨v',w',hr,h2,h3,h4,h5⟩:=run_append_own_at (P:=Tryz.prog) w dM t o.type e i0 z size bytes ht hi oN oI rV VD fq v n xs aL ad 1 1 news (by rw[hl,Nat.one_mul]) om h1 (by unfold maxLen;omega) vK jW;unfold Oper.wp execOp;simp only[ho,resolve,invoke,builtin,Sem.run_bind,Sem.run_pure,Result.andThen_ok,List.map_toArray,List.map_cons,List.map_nil,hs,hx,hr];exact h v' w' h2 h3 h5
theorem Tryz.jd:(Tryz.prog.info? 9).map (fun i=>(i.zero,i.size,i.bytes))=some (some (.string ⟨#[]⟩),1,16):=by kernel_rfl
theorem Tryz.dY:(Tryz.prog.info? 25).map (fun i=>(i.zero,i.size,i.bytes))=some (some (.agg #[.int .i64 0,.int .i64 0,.string ⟨#[]⟩,.slice none 0 0,.slice none 0 0]),5,80):=by kernel_rfl
def One(R:Nat):Nat->Prop:=fun k=>k=R
section
variable {w w' : World} {R p : Nat} {s : ByteArray} {e l : Int}
end
theorem Bz(s:ByteArray)(i:Nat)(h:i<s.size):ax (ints s) i=(s[i].toNat:Int):=cK s i h
theorem LC{t r:List Int}{p:Nat}{c:Int}(h:t.drop p=c::r):ax t p=c:=by
 unfold ax;have:t[p]?=some c:=by
  have h1:(t.drop p)[0]?=some c:=by rw[h];rfl
  rw[List.getElem?_drop]at h1;exact h1
 rw[List.getD_eq_getElem?_getD,this]
 rfl
theorem drop_tail{t r:List Int}{p:Nat}{c:Int}(h:t.drop p=c::r):t.drop (p+1)=r:=by
 rw[<-List.drop_drop,h];rfl
open Go.RowKit
def qx(w w':World):Nat->Prop:=fun k=>w.heap.size<=k/\k<w'.heap.size
section
variable {w : World} {b : Nat} {a0 a1 a2 a3 a4 : Value} {t : TypeId}
theorem wY(h:w.heap[b]?=some (.cells #[a0,a1,a2,a3,a4] t (0,0))):w.cell? ⟨b,0,none⟩=some a0:=a_ (cur:= [_,_,_,_,_]) h 0 _ rfl
theorem Kc(h:w.heap[b]?=some (.cells #[a0,a1,a2,a3,a4] t (0,0))):w.cell? ⟨b,1,none⟩=some a1:=a_ (cur:= [_,_,_,_,_]) h 1 _ rfl
theorem Ke(h:w.heap[b]?=some (.cells #[a0,a1,a2,a3,a4] t (0,0))):w.cell? ⟨b,2,none⟩=some a2:=a_ (cur:= [_,_,_,_,_]) h 2 _ rfl
theorem fC(h:w.heap[b]?=some (.cells #[a0,a1,a2,a3,a4] t (0,0))):w.cell? ⟨b,3,none⟩=some a3:=a_ (cur:= [_,_,_,_,_]) h 3 _ rfl
theorem bg(h:w.heap[b]?=some (.cells #[a0,a1,a2,a3,a4] t (0,0))):w.cell? ⟨b,4,none⟩=some a4:=a_ (cur:= [_,_,_,_,_]) h 4 _ rfl
theorem fZ(h:w.heap[b]?=some (.cells #[a0,a1,a2,a3,a4] t (0,0)))(j:Nat):w.frozen? ⟨b,j,none⟩=false:=frozen_of_row w b j _ _ h
theorem aM(h:w.heap[b]?=some (.cells #[a0,a1,a2,a3,a4] t (0,0))):w.cell? ⟨b,0,none⟩=some a0/\w.cell? ⟨b,1,none⟩=some a1/\w.cell? ⟨b,2,none⟩=some a2/\w.cell? ⟨b,3,none⟩=some a3/\w.cell? ⟨b,4,none⟩=some a4:=⟨wY h,Kc h,Ke h,fC h,bg h⟩
theorem fD(h:w.heap[b]?=some (.cells #[a0,a1,a2,a3,a4] t (0,0))):w.frozen? ⟨b,0,none⟩=false/\w.frozen? ⟨b,1,none⟩=false/\w.frozen? ⟨b,2,none⟩=false/\w.frozen? ⟨b,3,none⟩=false/\w.frozen? ⟨b,4,none⟩=false:=⟨fZ h 0,fZ h 1,fZ h 2,fZ h 3,fZ h 4⟩
def kK(w:World)(b:Nat)(v0 v1 v2 v3 v4:Value):World:=((((w.setCell ⟨b,0,none⟩ v0).setCell ⟨b,1,none⟩ v1).setCell ⟨b,2,none⟩ v2).setCell ⟨b,3,none⟩ v3).setCell ⟨b,4,none⟩ v4
theorem dG(h:w.heap[b]?=some (.cells #[a0,a1,a2,a3,a4] t (0,0)))(v0 v1 v2 v3 v4:Value):(kK w b v0 v1 v2 v3 v4).heap[b]?=some (.cells #[v0,v1,v2,v3,v4] t (0,0)):=by
 have h0:(w.setCell ⟨b,0,none⟩ v0).heap[b]?=some (.cells #[v0,a1,a2,a3,a4] t (0,0)):=by rw[heap_setCell_same w b 0 _ _ _ h];rfl
 have h1:((w.setCell ⟨b,0,none⟩ v0).setCell ⟨b,1,none⟩ v1).heap[b]?=some (.cells #[v0,v1,a2,a3,a4] t (0,0)):=by rw[heap_setCell_same _ b 1 _ _ _ h0];rfl
 have h2:(((w.setCell ⟨b,0,none⟩ v0).setCell ⟨b,1,none⟩ v1).setCell ⟨b,2,none⟩ v2).heap[b]?=some (.cells #[v0,v1,v2,a3,a4] t (0,0)):=by rw[heap_setCell_same _ b 2 _ _ _ h1];rfl
 have h3:((((w.setCell ⟨b,0,none⟩ v0).setCell ⟨b,1,none⟩ v1).setCell ⟨b,2,none⟩ v2).setCell ⟨b,3,none⟩ v3).heap[b]?=some (.cells #[v0,v1,v2,v3,a4] t (0,0)):=by rw[heap_setCell_same _ b 3 _ _ _ h2];rfl
 unfold kK;rw[heap_setCell_same _ b 4 _ _ _ h3];rfl
theorem dH(w:World)(b:Nat)(v0 v1 v2 v3 v4:Value):av (One b) w (kK w b v0 v1 v2 v3 v4):=
 av.setCell (av.setCell (av.setCell (av.setCell (av.setCell (av.refl _ _) (fun _=>(rfl:b=b)) _) (fun _=>(rfl:b=b)) _) (fun _=>(rfl:b=b)) _) (fun _=>(rfl:b=b)) _) (fun _=>(rfl:b=b)) _
end
theorem ig.below{O:Nat->Prop}{w w':World}{p:Option Addr}{c:Nat}{ks:List ByteArray}(h:ig O w p c ks)(hO:∀k,O k->k<w.heap.size)(hb:Below w.heap.size w w'):ig O w' p c ks:=
 h.carry fun k hk=>⟨hk,hb.block k (hO k hk)⟩
theorem jC{O:Nat->Prop}{w:World}{j:J}{cs:List Value}(h:isJ O w j cs):∀u∈cs,u.oneCell'=true:=by
 cases j
 unfold isJ at h;obtain⟨_,_,_,_,rfl,_⟩:=h;intro u hu;simp at hu
 rcases hu with rfl| rfl| rfl| rfl| rfl<;>rfl
theorem pQ{w:World}{B:Nat}{v:Value}{S:List ByteArray}(h:w.ownsRow B 9 1 v S.length (S.map Value.string)):∃q cq,v=.slice q S.length cq/\ig (fun k=>B<=k/\k<w.heap.size) w q cq S:=by
 rcases h.2 with⟨rfl,hn⟩| ⟨g,cap,cur,rfl,hg,xm,h1,h2,h3,h4⟩
 ·obtain rfl:S= []:=List.eq_nil_of_length_eq_zero hn;exact⟨none,0,rfl,ig.nil _ _⟩
 ·refine⟨_,cap,rfl,⟨h1,fun j hj=>⟨_,rfl,⟨hg,(Array.getElem?_eq_some_iff.1 xm).1⟩, ?_⟩⟩⟩;have:=h.cells (g:=g) rfl j (.string (S.getD j aN)) (by rw[List.getElem?_map,List.getD_eq_getElem?_getD,List.getElem?_eq_getElem hj];rfl);exact this
theorem qQ{O:Nat->Prop}{w:World}{B:Nat}{v:Value}{l:List J}{xs:List Value}(h:w.ownsRow B 25 5 v l.length xs)(hr:isRow O w l xs):∃q cq,v=.slice q l.length cq/\l.length<=cq/\isJs (fun k=>O k\/ (B<=k/\k<w.heap.size)) w q 0 l:=by
 rcases h.2 with⟨rfl,hn⟩| ⟨g,cap,cur,rfl,hg,xm,h1,h2,h3,h4⟩
 ·obtain rfl:l= []:=List.eq_nil_of_length_eq_zero hn;exact⟨none,0,rfl,Nat.le_refl _,by unfold isJs;trivial⟩
 ·refine⟨_,cap,rfl,h1, ?_⟩;refine isRow.isJs (O:=fun k=>O k\/ (B<=k/\k<w.heap.size)) (.inr ⟨hg,(Array.getElem?_eq_some_iff.1 xm).1⟩) l xs 0 (hr.carry fun k hk=>⟨.inl hk,rfl⟩) fun i u hi=> ?_;have hc:cur[i]?=some u:=by
   rw[<-h4]at hi;rw[List.getElem?_take]at hi
   split at hi
   ·simpa using hi
   ·cases hi
  rw[Nat.zero_mul,Nat.add_zero,Nat.zero_add];simp only[World.cell?,xm];exact hc
structure MI(O:Nat->Prop)(wB:World)(b:Nat)(Sk:List ByteArray)(Sv:List J)(vk vl:Value)(wr:World):Prop where
 obj:wr.heap[b+1]?=some (.cells #[.int .i64 5,.int .i64 0,.string ⟨#[]⟩,vk,vl] 25 (0,0))
 res:wr.heap[b]?=some (.cells #[.int .i64 0,.int .i64 0,.string ⟨#[]⟩,.slice none 0 0,.slice none 0 0] 25 (0,0))
 keys:wr.ownsRow wB.heap.size 9 1 vk Sk.length (Sk.map Value.string)
 eG:∃xs,wr.ownsRow wB.heap.size 25 5 vl Sv.length xs/\isRow O wr Sv xs
 ne:∀i,vk.ownBlock=some i->vl.ownBlock≠some i
 fA:av (One (b+1)) wB wr
 lt:b+1<wB.heap.size
 low:∀k,O k->k<b
section
variable {O : Nat -> Prop} {wB W W2 : World} {b : Nat} {Sk : List ByteArray} {Sv : List J} {vk vl jO iq : Value}
theorem MI.drew(h:MI O wB b Sk Sv vk vl W):MI O wB b Sk Sv vk vl W.drew:=⟨h.obj,h.res,h.keys,by
 obtain⟨xs,h1,h2⟩:=h.eG;exact⟨xs,h1,isRow.carry (w:=W) (w':=W.drew) (fun k hk=>⟨hk,rfl⟩) Sv xs h2⟩,h.ne,h.fA.drew,h.lt,h.low⟩
theorem MI.c3(h:MI O wB b Sk Sv vk vl W):W.cell? ⟨b+1,3,none⟩=some vk:=fC h.obj
theorem MI.c4(h:MI O wB b Sk Sv vk vl W):W.cell? ⟨b+1,4,none⟩=some vl:=bg h.obj
theorem MI.size(h:MI O wB b Sk Sv vk vl W):wB.heap.size<=W.heap.size:=h.fA.size
theorem bz{o:Obj}{row:Option Nat}{k:Nat}(hg:(W.alloc o).grownBy W2 row)(hk:k<W.heap.size)(hr:row≠some k):W2.heap[k]?=W.heap[k]?:=by
 rw[hg.block k (by simp;omega) (fun e=>hr e.symm),Below.heap_alloc W o k hk]
theorem MI.key(h:MI O wB b Sk Sv vk vl W){x:ByteArray}{o:Obj}(aL:W2.ownsRow wB.heap.size 9 1 jO (Sk.length+1) (Sk.map Value.string++ [.string x]))(hg:(W.alloc o).grownBy W2 vk.ownBlock)(iC:jO.ownBlock=vk.ownBlock\/ jO.ownBlock=some (W.alloc o).heap.size):
    W2.cell? ⟨b+1,3,none⟩=some vk/\W2.frozen? ⟨b+1,3,none⟩=false/\MI O wB b (Sk++ [x]) Sv jO vl (W2.setCell ⟨b+1,3,none⟩ jO):=by
 have fq:=h.size;have bH:=h.lt;have pR:=aJ h.keys;obtain⟨xs,bM,eH⟩:=h.eG;have oq:=aJ bM;have ob:W2.heap[b+1]?=some (.cells #[.int .i64 5,.int .i64 0,.string ⟨#[]⟩,vk,vl] 25 (0,0)):=by
  rw[bz hg (by omega) (fun e=>by have:=pR _ e;omega)];exact h.obj
 have rs:W2.heap[b]?=some (.cells #[.int .i64 0,.int .i64 0,.string ⟨#[]⟩,.slice none 0 0,.slice none 0 0] 25 (0,0)):=by
  rw[bz hg (by omega) (fun e=>by have:=pR _ e;omega)];exact h.res
 have K3:av (One (b+1)) W2 (W2.setCell ⟨b+1,3,none⟩ jO):=av.setCell (av.refl _ _) (fun _=>(rfl:b+1=b+1)) _;have OC:=aJ aL;refine⟨fC ob,fZ ob 3,⟨?_, ?_, ?_,⟨xs, ?_, ?_⟩, ?_, ?_,bH,h.low⟩⟩
 ·rw[heap_setCell_same _ (b+1) 3 _ _ _ ob];rfl
 ·rw[K3.block b (by have:=(Array.getElem?_eq_some_iff.1 rs).1;omega) (by unfold One;omega)];exact rs
 ·rw[List.length_append,List.map_append];exact aX aL K3 fun k e=>by have:=OC k e;unfold One;omega
 ·refine aX (aX (bM.alloc o) (S:=fun k=>vk.ownBlock=some k) (av.gp hg fun _ _ e=>e) fun k e e'=>h.ne k e' e) K3 fun k e=>by have:=oq k e;unfold One;omega
 ·refine eH.carry fun k hk=>⟨hk, ?_⟩;have:=h.low k hk;rw[K3.block k (by have:=hg.size;simp at this;omega) (by unfold One;omega),bz hg (by omega) (fun e=>by have:=pR _ e;omega)]
 ·intro i e e'
  rcases iC with h1| h1
  ·exact h.ne i (h1 ▸ e) e'
  ·rw[h1]at e;have h2:=(oq i e').2;have h3:(W.alloc o).heap.size=i:=Option.some.inj e;simp at h3;omega
 ·have k1:av (One (b+1)) wB (W.alloc o):=h.fA.alloc o;exact(k1.grown hg fun k e=>(pR k e).1).then K3
theorem MI.val(h:MI O wB b Sk Sv vk vl W){y:J}{cs xs:List Value}{o:Obj}(bM:W.ownsRow wB.heap.size 25 5 vl Sv.length xs)(eH:isRow O W Sv xs)(hy:isJ O W y cs)(aL:W2.ownsRow wB.heap.size 25 5 iq (Sv.length+1) (xs++cs))(hg:(W.alloc o).grownBy W2 vl.ownBlock)(iC:iq.ownBlock=vl.ownBlock\/ iq.ownBlock=some (W.alloc o).heap.size):
    W2.cell? ⟨b+1,4,none⟩=some vl/\W2.frozen? ⟨b+1,4,none⟩=false/\MI O wB b Sk (Sv++ [y]) vk iq (W2.setCell ⟨b+1,4,none⟩ iq):=by
 have fq:=h.size;have bH:=h.lt;have pR:=aJ h.keys;have oq:=aJ bM;have ob:W2.heap[b+1]?=some (.cells #[.int .i64 5,.int .i64 0,.string ⟨#[]⟩,vk,vl] 25 (0,0)):=by
  rw[bz hg (by omega) (fun e=>by have:=oq _ e;omega)];exact h.obj
 have rs:W2.heap[b]?=some (.cells #[.int .i64 0,.int .i64 0,.string ⟨#[]⟩,.slice none 0 0,.slice none 0 0] 25 (0,0)):=by
  rw[bz hg (by omega) (fun e=>by have:=oq _ e;omega)];exact h.res
 have K3:av (One (b+1)) W2 (W2.setCell ⟨b+1,4,none⟩ iq):=av.setCell (av.refl _ _) (fun _=>(rfl:b+1=b+1)) _;have LD:=aJ aL;have carry:∀k,O k->O k/\(W2.setCell ⟨b+1,4,none⟩ iq).heap[k]?=W.heap[k]?:=fun k hk=>by
  have:=h.low k hk;exact⟨hk,by rw[K3.block k (by have:=hg.size;simp at this;omega) (by unfold One;omega),bz hg (by omega) (fun e=>by have:=oq _ e;omega)]⟩
 refine⟨bg ob,fZ ob 4,⟨?_, ?_, ?_,⟨xs++cs, ?_, ?_⟩, ?_, ?_,bH,h.low⟩⟩
 ·rw[heap_setCell_same _ (b+1) 4 _ _ _ ob];rfl
 ·rw[K3.block b (by have:=(Array.getElem?_eq_some_iff.1 rs).1;omega) (by unfold One;omega)];exact rs
 ·exact aX (aX (h.keys.alloc o) (S:=fun k=>vl.ownBlock=some k) (av.gp hg fun _ _ e=>e) fun k e e'=>h.ne k e e') K3 fun k e=>by have:=pR k e;unfold One;omega
 ·rw[List.length_append];exact aX aL K3 fun k e=>by have:=LD k e;unfold One;omega
 ·exact isRow.snoc hy.zm (hy.carry carry) Sv xs (eH.carry carry)
 ·intro i e e'
  rcases iC with h1| h1
  ·exact h.ne i e (h1 ▸ e')
  ·rw[h1]at e';have h2:=(pR i e).2;have h3:(W.alloc o).heap.size=i:=Option.some.inj e';simp at h3;omega
 ·have k1:av (One (b+1)) wB (W.alloc o):=h.fA.alloc o;exact(k1.grown hg fun k e=>(oq k e).1).then K3
end
theorem RZ{O:Nat->Prop}{w wB wr W5:World}{q1 q2:Option Addr}{c1 c2:Nat}{ks:List ByteArray}{l:List J}(hO:∀k,O k->k<w.heap.size)(bX:Below w.heap.size w wB)(Kg:av (One (w.heap.size+1)) wB wr)(dR:av (One w.heap.size) wr W5)
    (qR:ig (fun k=>wB.heap.size<=k/\k<wr.heap.size) wr q1 c1 ks) (OD:isJs (fun k=>O k\/ (wB.heap.size<=k/\k<wr.heap.size)) wr q2 0 l) (hc:l.length<=c2) (fq:w.heap.size+2<=wB.heap.size):
    isJ (fun k=>O k\/ qx w W5 k) W5 (.mk 5 0 aN ks l) [.int .i64 5,.int .i64 0,.string aN,.slice q1 ks.length c1,.slice q2 l.length c2]/\Below w.heap.size w W5:=by
 have s1:=Kg.size;have s2:=dR.size;have carry:∀i,(O i\/ (wB.heap.size<=i/\i<wr.heap.size))->(O i\/ qx w W5 i)/\W5.heap[i]?=wr.heap[i]?:=by
  intro i hi
  rcases hi with hi| hi
  ·have:=hO i hi;exact⟨.inl hi,dR.block i (by omega) (by unfold One;omega)⟩
  ·exact⟨.inr ⟨by omega,by omega⟩,dR.block i (by omega) (by unfold One;omega)⟩
 refine⟨?_, ?_⟩
 ·unfold isJ;exact⟨q1,c1,q2,c2,rfl,qR.carry fun i hi=>carry i (.inr hi),hc,OD.carry carry⟩
 ·exact(bX.trans (Kg.below (by omega) fun k hk=>by unfold One;omega)).trans (dR.below (by omega) fun k hk=>by unfold One;omega)
theorem cell_one_new(w:World)(v:Value)(t:Nat):∀j u, [v][j]?=some u->(w.alloc (.cells #[v] t)).cell? ((⟨w.heap.size,0,none⟩:Addr).add j)=some u:=by
 intro j u hj
 match j,hj with
 | 0,hj=>simp at hj;subst hj;exact a_ (cur:= [_]) (heap_alloc_new _ _) 0 _ rfl
theorem lC(x:ByteArray):∀u∈ [Value.string x],u.oneCell'=true:=by
 intro u hu;simp at hu;subst hu;rfl
theorem dD(w:World)(t:Nat)(y0 y1 y2 y3 y4:Value):∀j u, [y0,y1,y2,y3,y4][j]?=some u->(w.alloc (.cells #[y0,y1,y2,y3,y4] t)).cell? ((⟨w.heap.size,0,none⟩:Addr).add j)=some u:=by
 intro j u hj;have e:(⟨w.heap.size,0,none⟩:Addr).add j=⟨w.heap.size,j,none⟩:=by unfold Addr.add;split<;>simp_all
 rw[e];exact a_ (cur:= [_,_,_,_,_]) (heap_alloc_new _ _) j u hj
theorem LF{O:Nat->Prop}{w:World}{ks:List ByteArray}{l:List J}{pk pl:Option Addr}{ck cl:Nat}(hk:ig O w pk ck ks)(hj:isJs O w pl 0 l)(su:ks.length=l.length)(hO:∀k,O k->k<w.heap.size)(hn:ks.length<=100000)(hd:ks.Pairwise (· ≠ ·)):
    Calls Tryz.prog 142 #[.slice pk ks.length ck,.slice pl l.length cl] w fun e w'=>∃cs,e=.returned (.agg cs)/\isJ (fun k=>O k\/ qx w w' k) w' (mapOf ks l) cs.toList/\Below w.heap.size w w':=by
 have Bu:Hid (ks.length=l.length):=su;clear su;have bS:Below w.heap.size w ((w.alloc (.cells #[.int .i64 0,.int .i64 0,.string ⟨#[]⟩,.slice none 0 0,.slice none 0 0] 25)).alloc (.cells #[.int .i64 5,.int .i64 0,.string ⟨#[]⟩,.slice none 0 0,.slice none 0 0] 25)):=((Below.refl _ _).alloc (Nat.le_refl _) _).alloc (by simp) _;have Q8:=hk.below hO bS;have VE:((w.alloc (.cells #[.int .i64 0,.int .i64 0,.string ⟨#[]⟩,.slice none 0 0,.slice none 0 0] 25)).alloc (.cells #[.int .i64 5,.int .i64 0,.string ⟨#[]⟩,.slice none 0 0,.slice none 0 0] 25)).heap.size=w.heap.size+2:=by simp
 have NP:((w.alloc (.cells #[.int .i64 0,.int .i64 0,.string ⟨#[]⟩,.slice none 0 0,.slice none 0 0] 25)).alloc (.cells #[.int .i64 5,.int .i64 0,.string ⟨#[]⟩,.slice none 0 0,.slice none 0 0] 25)).heap[w.heap.size+1]?=some (.cells #[.int .i64 5,.int .i64 0,.string ⟨#[]⟩,.slice none 0 0,.slice none 0 0] 25 (0,0)):=by
  have:=heap_alloc_new (w.alloc (.cells #[.int .i64 0,.int .i64 0,.string ⟨#[]⟩,.slice none 0 0,.slice none 0 0] 25)) (.cells #[.int .i64 5,.int .i64 0,.string ⟨#[]⟩,.slice none 0 0,.slice none 0 0] 25);rw[show(w.alloc (.cells #[.int .i64 0,.int .i64 0,.string ⟨#[]⟩,.slice none 0 0,.slice none 0 0] 25)).heap.size=w.heap.size+1 by simp]at this;exact this
 have iI:((w.alloc (.cells #[.int .i64 0,.int .i64 0,.string ⟨#[]⟩,.slice none 0 0,.slice none 0 0] 25)).alloc (.cells #[.int .i64 5,.int .i64 0,.string ⟨#[]⟩,.slice none 0 0,.slice none 0 0] 25)).heap[w.heap.size]?=some (.cells #[.int .i64 0,.int .i64 0,.string ⟨#[]⟩,.slice none 0 0,.slice none 0 0] 25 (0,0)):=by
  rw[Below.heap_alloc _ _ _ (by simp)];exact heap_alloc_new _ _
 go_enter Tryz.func142,Tryz.ntmps142;go_wp2_with(first
  | (go_at_call 165;refine(xK Q8 (fun k hk=>by have:=hO k hk;rw[VE];omega) (by omega)).mono ?_;rintro e wB ⟨g,L,rfl,hP,Uu,qg,BA⟩))
 rw[VE]at Uu BA;have OE:=BA.size;rw[VE]at OE;have dP:L.length=ks.length:=by rw[hP.1.length_eq];simp
 have bX:Below w.heap.size w wB:=bS.trans (BA.mono (by omega));have za4:MI O wB w.heap.size [] [] (.slice none 0 0) (.slice none 0 0) wB:=⟨(BA.block _ (by omega)).trans NP,(BA.block _ (by omega)).trans iI,World.ownsRow_nil _ _ _ _,⟨[],World.ownsRow_nil _ _ _ _,rfl⟩,(fun i h=>by cases h),av.refl _ _,by omega,hO⟩;clear NP iI Q8
 go_loopw [12] (fun i wr=>∃(k:Nat) (vk vl:Value),i=.int .i64 k/\k<=ks.length/\MI O wB w.heap.size ((zh ks l (L.take k)).map (·.1)) ((zh ks l (L.take k)).map (·.2)) vk vl wr) (fun i _=>ks.length - (intOf i).toNat)
 case atStart=>exact⟨0,_,_,rfl,Nat.zero_le _,za4⟩
 case round=>
  clear za4;obtain⟨k,vk,vl,rfl,sO,oH⟩:=hrel
  by_cases bH:k<ks.length
  ·obtain⟨a,ha⟩:∃a,L.getD k 0=a:=⟨_,rfl⟩;have vM:wr.cell? ⟨g,k,none⟩=some (.int .i64 (a:Int)):=by
    rw[oH.fA.cell (p:=⟨g,k,none⟩) qg (by unfold One;simp only;omega),hP.2.2 k (by omega),ha]
   have LG:a<ks.length:=by
    have hm:L.getD k 0∈L:=by rw[List.getD_eq_getElem?_getD,List.getElem?_eq_getElem (by omega)];exact List.getElem_mem _
    have:=hP.1.subset hm;rw[ha]at this;simpa using this
   have VF:Hid (zh ks l (L.take (k+1))=zh ks l (L.take k)++ [(aC ks a,mD l a)]):=by
    unfold zh;rw[List.take_add_one,List.getElem?_eq_getElem (by omega:k<L.length),List.map_append];rw[List.getD_eq_getElem?_getD,List.getElem?_eq_getElem (by omega:k<L.length)]at ha;simp only[Option.getD_some]at ha;rw[ha];rfl
   obtain⟨x,hx⟩:∃x,aC ks a=x:=⟨_,rfl⟩;obtain⟨y,hy⟩:∃y,mD l a=y:=⟨_,rfl⟩;rw[hx,hy]at VF;obtain⟨Uv,rfl,VG,Gz⟩:=hk.2 a LG;change w.cell? (Uv.add a)=some (.string (aC ks a))at Gz;rw[hx]at Gz;obtain⟨lb,lo,cs,rfl,VH,Lh,ja⟩:=isJs.at l 0 a hj (by rw[<-Bu.out];exact LG);change isJ O w (mD l a) cs at ja;rw[hy]at ja;rw[Nat.zero_add]at Lh;obtain⟨y0,y1,y2,y3,y4,rfl⟩:∃y0 y1 y2 y3 y4,cs= [y0,y1,y2,y3,y4]:=by
    match cs,ja.zm with
    | [y0,y1,y2,y3,y4],_=>exact⟨y0,y1,y2,y3,y4,rfl⟩
   have Kh:∀u∈ [y0,y1,y2,y3,y4],u.oneCell'=true:=jC ja;have VI:(zh ks l (L.take k)).length=k:=by unfold zh;simp;omega
   have za5:((zh ks l (L.take k)).map (·.1)).length=k:=by simp[VI]
   have za6:((zh ks l (L.take k)).map (·.2)).length=k:=by simp[VI]
   obtain⟨Sk,F5⟩:∃Sk,(zh ks l (L.take k)).map (·.1)=Sk:=⟨_,rfl⟩;obtain⟨Sv,zy⟩:∃Sv,(zh ks l (L.take k)).map (·.2)=Sv:=⟨_,rfl⟩;rw[F5]at za5 oH;rw[zy]at za6 oH;have HSk:Hid ((zh ks l (L.take (k+1))).map (·.1)=Sk++ [x]):=by rw[VF.out,List.map_append,F5];rfl
   have HSv:Hid ((zh ks l (L.take (k+1))).map (·.2)=Sv++ [y]):=by rw[VF.out,List.map_append,zy];rfl
   have GA:∀{CU:List ByteArray} {CV:List J} {jO iq:Value} {W:World},MI O wB w.heap.size CU CV jO iq W->∀i,O i->W.heap[i]?=w.heap[i]?:=by
    intro CU CV jO iq W h i hi;have:=hO i hi;rw[h.fA.block i (by omega) (by unfold One;omega),bX.block i this]
   have hcx:∀{CU:List ByteArray} {CV:List J} {jO iq:Value} (W:World),MI O wB w.heap.size CU CV jO iq W->W.cell? (Uv.add a)=some (.string x):=fun W h=>(World.cell?_of_block (by rw[bF];exact GA h _ VG)).trans Gz;have LH:∀i u, [y0,y1,y2,y3,y4][i]?=some u->w.cell? ⟨lb,lo+a*5+i,none⟩=some u:=Lh;have Uw:∀{CU:List ByteArray} {CV:List J} {jO iq:Value} (W:World),MI O wB w.heap.size CU CV jO iq W->W.cell? ⟨lb,lo+a*5,none⟩=some y0/\W.cell? ⟨lb,lo+a*5+1,none⟩=some y1/\W.cell? ⟨lb,lo+a*5+2,none⟩=some y2/\W.cell? ⟨lb,lo+a*5+3,none⟩=some y3/\W.cell? ⟨lb,lo+a*5+4,none⟩=some y4:=by
    intro CU CV jO iq W h;have hh:=GA h _ VH;exact⟨(World.cell?_of_block hh).trans (LH 0 _ rfl),(World.cell?_of_block hh).trans (LH 1 _ rfl),(World.cell?_of_block hh).trans (LH 2 _ rfl),(World.cell?_of_block hh).trans (LH 3 _ rfl),(World.cell?_of_block hh).trans (LH 4 _ rfl)⟩
   have hyJ:∀{CU:List ByteArray} {CV:List J} {jO iq:Value} (W:World),MI O wB w.heap.size CU CV jO iq W->isJ O W y [y0,y1,y2,y3,y4]:=fun W h=>ja.carry fun i hi=>⟨hi,GA h i hi⟩;have za7:∀{CU:List ByteArray} {CV:List J} {jO iq:Value} {W:World} {o:Obj} (W2:World),(W.alloc o).grownBy W2 jO.ownBlock->MI O wB w.heap.size CU CV jO iq W->W2.cell? (Uv.add a)=some (.string x):=by
    intro CU CV jO iq W o W2 hg h;have h1:=h.low _ VG;have h2:=h.size;have h3:=h.lt;have pR:=aJ h.keys;rw[World.cell?_of_block (w:=W) (by rw[bF];exact bz hg (by omega) (fun e=>by have:=pR _ e;omega))];exact hcx W h
   have za8:∀{CU:List ByteArray} {CV:List J} {jO iq:Value} (W:World),MI O wB w.heap.size CU CV jO iq W->(W.alloc (.cells #[y0,y1,y2,y3,y4] 25)).drew.cell? ⟨lb,lo+a*5,none⟩=some y0/\(W.alloc (.cells #[y0,y1,y2,y3,y4] 25)).drew.cell? ⟨lb,lo+a*5+1,none⟩=some y1/\(W.alloc (.cells #[y0,y1,y2,y3,y4] 25)).drew.cell? ⟨lb,lo+a*5+2,none⟩=some y2/\(W.alloc (.cells #[y0,y1,y2,y3,y4] 25)).drew.cell? ⟨lb,lo+a*5+3,none⟩=some y3/\(W.alloc (.cells #[y0,y1,y2,y3,y4] 25)).drew.cell? ⟨lb,lo+a*5+4,none⟩=some y4:=by
    intro CU CV jO iq W h;have h1:=h.low _ VH;have h2:=h.size;have h3:=h.lt;have hh:(W.alloc (.cells #[y0,y1,y2,y3,y4] 25)).drew.heap[lb]?=W.heap[lb]?:=Below.heap_alloc W _ _ (by omega);obtain⟨g0,g1,g2,g3,g4⟩:=Uw W h;exact⟨(World.cell?_of_block hh).trans g0,(World.cell?_of_block hh).trans g1,(World.cell?_of_block hh).trans g2,(World.cell?_of_block hh).trans g3,(World.cell?_of_block hh).trans g4⟩
   have R3:∀{CU:List ByteArray} {CV:List J} {jO iq:Value} {W:World} {o:Obj} (W2:World),(W.alloc o).grownBy W2 iq.ownBlock->MI O wB w.heap.size CU CV jO iq W->W2.cell? ⟨lb,lo+a*5,none⟩=some y0/\W2.cell? ⟨lb,lo+a*5+1,none⟩=some y1/\W2.cell? ⟨lb,lo+a*5+2,none⟩=some y2/\W2.cell? ⟨lb,lo+a*5+3,none⟩=some y3/\W2.cell? ⟨lb,lo+a*5+4,none⟩=some y4:=by
    intro CU CV jO iq W o W2 hg h;have h1:=h.low _ VH;have h2:=h.size;have h3:=h.lt;obtain⟨xs,bM,_⟩:=h.eG;have oq:=aJ bM;have hh:W2.heap[lb]?=W.heap[lb]?:=bz hg (by omega) (fun e=>by have:=oq _ e;omega);obtain⟨g0,g1,g2,g3,g4⟩:=Uw W h;exact⟨(World.cell?_of_block hh).trans g0,(World.cell?_of_block hh).trans g1,(World.cell?_of_block hh).trans g2,(World.cell?_of_block hh).trans g3,(World.cell?_of_block hh).trans g4⟩
   have zjC:(a:Int)<(ks.length:Int):=by omega
   have zjD:(a:Int)<(l.length:Int):=by have:=Bu.out;omega
   have zjE:Sk.length<=100000:=by omega
   have zjF:Sv.length<=100000:=by omega
   clear hx hy Gz Lh LH F5 zy VI hP hj hk ja ha za5 za6;go_wp2;have qh:=oH.drew;have f_:wr.drew.cell? (Uv.add a)=some (.string x):=hcx wr oH;have iO:(wr.alloc (.cells #[.string x] 9)).drew.cell? (Uv.add a)=some (.string x):=by
    have hh:=World.cell?_of_block (a:=Uv.add a) (Below.heap_alloc wr (.cells #[.string x] 9) (Uv.add a).block (by rw[bF];have:=oH.size;have:=oH.low _ VG;have:=oH.lt;omega));exact hh.trans (hcx wr oH)
   have d3:=qh.c3;have d3a:(wr.alloc (.cells #[.string x] 9)).drew.cell? ⟨w.heap.size+1,3,none⟩=some vk:=by
    have hh:=World.cell?_of_block (a:=⟨w.heap.size+1,3,none⟩) (Below.heap_alloc wr (.cells #[.string x] 9) (w.heap.size+1) (by have:=oH.size;have:=oH.lt;omega));exact hh.trans oH.c3
   refine aF (by kernel_rfl) (fun w'=>w'.cell? (Uv.add a)=some (.string x)) ?_;change wpIn _ _ _ _ _ _ _ _ (World.drew _);refine aa (i:=0) (d:=some 16) rfl ?_;refine aa (i:=2) (d:=some 18) rfl ?_;refine aa (i:=3) (d:=some 19) rfl ?_;refine aa (i:=4) (d:=some 20) rfl ?_;refine aa (i:=5) (d:=some 21) rfl ?_;refine bY (i:=1) (j:=6) f_ (by kernel_rfl) rfl rfl (by rfl) (by rfl) ?_ ?_
   ·intro K hK;go_simp;refine hK _ _ ?_;clear hK K;refine ak (i:=6) f_ rfl ?_;intro K hK;go_simp;refine hK _ _ ?_;clear hK K;refine ak (i:=7) iO rfl ?_;intro K hK;refine aR (.tmp 17) (.tmp 22) 22 rfl wB.heap.size 9 (.string ⟨#[]⟩) 1 16 Tryz.underlying22 Tryz.jd rfl (by decide) (by decide) _ Sk.length (Sk.map Value.string) rfl (qh.keys.alloc _) _ [.string x] rfl rfl (cell_one_new _ _ _) (lC x) (by omega) (by have:=oH.size;simp;omega) ?_;intro OG W2 eZ qg oQ;refine hK _ _ ?_;clear hK K;obtain⟨q2,c2,eH⟩:∃q c,OG=.slice q (Sk.length+1) c:=by
     rcases eZ.2 with⟨h',h0⟩| ⟨g',nM,cur,h',_⟩
     ·omega
     ·exact⟨_,_,h'⟩
    subst eH;have GD:(wr.drew.alloc (.cells #[.string x] 9)).grownBy W2 vk.ownBlock:=qg;have DF:(Value.slice q2 (Sk.length+1) c2).ownBlock=vk.ownBlock\/ (Value.slice q2 (Sk.length+1) c2).ownBlock=some (wr.drew.alloc (.cells #[.string x] 9)).heap.size:=oQ;obtain⟨e3,f3,kL⟩:=qh.key eZ GD DF;have kM:=za7 W2 GD qh;have iD:=hcx _ kL;clear eZ qg oQ GD DF d3 d3a iO f_;refine aa (i:=8) (d:=some 24) rfl ?_;refine ak (i:=9) kM rfl ?_;intro K hK;go_simp;refine hK _ _ ?_;clear hK K;refine aD iD (by kernel_rfl) ?_ _;clear kM iD e3 f3 qh oH;go_wp2;obtain⟨wk,R4⟩:∃wk,wk=W2.setCell ⟨w.heap.size+1,3,none⟩ (.slice q2 (Sk.length+1) c2):=⟨_,rfl⟩;rw[<-R4]at kL ⊢;clear R4;have qh:=kL.drew;obtain⟨xs,bM,eH⟩:=qh.eG;have f_:=Uw wk.drew qh;have iO:=za8 wk kL;have d4:=qh.c4;have d4a:(wk.alloc (.cells #[y0,y1,y2,y3,y4] 25)).drew.cell? ⟨w.heap.size+1,4,none⟩=some vl:=by
     have hh:=World.cell?_of_block (a:=⟨w.heap.size+1,4,none⟩) (Below.heap_alloc wk (.cells #[y0,y1,y2,y3,y4] 25) (w.heap.size+1) (by have:=kL.size;have:=kL.lt;omega));exact hh.trans kL.c4
    refine aF (by kernel_rfl) (fun w'=>w'.cell? ⟨lb,lo+a*5,none⟩=some y0/\w'.cell? ⟨lb,lo+a*5+1,none⟩=some y1/\w'.cell? ⟨lb,lo+a*5+2,none⟩=some y2/\w'.cell? ⟨lb,lo+a*5+3,none⟩=some y3/\w'.cell? ⟨lb,lo+a*5+4,none⟩=some y4) ?_;change wpIn _ _ _ _ _ _ _ _ (World.drew _);refine aa (i:=0) (d:=some 25) rfl ?_;refine aa (i:=2) (d:=some 27) rfl ?_;refine aa (i:=3) (d:=some 28) rfl ?_;refine aa (i:=4) (d:=some 29) rfl ?_;refine az (i:=5) (d:=some 30) rfl (by(intro wq hq;obtain⟨q0,q1,q2,q3,q4⟩:=hq;go_simp;first| done| with_reducible rfl)) ?_;refine bY (i:=1) (j:=6) f_ (by kernel_rfl) rfl rfl (by rfl) (by rfl) ?_ ?_
    ·intro K hK;go_simp;refine hK _ _ ?_;clear hK K;refine ak (i:=6) f_ rfl ?_;intro K hK;go_simp;refine hK _ _ ?_;clear hK K;refine ak (i:=7) iO rfl ?_;intro K hK;refine aR (.tmp 26) (.tmp 31) 23 rfl wB.heap.size 25 (.agg #[.int .i64 0,.int .i64 0,.string ⟨#[]⟩,.slice none 0 0,.slice none 0 0]) 5 80 Tryz.underlying23 Tryz.dY rfl (by decide) (by decide) _ Sv.length xs rfl (bM.alloc _) _ [y0,y1,y2,y3,y4] rfl rfl (dD _ _ _ _ _ _ _) Kh (by omega) (by have:=kL.size;simp;omega) ?_;intro oJ W4 bG nN gL;refine hK _ _ ?_;clear hK K;obtain⟨q4,c4,vN⟩:∃q c,oJ=.slice q (Sv.length+1) c:=by
      rcases bG.2 with⟨h',h0⟩| ⟨g',nM,cur,h',_⟩
      ·omega
      ·exact⟨_,_,h'⟩
     subst vN;have jS:(wk.drew.alloc (.cells #[y0,y1,y2,y3,y4] 25)).grownBy W4 vl.ownBlock:=nN;have iP:(Value.slice q4 (Sv.length+1) c4).ownBlock=vl.ownBlock\/ (Value.slice q4 (Sv.length+1) c4).ownBlock=some (wk.drew.alloc (.cells #[y0,y1,y2,y3,y4] 25)).heap.size:=gL;obtain⟨e4,f4,xN⟩:=qh.val bM eH (hyJ wk.drew qh) bG jS iP;have kM:=R3 W4 jS qh;have iD:=Uw _ xN;clear bG nN gL jS iP d4 d4a iO f_ bM eH;refine aa (i:=8) (d:=some 33) rfl ?_;refine ak (i:=9) kM rfl ?_;intro K hK;go_simp;refine hK _ _ ?_;clear hK K;refine aD iD (by kernel_rfl) ?_ _;clear kM iD e4 f4 qh kL;go_wp2;go_roundw
     case rel=>exact⟨k+1,_,_,by go_num,by omega,by rw[HSk.out,HSv.out];exact xN⟩
     case measure=>simp[intOf];omega
    ·intro K hK;go_simp;refine hK _ _ ?_;clear hK K;refine ak (i:=1) iO rfl ?_;intro K hK;go_simp;refine hK _ _ ?_;clear hK K;refine ak (i:=7) iO rfl ?_;intro K hK;refine aR (.tmp 26) (.tmp 31) 23 rfl wB.heap.size 25 (.agg #[.int .i64 0,.int .i64 0,.string ⟨#[]⟩,.slice none 0 0,.slice none 0 0]) 5 80 Tryz.underlying23 Tryz.dY rfl (by decide) (by decide) _ Sv.length xs rfl (bM.alloc _) _ [y0,y1,y2,y3,y4] rfl rfl (dD _ _ _ _ _ _ _) Kh (by omega) (by have:=kL.size;simp;omega) ?_;intro oJ W4 bG nN gL;refine hK _ _ ?_;clear hK K;obtain⟨q4,c4,vN⟩:∃q c,oJ=.slice q (Sv.length+1) c:=by
      rcases bG.2 with⟨h',h0⟩| ⟨g',nM,cur,h',_⟩
      ·omega
      ·exact⟨_,_,h'⟩
     subst vN;have jS:(wk.drew.alloc (.cells #[y0,y1,y2,y3,y4] 25)).grownBy W4 vl.ownBlock:=nN;have iP:(Value.slice q4 (Sv.length+1) c4).ownBlock=vl.ownBlock\/ (Value.slice q4 (Sv.length+1) c4).ownBlock=some (wk.drew.alloc (.cells #[y0,y1,y2,y3,y4] 25)).heap.size:=gL;obtain⟨e4,f4,xN⟩:=qh.val bM eH (hyJ wk.drew qh) bG jS iP;have kM:=R3 W4 jS qh;have iD:=Uw _ xN;clear bG nN gL jS iP d4 d4a iO f_ bM eH;refine aa (i:=8) (d:=some 33) rfl ?_;refine ak (i:=9) kM rfl ?_;intro K hK;go_simp;refine hK _ _ ?_;clear hK K;refine aD iD (by kernel_rfl) ?_ _;clear kM iD e4 f4 qh kL;go_wp2;go_roundw
     case rel=>exact⟨k+1,_,_,by go_num,by omega,by rw[HSk.out,HSv.out];exact xN⟩
     case measure=>simp[intOf];omega
   ·intro K hK;go_simp;refine hK _ _ ?_;clear hK K;refine ak (i:=1) iO rfl ?_;intro K hK;go_simp;refine hK _ _ ?_;clear hK K;refine ak (i:=7) iO rfl ?_;intro K hK;refine aR (.tmp 17) (.tmp 22) 22 rfl wB.heap.size 9 (.string ⟨#[]⟩) 1 16 Tryz.underlying22 Tryz.jd rfl (by decide) (by decide) _ Sk.length (Sk.map Value.string) rfl (qh.keys.alloc _) _ [.string x] rfl rfl (cell_one_new _ _ _) (lC x) (by omega) (by have:=oH.size;simp;omega) ?_;intro OG W2 eZ qg oQ;refine hK _ _ ?_;clear hK K;obtain⟨q2,c2,eH⟩:∃q c,OG=.slice q (Sk.length+1) c:=by
     rcases eZ.2 with⟨h',h0⟩| ⟨g',nM,cur,h',_⟩
     ·omega
     ·exact⟨_,_,h'⟩
    subst eH;have GD:(wr.drew.alloc (.cells #[.string x] 9)).grownBy W2 vk.ownBlock:=qg;have DF:(Value.slice q2 (Sk.length+1) c2).ownBlock=vk.ownBlock\/ (Value.slice q2 (Sk.length+1) c2).ownBlock=some (wr.drew.alloc (.cells #[.string x] 9)).heap.size:=oQ;obtain⟨e3,f3,kL⟩:=qh.key eZ GD DF;have kM:=za7 W2 GD qh;have iD:=hcx _ kL;clear eZ qg oQ GD DF d3 d3a iO f_;refine aa (i:=8) (d:=some 24) rfl ?_;refine ak (i:=9) kM rfl ?_;intro K hK;go_simp;refine hK _ _ ?_;clear hK K;refine aD iD (by kernel_rfl) ?_ _;clear kM iD e3 f3 qh oH;go_wp2;obtain⟨wk,R4⟩:∃wk,wk=W2.setCell ⟨w.heap.size+1,3,none⟩ (.slice q2 (Sk.length+1) c2):=⟨_,rfl⟩;rw[<-R4]at kL ⊢;clear R4;have qh:=kL.drew;obtain⟨xs,bM,eH⟩:=qh.eG;have f_:=Uw wk.drew qh;have iO:=za8 wk kL;have d4:=qh.c4;have d4a:(wk.alloc (.cells #[y0,y1,y2,y3,y4] 25)).drew.cell? ⟨w.heap.size+1,4,none⟩=some vl:=by
     have hh:=World.cell?_of_block (a:=⟨w.heap.size+1,4,none⟩) (Below.heap_alloc wk (.cells #[y0,y1,y2,y3,y4] 25) (w.heap.size+1) (by have:=kL.size;have:=kL.lt;omega));exact hh.trans kL.c4
    refine aF (by kernel_rfl) (fun w'=>w'.cell? ⟨lb,lo+a*5,none⟩=some y0/\w'.cell? ⟨lb,lo+a*5+1,none⟩=some y1/\w'.cell? ⟨lb,lo+a*5+2,none⟩=some y2/\w'.cell? ⟨lb,lo+a*5+3,none⟩=some y3/\w'.cell? ⟨lb,lo+a*5+4,none⟩=some y4) ?_;change wpIn _ _ _ _ _ _ _ _ (World.drew _);refine aa (i:=0) (d:=some 25) rfl ?_;refine aa (i:=2) (d:=some 27) rfl ?_;refine aa (i:=3) (d:=some 28) rfl ?_;refine aa (i:=4) (d:=some 29) rfl ?_;refine az (i:=5) (d:=some 30) rfl (by(intro wq hq;obtain⟨q0,q1,q2,q3,q4⟩:=hq;go_simp;first| done| with_reducible rfl)) ?_;refine bY (i:=1) (j:=6) f_ (by kernel_rfl) rfl rfl (by rfl) (by rfl) ?_ ?_
    ·intro K hK;go_simp;refine hK _ _ ?_;clear hK K;refine ak (i:=6) f_ rfl ?_;intro K hK;go_simp;refine hK _ _ ?_;clear hK K;refine ak (i:=7) iO rfl ?_;intro K hK;refine aR (.tmp 26) (.tmp 31) 23 rfl wB.heap.size 25 (.agg #[.int .i64 0,.int .i64 0,.string ⟨#[]⟩,.slice none 0 0,.slice none 0 0]) 5 80 Tryz.underlying23 Tryz.dY rfl (by decide) (by decide) _ Sv.length xs rfl (bM.alloc _) _ [y0,y1,y2,y3,y4] rfl rfl (dD _ _ _ _ _ _ _) Kh (by omega) (by have:=kL.size;simp;omega) ?_;intro oJ W4 bG nN gL;refine hK _ _ ?_;clear hK K;obtain⟨q4,c4,vN⟩:∃q c,oJ=.slice q (Sv.length+1) c:=by
      rcases bG.2 with⟨h',h0⟩| ⟨g',nM,cur,h',_⟩
      ·omega
      ·exact⟨_,_,h'⟩
     subst vN;have jS:(wk.drew.alloc (.cells #[y0,y1,y2,y3,y4] 25)).grownBy W4 vl.ownBlock:=nN;have iP:(Value.slice q4 (Sv.length+1) c4).ownBlock=vl.ownBlock\/ (Value.slice q4 (Sv.length+1) c4).ownBlock=some (wk.drew.alloc (.cells #[y0,y1,y2,y3,y4] 25)).heap.size:=gL;obtain⟨e4,f4,xN⟩:=qh.val bM eH (hyJ wk.drew qh) bG jS iP;have kM:=R3 W4 jS qh;have iD:=Uw _ xN;clear bG nN gL jS iP d4 d4a iO f_ bM eH;refine aa (i:=8) (d:=some 33) rfl ?_;refine ak (i:=9) kM rfl ?_;intro K hK;go_simp;refine hK _ _ ?_;clear hK K;refine aD iD (by kernel_rfl) ?_ _;clear kM iD e4 f4 qh kL;go_wp2;go_roundw
     case rel=>exact⟨k+1,_,_,by go_num,by omega,by rw[HSk.out,HSv.out];exact xN⟩
     case measure=>simp[intOf];omega
    ·intro K hK;go_simp;refine hK _ _ ?_;clear hK K;refine ak (i:=1) iO rfl ?_;intro K hK;go_simp;refine hK _ _ ?_;clear hK K;refine ak (i:=7) iO rfl ?_;intro K hK;refine aR (.tmp 26) (.tmp 31) 23 rfl wB.heap.size 25 (.agg #[.int .i64 0,.int .i64 0,.string ⟨#[]⟩,.slice none 0 0,.slice none 0 0]) 5 80 Tryz.underlying23 Tryz.dY rfl (by decide) (by decide) _ Sv.length xs rfl (bM.alloc _) _ [y0,y1,y2,y3,y4] rfl rfl (dD _ _ _ _ _ _ _) Kh (by omega) (by have:=kL.size;simp;omega) ?_;intro oJ W4 bG nN gL;refine hK _ _ ?_;clear hK K;obtain⟨q4,c4,vN⟩:∃q c,oJ=.slice q (Sv.length+1) c:=by
      rcases bG.2 with⟨h',h0⟩| ⟨g',nM,cur,h',_⟩
      ·omega
      ·exact⟨_,_,h'⟩
     subst vN;have jS:(wk.drew.alloc (.cells #[y0,y1,y2,y3,y4] 25)).grownBy W4 vl.ownBlock:=nN;have iP:(Value.slice q4 (Sv.length+1) c4).ownBlock=vl.ownBlock\/ (Value.slice q4 (Sv.length+1) c4).ownBlock=some (wk.drew.alloc (.cells #[y0,y1,y2,y3,y4] 25)).heap.size:=gL;obtain⟨e4,f4,xN⟩:=qh.val bM eH (hyJ wk.drew qh) bG jS iP;have kM:=R3 W4 jS qh;have iD:=Uw _ xN;clear bG nN gL jS iP d4 d4a iO f_ bM eH;refine aa (i:=8) (d:=some 33) rfl ?_;refine ak (i:=9) kM rfl ?_;intro K hK;go_simp;refine hK _ _ ?_;clear hK K;refine aD iD (by kernel_rfl) ?_ _;clear kM iD e4 f4 qh kL;go_wp2;go_roundw
     case rel=>exact⟨k+1,_,_,by go_num,by omega,by rw[HSk.out,HSv.out];exact xN⟩
     case measure=>simp[intOf];omega
  ·obtain rfl:k=ks.length:=by omega
   have F6:L.take ks.length=L:=List.take_of_length_le (by omega);rw[F6,DD hP hd Bu.out]at oH;obtain⟨xs,bM,eH⟩:=oH.eG;have fG:((eT (ks.zip l)).map (·.1)).length=ks.length:=by rw[List.length_map,nC];simp;have:=Bu.out;omega
   have vO:((eT (ks.zip l)).map (·.2)).length=ks.length:=by rw[List.length_map,nC];simp;have:=Bu.out;omega
   obtain⟨q1,c1,uw,qR⟩:=pQ oH.keys;obtain⟨q2,c2,zdT,mE,OD⟩:=qQ bM eH;subst uw zdT;obtain⟨j0,j1,j2,j3,j4⟩:=aM oH.obj;obtain⟨i0,i1,i2,i3,i4⟩:=aM oH.res;obtain⟨z0,z1,z2,z3,z4⟩:=fD oH.res;have h5:=dG oH.res (.int .i64 5) (.int .i64 0) (.string ⟨#[]⟩) (.slice q1 ((eT (ks.zip l)).map (·.1)).length c1) (.slice q2 ((eT (ks.zip l)).map (·.2)).length c2);have dR:av (One w.heap.size) wr _:=dH wr w.heap.size (.int .i64 5) (.int .i64 0) (.string ⟨#[]⟩) (.slice q1 ((eT (ks.zip l)).map (·.1)).length c1) (.slice q2 ((eT (ks.zip l)).map (·.2)).length c2);have fq:=oH.size;have Kg:=oH.fA;unfold kK at h5 dR;have VJ:Hid (ig (fun k=>wB.heap.size<=k/\k<wr.heap.size) wr q1 c1 ((eT (ks.zip l)).map (·.1))):=qR;have Q9:Hid (isJs (fun k=>O k\/ (wB.heap.size<=k/\k<wr.heap.size)) wr q2 0 ((eT (ks.zip l)).map (·.2))):=OD;obtain⟨k0,k1,k2,k3,k4⟩:=aM h5;obtain⟨n1,Ki⟩:∃n1,((eT (ks.zip l)).map (·.1)).length=n1:=⟨_,rfl⟩;obtain⟨n2,F7⟩:∃n2,((eT (ks.zip l)).map (·.2)).length=n2:=⟨_,rfl⟩;rw[Ki,F7]at h5 dR k3 k4;rw[Ki]at j3 k0 k1 k2;rw[F7]at j4 k0 k1 k2;clear qR OD bM eH oH hP fG vO hk hj;go_wp2;refine bodyPost_ret (v:=.agg #[.int .i64 5,.int .i64 0,.string ⟨#[]⟩,.slice q1 n1 c1,.slice q2 n2 c2]) (by simp[results,Tryz.results142,go_sem,k0,k1,k2,k3,k4]) rfl ?_;obtain⟨r1,r2⟩:=RZ hO bX Kg dR VJ.out Q9.out mE (by omega);rw[Ki,F7]at r1;exact⟨_,rfl,r1,r2⟩
open Go.RowKit Go.Maps
def OH(s:ByteArray):Lit:=.string s.data.toList
def VK(s:ByteArray):Prop:=s.size<=maxLen
theorem R5{s t:ByteArray}(h:OH s=OH t):s=t:=by
 unfold OH at h
 cases s;cases t
 simp only[Lit.string.injEq]at h;rw[Array.toList_inj.1 h]
theorem zdU{s:ByteArray}(h:VK s):keyOf Tryz.prog 9 (.string s)=some (OH s):=WideMaps.keyOf_string_mk Tryz.underlying9 h
theorem za9:Keyed Tryz.prog 9:=string_keyed Tryz.underlying9
def xO(ks:List ByteArray)(s:ByteArray):Bool:=ks.any (fun k=>decide (k.data=s.data))
theorem LJ(ks:List ByteArray)(k s:ByteArray):xO (ks++ [k]) s=(xO ks s || decide (k.data=s.data)):=by
 unfold xO;rw[List.any_append];simp
open Go.RowKit
section
variable {B R b : Nat} {WA W W2 : World} {C9 : List J} {vl iq : Value}
end
theorem GG{w:World}{bT:Array Oper}{rest:List Oper}{o:Oper}{a:Act}{Q:Exit->Act->World->Prop}(rU:o.guard=none)(s x:Operand)(t:TypeId)
    (ho:o.op=.call {callee:=.builtin .append,args:=#[s,x],argTypes:=#[t,t]})
    (dM:Nat) (e:TypeId) (z:Value) (size bytes:Nat) (ht:Tryz.prog.underlying t=some (.slice e)) (sD:(Tryz.prog.info? e).map (fun i=>(i.zero,i.size,i.bytes))=some (some z,size,bytes))
    (VD:z.cells.size=size) (fq:0<size) (CR:bytes<=100)
    (v:Value) (n:Nat) (xs:List Value) (hs:a.eval s=v) (aL:w.ownsRow dM e size v n xs)
    (ad:Addr) (news:List Value) (hx:a.eval x=.slice (some ad) 1 1) (hl:news.length=size) (om:∀j u,news[j]?=some u->w.cell? (ad.add j)=some u) (h1:∀u∈news,u.oneCell'=true)
    (hn:n<=1000000) (jW:dM<=w.heap.size)
    (h:∀v' w',w'.ownsRow dM e size v' (n+1) (xs++news)->w.grownBy w' v.ownBlock->(v'.ownBlock=v.ownBlock\/ v'.ownBlock=some w.heap.size)->wpList Tryz.prog bT Q rest (a.put o.dst v') w'):wpList Tryz.prog bT Q (o::rest) a w:=
 wpList_plain rU fun _ hK=>aR s x t ho dM e z size bytes ht sD VD fq CR v n xs hs aL ad news hx hl om h1 hn jW fun v' w' h2 h3 h4=>hK _ _ (h v' w' h2 h3 h4)
theorem uy(b:Bool)(j:J)(r:List J):zn b (j::r)=(if b then []else [44])++(kH j++zn false r):=by rw[zn]
theorem uz(b:Bool)(ks:List ByteArray)(j:J)(r:List J):zo b ks (j::r)=(if b then []else [44])++(quote (ints (ks.headD aN))++(58::(kH j++zo false ks.tail r))):=by rw[zo]
theorem OJ{t:ByteArray}(h:t.size=0):t=aN:=by
 cases t with
 | mk a=>
  have:a=#[]:=Array.eq_empty_of_size_eq_zero h;rw[this];rfl
open Go.RowKit
abbrev zJ:Obj:=.cells #[.int .i64 0,.int .i64 0,.string ⟨#[]⟩,.slice none 0 0,.slice none 0 0] 25
theorem pU{w:World}{B e size n:Nat}{v:Value}{xs:List Value}(h:w.ownsRow B e size v n xs):∃q n c,v=.slice q n c:=by
 rcases h.2 with⟨h',h0⟩| ⟨g',nM,cur,h',_⟩
 ·exact⟨_,_,_,h'⟩
 ·exact⟨_,_,_,h'⟩
theorem LK{W:World}{n:Nat}(h:W.heap.size=n){t:TypeId}{y0 y1 y2 y3 y4:Value}:∀j u, [y0,y1,y2,y3,y4][j]?=some u->(W.alloc (.cells #[y0,y1,y2,y3,y4] t)).cell? ((⟨n,0,none⟩:Addr).add j)=some u:=by
 subst h;exact dD _ _ _ _ _ _ _
theorem zdV{k i:Int}{t:ByteArray}{pk pl:Option Addr}{nk ck nl cl:Nat}:∀u∈ [Value.int .i64 k,.int .i64 i,.string t,.slice pk nk ck,.slice pl nl cl],u.oneCell'=true:=by
 intro u hu;simp only[List.mem_cons,List.not_mem_nil,or_false]at hu
 rcases hu with rfl| rfl| rfl| rfl| rfl<;>rfl
end Go.Proofs.YtldegjjaknelgaaGreatDoor

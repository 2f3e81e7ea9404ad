/- A part. -/
import Derived.Test.YtegcgbjjpgjnmaaGreatDoorE07
import Derived.Deep.QuietTactic
import Derived.Maps.AppendAt
set_option maxRecDepth 100000
set_option maxHeartbeats 16000000
namespace Go.Proofs.YtegcgbjjpgjnmaaGreatDoor
open Go.RowKit Go.Lib Go.Sort
theorem GJ:∀x y:List UInt8,decide (Lib.compareBytes x y<0)=lessB x y
 | [], []=>rfl
 | [],_::_=>rfl
 | _::_, []=>rfl
 | a::x,b::y=>by
  unfold Lib.compareBytes lessB
  by_cases h1:a<b
  ·simp[h1]
  ·by_cases h2:b<a
   ·have h3:¬a=b:=fun h=>by subst h;exact h1 h2
    simp[h1,h2,h3]
   ·have h3:a=b:=Classical.byContradiction fun h=>(UInt8.lt_or_lt_of_ne h).elim h1 h2;rw[if_neg h1,if_neg h2,GJ x y];simp[h3]
def aN(ks:List ByteArray)(i:Nat):ByteArray:=ks.getD i aH
theorem KH{O:Nat->Prop}{ks:List ByteArray}{p:Option Addr}{c Bx:Nat}{W:World}(l_:jT O W p c ks)(vO:W.cell? ⟨Bx,0,none⟩=some (.slice p ks.length c))(a b:Nat)(ha:a<ks.length)(hb:b<ks.length):
    Calls Tryz.prog 156 #[.int .i64 a,.int .i64 b,.pointer (some ⟨Bx,0,none⟩)] W fun e w'=>e=.returned (.int .i64 (Lib.compareBytes (aN ks a).data.toList (aN ks b).data.toList))/\∃q,w'=W.drewN q:=by
 obtain⟨ad,rfl,_,yw⟩:=l_.2 a ha;obtain⟨ad',he,_,BV⟩:=l_.2 b hb
 cases he
 change W.cell? (ad.add a)=some (.string (aN ks a))at yw;change W.cell? (ad.add b)=some (.string (aN ks b))at BV;have VE:=fun wx:World=>Tryz.strings_Compare (aN ks a) (aN ks b) wx;generalize Lib.compareBytes (aN ks a).data.toList (aN ks b).data.toList=r at VE ⊢;generalize aN ks a=x at*;generalize aN ks b=y at*;go_enter Tryz.func156,Tryz.ntmps156;go_wp2;go_quiet (first| (go_at_call 157;exact Calls.quiet_of_same (VE _)));go_wp2;go_ret;exact⟨rfl,nq,rfl⟩
theorem Dt{α:Type} [Inhabited α](enc:α->Value)(w:World)(g m:Nat)(d:Array α)(os:Array Obj):aj (fun k=>k=g) w (sortWorld enc w g 0 m d os):=by
 refine⟨rfl,rfl,rfl, ?_,fun k hk hn=> ?_⟩
 ·unfold sortWorld grow putRow mapBlock Sort.ahead;simp
 ·unfold sortWorld;rw[heap_grow_old _ _ (by unfold putRow mapBlock Sort.ahead;simpa using hk)];unfold putRow mapBlock Sort.ahead;simp only[Array.getElem?_modify];rw[if_neg (fun h=>hn h.symm)]
def yx(m:Nat)(x:Fin (m+1)):Value:=.int .i64 (x.val:Int)
def cfK(ks:List ByteArray)(m:Nat)(x y:Fin (m+1)):Int:=Lib.compareBytes (aN ks x.val).data.toList (aN ks y.val).data.toList
theorem EO(ks:List ByteArray)(m:Nat)(x y:Fin (m+1)):ltOf (cfK ks m) x y=pE (aN ks x.val) (aN ks y.val):=GJ _ _
theorem KI{a b c:ByteArray}(h:pE a b=false)(h':pE b c=false):pE a c=false:=by
 cases hac:pE a c with
 | false=>rfl
 | true=>
  by_cases Cs:a=b
  ·subst Cs;rw[h']at hac;cases hac
  ·rcases pU Cs with h1| h1
   ·rw[h1]at h;cases h
   ·have:=nN h1 hac;rw[h']at this;cases this
theorem zcY(ks:List ByteArray)(m:Nat):SWO (ltOf (cfK ks m)) where
 irrefl x:=by rw[EO];exact nX _
 trans x y z h1 h2:=by rw[EO]at*;exact nN h1 h2
 ntrans x y z h1 h2:=by rw[EO]at*;exact KI h1 h2
def kL(w:World)(g:Nat)(L:List Nat)(ks:List ByteArray):Prop:=
 L.Perm (List.range ks.length)/\(∀i j,i<j->j<L.length->pE (aN ks (L.getD j 0)) (aN ks (L.getD i 0))=false)/\∀j,j<L.length->w.cell? ⟨g,j,none⟩=some (.int .i64 ((L.getD j 0:Nat):Int))
def uP(k n:Nat):Array Value:=((List.range n).map fun i=>Value.int .i64 ((if i<k then i else 0:Nat):Int)).toArray
theorem sH(k n i:Nat)(h:i<n):(uP k n)[i]?=some (.int .i64 ((if i<k then i else 0:Nat):Int)):=by
 unfold uP;simp[h]
theorem Pg(k n:Nat)(h:k<n):(uP k n).setIfInBounds k (.int .i64 (k:Int))=uP (k+1) n:=by
 apply Array.ext_getElem?
 intro i;rw[Array.getElem?_setIfInBounds]
 by_cases hi:k=i
 ·subst hi;rw[if_pos rfl,if_pos (by unfold uP;simpa using h),sH _ _ _ h,if_pos (by omega)]
 ·rw[if_neg hi]
  by_cases hn:i<n
  ·rw[sH _ _ _ hn,sH _ _ _ hn]
   by_cases h1:i<k
   ·rw[if_pos h1,if_pos (by omega)]
   ·rw[if_neg h1,if_neg (by omega)]
  ·unfold uP;rw[List.getElem?_toArray,List.getElem?_toArray,List.getElem?_eq_none (by simp;omega),List.getElem?_eq_none (by simp;omega)]
def uB(m:Nat):Array (Fin (m+1)):=(List.finRange (m+1)).toArray
theorem p_(m:Nat):(uB m).size=m+1:=by unfold uB;simp
theorem VF(m j:Nat)(h:j<m+1):(uB m)[j]! =⟨j,h⟩:=by
 unfold uB;rw[getElem!_pos _ j (by simpa using h)];simp
theorem Tryz.Nv:(Tryz.prog.info? 3).map (fun i=>(i.zero,i.size,i.bytes))=some (some (.int .i64 0),1,8):=by kernel_rfl
theorem Ph{m:Nat}{ks:List ByteArray}(hm:ks.length=m+1){d':Array (Fin (m+1))}(hp:PermIn 0 (uB m).size (uB m) d')(hs:SortedIn (ltOf (cfK ks m)) 0 (uB m).size d'){w:World}{g:Nat}(hH:Holds (yx m) w g 0 d'):
    kL w g (d'.toList.map (·.val)) ks:=by
 obtain⟨h1,_,h3⟩:=hp;have fI:d'.size=m+1:=by rw[h1,p_]
 have e1:(d'.extract 0 (uB m).size).toList=d'.toList:=by rw[<-h1,Array.extract_size]
 have e2:((uB m).extract 0 (uB m).size).toList=List.finRange (m+1):=by rw[Array.extract_size];unfold uB;simp
 rw[e1,e2]at h3;have EP:∀j,j<m+1->(d'.toList.map (·.val)).getD j 0=d'[j]!.val:=by
  intro j hj;rw[List.getD_eq_getElem?_getD,List.getElem?_map,List.getElem?_eq_getElem (by simpa [fI]using hj),getElem!_pos d' j (by omega)];simp
 refine⟨?_,fun i j hij hj=> ?_,fun j hj=> ?_⟩
 ·have:=h3.map (fun x:Fin (m+1)=>x.val);have e3:(List.finRange (m+1)).map (fun x:Fin (m+1)=>x.val)=List.range (m+1):=by
   apply List.ext_getElem
   ·simp
   ·intro n h1 h2;simp
  rw[e3]at this;rw[hm];exact this
 ·have zQ:j<m+1:=by simpa [fI]using hj
  rw[EP j zQ,EP i (by omega)];have:=hs i j (Nat.zero_le _) hij (by rw[p_];exact zQ);rw[EO]at this;exact this
 ·have zQ:j<m+1:=by simpa [fI]using hj
  have:=(hH j (by omega)).1;rw[Nat.zero_add]at this;rw[this,EP j zQ]
  rfl
theorem zo{w:World}{B e g n:Nat}{xs:List Value}(h:w.ownsRow B e 1 (.slice (some ⟨g,0,none⟩) n n) n xs):w.heap[g]?=some (.cells xs.toArray e (0,0)):=by
 rcases h.2 with⟨h',_⟩| ⟨g',cap,cur,he,hg,xn,h1,h2,h3,h4⟩
 ·cases h'
 ·cases he
  rw[xn];have e:xs=cur.toList:=by rw[<-h4,List.take_of_length_le (by simp;omega)]
  rw[e]
theorem KJ(n:Nat):(madeCells #[Value.int .i64 0] n).toList.toArray=uP 0 n:=by
 rw[toList_madeCells_one];unfold uP
 congr 1
 apply List.ext_getElem
 ·simp
 ·intro i h1 h2;simp
theorem zcZ:∀args w,(callFunc 156 args).run Tryz.prog w=.ok (.enter 156 args) w:=enters_of Tryz.func156 (by kernel_rfl) rfl
theorem GK{O:Nat->Prop}{ks:List ByteArray}{p:Option Addr}{c m:Nat}{w:World}(l_:jT O w p c ks)(hO:∀k,O k->k<w.heap.size)(hm:ks.length=m+1)(hl:ks.length<=1000000):
    Calls Tryz.prog 131 #[.slice p ks.length c] w fun e w'=>∃g L,e=.returned (.slice (some ⟨g,0,none⟩) ks.length ks.length)/\kL w' g L ks/\w.heap.size<=g/\g<w'.heap.size/\Below w.heap.size w w':=by
 obtain⟨i0,hi,vZ,yo,zq⟩:=info_parts Tryz.Nv;have HM:Hid (ks.length=m+1):=hm;clear hm;have vO:(w.alloc (.cells #[.slice p ks.length c] 22)).cell? ⟨w.heap.size,0,none⟩=some (.slice p ks.length c):=aR (cur:= [_]) (heap_alloc_new _ _) 0 _ rfl;have qO:Below w.heap.size w (w.alloc (.cells #[.slice p ks.length c] 22)):=(Below.refl _ _).alloc (Nat.le_refl _) _;go_enter Tryz.func131,Tryz.ntmps131;go_wp2_with(first
  | (at_make;refine wpList_make_full _ rfl _ _ 128 rfl (w.heap.size+1) 3 i0 (.int .i64 0) 1 Tryz.underlying128 hi vZ yo _ _ _ _ ks.length rfl rfl rfl rfl ?b2 ?b3 ?b4 ?_))
 case b2=>rw[zq];omega
 case b3=>unfold maxLen;omega
 case b4=>simp
 intro w1 aT rF;have RV:(w.alloc (.cells #[.slice p ks.length c] 22)).heap.size=w.heap.size+1:=by simp
 have mK:=zo aT;rw[KJ]at mK;have bI:RowKit.Below (w.heap.size+1) (w.alloc (.cells #[.slice p ks.length c] 22)) w1:=(RowKit.Below.refl _ _).grown rF (by rw[RV];exact Nat.le_refl _) (by simp);clear aT rF;go_wp2
 go_loopw [10] (fun i wr=>∃k:Nat,i=.int .i64 k/\k<=ks.length/\wr.heap[w.heap.size+1]?=some (.cells (uP k ks.length) 3 (0,0))/\RowKit.Below (w.heap.size+1) (w.alloc (.cells #[.slice p ks.length c] 22)) wr) (fun i _=>ks.length - (intOf i).toNat)
 case atStart=>exact⟨0,rfl,Nat.zero_le _,mK,bI⟩
 case round=>
  clear mK bI;obtain⟨k,rfl,hk,mK,hb⟩:=hrel
  by_cases bJ:k<ks.length
  ·have gV:wr.cell? ⟨w.heap.size+1,k,none⟩=some (.int .i64 ((if k<k then k else 0:Nat):Int)):=by
     simp only[World.cell?,mK];exact sH k ks.length k bJ
   have hfz:wr.frozen? ⟨w.heap.size+1,k,none⟩=false:=frozen_of_row wr _ k _ _ mK;have RB:Hid ((wr.setCell ⟨w.heap.size+1,k,none⟩ (.int .i64 (k:Int))).heap[w.heap.size+1]?=some (.cells (uP (k+1) ks.length) 3 (0,0))):=by
    rw[heap_setCell_same wr _ k _ _ _ mK,Pg k _ bJ];rfl
   have HB:=hb.setCell (p:=⟨w.heap.size+1,k,none⟩) (Nat.le_refl _) (.int .i64 (k:Int));go_wp2;go_roundw
   case rel=>exact⟨k+1,by go_num,bJ,RB.out,HB⟩
   case measure=>simp[intOf];omega
  ·obtain rfl:k=ks.length:=by omega
   have hm:=HM.out;have fI:=hb.size;rw[RV]at fI;have VG:w.heap.size+1<wr.heap.size:=(Array.getElem?_eq_some_iff.1 mK).1;have hH:Holds (yx m) wr (w.heap.size+1) 0 (uB m):=by
    intro j hj;rw[p_]at hj;rw[Nat.zero_add];refine⟨?_,frozen_of_row wr _ j _ _ mK⟩;have hfc:=sH ks.length ks.length j (by omega);rw[if_pos (show j<ks.length by omega)]at hfc;rw[VF m j hj];simp only[World.cell?,mK];exact hfc
   have cK:RowKit.Below w.heap.size w wr:=((RowKit.Below.refl _ _).alloc (Nat.le_refl _) _).trans (hb.mono (by omega));have VD:CmpReads Tryz.prog 156 #[.pointer (some ⟨w.heap.size,0,none⟩)] (yx m) (cfK ks m) (w.heap.size+1) 0 (uB m).size wr:=by
    intro n os dk hdk x y;have rQ:=Dt (yx m) wr (w.heap.size+1) n dk os;have YG:(sortWorld (yx m) wr (w.heap.size+1) 0 n dk os).cell? ⟨w.heap.size,0,none⟩=some (.slice p ks.length c):=by
     rw[rQ.cell (p:=⟨w.heap.size,0,none⟩) (by simp only;omega) (by simp only;omega),hb.cell (p:=⟨w.heap.size,0,none⟩) (by simp only;omega)];exact vO
    have zc0:jT O (sortWorld (yx m) wr (w.heap.size+1) 0 n dk os) p c ks:=l_.carry fun k hk=>⟨hk,by
     have gM:=hO k hk;rw[rQ.block k (by omega) (by omega),cK.block k gM]⟩
    exact KH zc0 YG x.val y.val (by omega) (by omega)
   have VE:Calls Tryz.prog 155 #[.slice (some ⟨w.heap.size+1,0,none⟩) ks.length ks.length,.func (.func 156) #[] #[.pointer (some ⟨w.heap.size,0,none⟩)]] wr fun e w'=>e=.returned (.tuple #[])/\(∃L,kL w' (w.heap.size+1) L ks)/\aj (fun k=>k=w.heap.size+1) wr w':=by
    have zc1:(Value.slice (some ⟨w.heap.size+1,0,none⟩) ks.length ks.length)=Value.slice (some ⟨w.heap.size+1,0,none⟩) (uB m).size ks.length:=by rw[p_,hm]
    rw[zc1];refine(Tryz.slices_SortFunc (yx m) (fun _=>rfl) (cfK ks m) (zcY ks m) 156 #[.pointer (some ⟨w.heap.size,0,none⟩)] (w.heap.size+1) 0 ks.length (uB m) wr zcZ VD.lays hH VG (by rw[p_];omega)).mono fun e w' ⟨h1,d',n,os,hp,hs,hw⟩=> ?_;subst hw;exact⟨h1,⟨_,Ph hm hp hs (holds_sortWorld (yx m) wr (w.heap.size+1) 0 n (uB m) d' os VG hH hp.1)⟩,Dt _ _ _ _ _ _⟩
   clear hm VD hH mK;go_wp2_with(first
    | (go_at_call 155;refine VE.mono ?_;rintro e w2 ⟨rfl,⟨L,hL⟩,iX⟩))
   go_ret;refine⟨w.heap.size+1,L,rfl,hL,by omega,by have:=iX.size;omega, ?_⟩;exact cK.trans (iX.below (by omega) fun k hk=>by omega)
theorem GL(p:Option Addr)(c:Nat)(w:World):
    Calls Tryz.prog 131 #[.slice p 0 c] w fun e w'=>∃g,e=.returned (.slice (some ⟨g,0,none⟩) 0 0)/\w.heap.size<=g/\g<w'.heap.size/\Below w.heap.size w w':=by
 obtain⟨i0,hi,vZ,yo,zq⟩:=info_parts Tryz.Nv;have vO:(w.alloc (.cells #[.slice p 0 c] 22)).cell? ⟨w.heap.size,0,none⟩=some (.slice p 0 c):=aR (cur:= [_]) (heap_alloc_new _ _) 0 _ rfl;go_enter Tryz.func131,Tryz.ntmps131;go_wp2_with(first
  | (at_make;refine wpList_make_full _ rfl _ _ 128 rfl (w.heap.size+1) 3 i0 (.int .i64 0) 1 Tryz.underlying128 hi vZ yo _ _ _ _ 0 rfl rfl rfl rfl ?b2 ?b3 ?b4 ?_))
 case b2=>omega
 case b3=>unfold maxLen;omega
 case b4=>simp
 intro w1 aT rF;have RV:(w.alloc (.cells #[.slice p 0 c] 22)).heap.size=w.heap.size+1:=by simp
 have mK:=zo aT;have VG:w.heap.size+1<w1.heap.size:=(Array.getElem?_eq_some_iff.1 mK).1;have bI:RowKit.Below w.heap.size (w.alloc (.cells #[.slice p 0 c] 22)) w1:=(RowKit.Below.refl _ _).grown rF (by rw[RV];omega) (by simp);have hb:RowKit.Below w.heap.size w w1:=((RowKit.Below.refl _ _).alloc (Nat.le_refl _) _).trans bI;have zaM:∀wx:World,Calls Tryz.prog 155 #[.slice (some ⟨w.heap.size+1,0,none⟩) 0 0,.func (.func 156) #[] #[.pointer (some ⟨w.heap.size,0,none⟩)]] wx fun e w'=>e=.returned (.tuple #[])/\wx=w':=
  fun wx=>(Tryz.slices_SortFunc_none (α:=Nat) (some ⟨w.heap.size+1,0,none⟩) 0 _ wx).mono fun _ _ h=>⟨h.1,h.2.symm⟩
 clear aT rF mK bI;go_wp2;refine wp_loop_rounds 1 ?_;rw[rounds_succ];go_wp2_with(first
  | (go_at_call 155;refine(zaM _).mono ?_;rintro e w' ⟨rfl,rfl⟩))
 go_ret;exact⟨w.heap.size+1,rfl,by omega,VG,hb⟩
theorem Am{O:Nat->Prop}{ks:List ByteArray}{p:Option Addr}{c:Nat}{w:World}(l_:jT O w p c ks)(hO:∀k,O k->k<w.heap.size)(hl:ks.length<=1000000):
    Calls Tryz.prog 131 #[.slice p ks.length c] w fun e w'=>∃g L,e=.returned (.slice (some ⟨g,0,none⟩) ks.length ks.length)/\kL w' g L ks/\w.heap.size<=g/\g<w'.heap.size/\Below w.heap.size w w':=by
 cases ks with
 | nil=>
  refine(GL p c w).mono fun e w' ⟨g,h1,h2,h3,h4⟩=>⟨g, [],h1,⟨List.Perm.refl _,fun i j _ hj=>absurd hj (by simp),fun j hj=>absurd hj (by simp)⟩,h2,h3,h4⟩
 | cons k r=>exact GK l_ hO rfl hl
theorem Du(k:ByteArray)(v:J):∀(q:List (ByteArray×J)),(putK k v q).Perm ((k,v)::q)
 | []=>List.Perm.refl _
 | y::q=>by
  unfold putK
  split
  ·exact List.Perm.refl _
  ·exact((Du k v q).cons y).trans (List.Perm.swap _ _ _)
theorem nY:∀(q:List (ByteArray×J)),(fA q).Perm q
 | []=>List.Perm.refl _
 | y::q=>by
  unfold fA;exact(Du y.1 y.2 _).trans ((nY q).cons y)
theorem Pj{a b:ByteArray}(h:pE a b=true):pE b a=false:=by
 cases h':pE b a with
 | false=>rfl
 | true=>have:=nN h h';rw[nX]at this;cases this
theorem Ao:∀(a b:List (ByteArray×J)),rises (a.map (·.1))=true->rises (b.map (·.1))=true->a.Perm b->a=b
 | [],b,_,_,h=>(List.nil_perm.1 h).symm ▸ rfl
 | x::a, [],_,_,h=>by have:=h.length_eq;simp at this
 | x::a,y::b,ha,hb,h=>by
  simp only[List.map_cons,rises,Bool.and_eq_true]at ha hb;have hx:x∈y::b:=h.subset (by simp);have hy:y∈x::a:=h.symm.subset (by simp);have Q3:x=y:=by
   rcases List.mem_cons.1 hx with h1| h1
   ·exact h1
   ·rcases List.mem_cons.1 hy with h2| h2
    ·exact h2.symm
    ·have g1:=List.all_eq_true.1 hb.1 x.1 (List.mem_map.2 ⟨x,h1,rfl⟩);have g2:=List.all_eq_true.1 ha.1 y.1 (List.mem_map.2 ⟨y,h2,rfl⟩);rw[Pj g1]at g2;cases g2
  subst Q3;rw[Ao a b ha.2 hb.2 ((List.perm_cons x).1 h)]
theorem gW:∀{ks:List ByteArray},noKeyTwice ks=true->ks.Pairwise (· ≠ ·)
 | [],_=>List.Pairwise.nil
 | k::r,h=>by
  simp only[noKeyTwice,Bool.and_eq_true,Bool.not_eq_true',List.any_eq_false,decide_eq_true_eq]at h;refine List.pairwise_cons.2 ⟨fun x hx e=>h.1 x hx (by rw[e]),gW h.2⟩
theorem gB:∀{ks:List ByteArray},ks.Pairwise (· ≠ ·)->noKeyTwice ks=true
 | [],_=>rfl
 | k::r,h=>by
  have h':=List.pairwise_cons.1 h;simp only[noKeyTwice,Bool.and_eq_true,Bool.not_eq_true',List.any_eq_false,decide_eq_true_eq];refine⟨fun x hx e=>h'.1 x hx ?_,gB h'.2⟩
  cases x;cases k
  simp only at e;rw[e]
def qa(l:List J)(i:Nat):J:=l.getD i J.zero
def BZ(ks:List ByteArray)(l:List J)(L:List Nat):List (ByteArray×J):=L.map fun i=>(aN ks i,qa l i)
theorem Dv:∀(ks:List ByteArray) (l:List J),ks.length=l.length->BZ ks l (List.range ks.length)=ks.zip l
 | ks,l,h=>by
  unfold BZ
  apply List.ext_getElem
  ·simp;omega
  ·intro i h1 h2;have hi:i<ks.length:=by simpa using h1
   simp only[List.getElem_map,List.getElem_range,List.getElem_zip,aN,qa];rw[List.getD_eq_getElem?_getD,List.getD_eq_getElem?_getD,List.getElem?_eq_getElem hi,List.getElem?_eq_getElem (by omega)]
   rfl
theorem Ap{α:Type}(f:α->ByteArray):∀(l:List α),l.Pairwise (fun x y=>pE (f x) (f y)=true)->rises (l.map f)=true
 | [],_=>rfl
 | x::l,h=>by
  have h':=List.pairwise_cons.1 h;simp only[List.map_cons,rises,Bool.and_eq_true];refine⟨List.all_eq_true.2 fun z hz=> ?_,Ap f l h'.2⟩;obtain⟨y,hy,rfl⟩:=List.mem_map.1 hz;exact h'.1 y hy
theorem GM{w:World}{g:Nat}{L:List Nat}{ks:List ByteArray}{l:List J}(hP:kL w g L ks)(hd:ks.Pairwise (· ≠ ·))(hl:ks.length=l.length):BZ ks l L=fA (ks.zip l):=by
 obtain⟨hp,hs,_⟩:=hP;have cB:L.length=ks.length:=by rw[hp.length_eq];simp
 have RX:(BZ ks l L).Perm (ks.zip l):=by
  rw[<-Dv ks l hl];exact hp.map _
 have hpw:(ks.zip l).Pairwise fun x y=>x.1≠y.1:=by
  have:((ks.zip l).map (·.1)).Pairwise (· ≠ ·):=by rw[List.map_fst_zip (by omega)];exact hd
  exact List.pairwise_map.1 this
 refine Ao _ _ ?_ (lC _ hpw) (RX.trans (nY _).symm);unfold BZ;rw[List.map_map];refine Ap _ L ?_;rw[List.pairwise_iff_getElem];intro i j hi hj hij;have h1:=hs i j hij hj;have gi:L.getD i 0=L[i]:=by rw[List.getD_eq_getElem?_getD,List.getElem?_eq_getElem hi];rfl
 have gj:L.getD j 0=L[j]:=by rw[List.getD_eq_getElem?_getD,List.getElem?_eq_getElem hj];rfl
 rw[gi,gj]at h1;have RY:L.Nodup:=hp.nodup_iff.2 List.nodup_range;have B_:L[i]≠L[j]:=List.pairwise_iff_getElem.1 RY i j hi hj hij;have mi:L[i]<ks.length:=by have:=hp.subset (List.getElem_mem hi);simpa using this
 have mj:L[j]<ks.length:=by have:=hp.subset (List.getElem_mem hj);simpa using this
 have zc2:aN ks L[i]≠aN ks L[j]:=by
  unfold aN;rw[List.getD_eq_getElem?_getD,List.getD_eq_getElem?_getD,List.getElem?_eq_getElem mi,List.getElem?_eq_getElem mj];simp only[Option.getD_some];intro e
  rcases Nat.lt_or_gt_of_ne B_ with h| h
  ·exact List.pairwise_iff_getElem.1 hd _ _ mi mj h e
  ·exact List.pairwise_iff_getElem.1 hd _ _ mj mi h e.symm
 rcases pU zc2 with h| h
 ·exact h
 ·rw[h]at h1;cases h1
open Go.RowKit
theorem tX{most:Nat}{l:List ByteArray}:bU most l=true↔l.length<=most/\l.Pairwise (· ≠ ·)/\∀x∈l,Id.tT x=true:=by
 unfold bU;rw[Bool.and_eq_true,Bool.and_eq_true,decide_eq_true_eq,List.all_eq_true];exact⟨fun h=>⟨h.1.1,gW h.1.2,h.2⟩,fun h=>⟨⟨h.1,gB h.2.1⟩,h.2.2⟩⟩
theorem nO{α:Type}(l:List α)(k:Nat)(d:α)(hk:k<l.length):l.take (k+1)=l.take k++ [l.getD k d]:=by
 rw[List.take_succ_eq_append_getElem hk,List.getD_eq_getElem?_getD,List.getElem?_eq_getElem hk];rfl
theorem GN{α:Type}{l:List α}{k:Nat}{d:α}(h:k<l.length):l.getD k d∈l:=by
 rw[List.getD_eq_getElem?_getD,List.getElem?_eq_getElem h];exact List.getElem_mem _
theorem zaN(s t:ByteArray):(s.toList==t.toList)=decide (s=t):=by
 rw[Bool.eq_iff_iff,beq_iff_eq,decide_eq_true_eq]
 constructor
 ·intro h;rw[ByteArray.toList_eq,ByteArray.toList_eq]at h;exact ByteArray.ext (Array.toList_inj.1 h)
 ·rintro rfl;rfl
theorem yz{O:Nat->Prop}{l:List ByteArray}{p:Option Addr}{c:Nat}{w:World}(most:Nat)(l_:jT O w p c l)(hO:∀k,O k->k<w.heap.size)(_hl:l.length<=100000)(hm:most<=1000):
    Calls Tryz.prog 50 #[.slice p l.length c,.int .i64 most] w fun x w'=>x=.returned (.bool (bU most l))/\Below w.heap.size w w':=by
 by_cases hlm:l.length<=most
 ·have HLM:Hid (l.length<=most):=hlm;have hdm:decide (most<l.length)=false:=by simp;omega
  go_enter Tryz.func50,Tryz.ntmps50;go_wp2
  go_loopw [5] (fun i wr=>∃k:Nat,k<=l.length/\i=.int .i64 k/\(∀x∈l.take k,Id.tT x=true)/\(l.take k).Pairwise (· ≠ ·)/\Below w.heap.size w wr) (fun i _=>l.length - (intOf i).toNat)
  case atStart=>exact⟨0,Nat.zero_le _,rfl,by simp,by simp,Below.refl _ _⟩
  case round=>
   obtain⟨k,hk,rfl,eO,hpw,hb⟩:=hrel;have HA:Hid (∀x∈l.take k,Id.tT x=true):=eO;have HP:Hid ((l.take k).Pairwise (· ≠ ·)):=hpw;clear eO hpw
   by_cases bJ:k<l.length
   ·obtain⟨a,rfl,uC,yw⟩:=l_.2 k bJ;have HC:Hid (∀j,j<l.length->∀wx,Below w.heap.size w wx->wx.cell? (a.add j)=some (.string (l.getD j aH))):=fun j hj wx hx=>by
     obtain⟨a',e,hO',hc'⟩:=l_.2 j hj
     cases e
     exact(World.cell?_of_block (by rw[aY];exact hx.block _ (hO _ hO'))).trans hc'
    have gV:=HC.out k bJ wr hb;have HT:Hid (l.take (k+1)=l.take k++ [l.getD k aH]):=nO l k _ bJ;have HM:Hid (l.getD k aH∈l):=GN bJ;have HX2:Hid (∀wx,Below w.heap.size w wx->wx.cell? (a.add k)=some (.string (l.getD k aH))):=HC.out k bJ;have HTW:Hid (∀m,m<k->l.getD m aH=l.getD k aH->bU most l=false):=by
     intro m sD e
     cases hn:bU most l with
     | false=>rfl
     | true=>
      have hp:=(tX.1 hn).2.1;have:=List.pairwise_iff_getElem.1 hp m k (by omega) bJ sD;rw[List.getD_eq_getElem?_getD,List.getD_eq_getElem?_getD,List.getElem?_eq_getElem bJ,List.getElem?_eq_getElem (show m<l.length by omega)]at e;exact absurd e this
    clear yw;generalize l.getD k aH=x at*;have KL:=Id.qQ x wr
    cases hx:Id.tT x with
    | false=>
     rw[hx]at KL;have HE:Hid (bU most l=false):=by
      show _=_
      cases hn:bU most l with
      | false=>rfl
      | true=>have:=(tX.1 hn).2.2 x HM.out;rw[hx]at this;cases this
     clear hx;go_wp2_with(first
      | (go_at_call 52;refine KL.mono ?_;rintro e w1 ⟨rfl,bI⟩))
     go_ret;exact⟨av HE.out.symm,hb.trans (bI.mono hb.size)⟩
    | true=>
     rw[hx]at KL;have HX:Hid (Id.tT x=true):=hx;clear hx;go_wp2_with(first
      | (go_at_call 52;refine KL.mono ?_;rintro e w1 ⟨rfl,bI⟩
         have cK:=hb.trans (bI.mono hb.size)))
     clear KL gV bI
     go_loopw [6] (fun i wx=>∃m:Nat,m<=k/\i=.int .i64 m/\x∉l.take m/\Below w.heap.size w wx) (fun i _=>k - (intOf i).toNat)
     case atStart=>exact⟨0,Nat.zero_le _,rfl,by simp,cK⟩
     case round=>
      clear cK;obtain⟨m,hm',rfl,GQ,FY⟩:=hrel;have HNX:Hid (x∉l.take m):=GQ;clear GQ
      by_cases YH:m<k
      ·have mW:m<l.length:=by omega
       have c1:=HC.out m mW wr FY;have c2:=HX2.out wr FY;have VH:Hid (l.take (m+1)=l.take m++ [l.getD m aH]):=nO l m _ mW;have HTM:=HTW.out m YH;have zc3:Hid (l.getD m aH=x->bU most l=false):=HTM;clear HTM;generalize l.getD m aH=y at*
       by_cases Q3:y=x
       ·have rJ:(x.toList==y.toList)=true:=by rw[zaN];simpa using Q3.symm
        have HE:Hid (bU most l=false):=zc3.out Q3;go_wp2;go_quiet (fail);go_wp2;go_ret;exact⟨av HE.out.symm,below_drewN FY _⟩
       ·have rJ:(x.toList==y.toList)=false:=by rw[zaN];simpa using fun e=>Q3 e.symm
        have HN2:Hid (x∉l.take (m+1)):=by
         show x∉l.take (m+1)
         rw[VH.out,List.mem_append,List.mem_singleton];rintro(h| h)
         ·exact HNX.out h
         ·exact Q3 h.symm
        go_wp2;go_quiet (fail);go_wp2;go_roundw
        case rel=>exact⟨m+1,by omega,by go_num,HN2.out,below_drewN FY _⟩
        case measure=>simp[intOf];omega
      ·obtain rfl:k=m:=by omega
       go_wp2;go_roundw
       case rel=>
        refine⟨k+1,by omega,by go_num,fun y hy=> ?_, ?_,FY⟩
        ·rw[HT.out,List.mem_append,List.mem_singleton]at hy
         rcases hy with hy| rfl
         ·exact HA.out y hy
         ·exact HX.out
        ·rw[HT.out,List.pairwise_append];refine⟨HP.out,by simp,fun y hy z hz e=> ?_⟩;rw[List.mem_singleton.1 hz]at e;exact HNX.out (e ▸ hy)
       case measure=>simp[intOf];omega
   ·obtain rfl:k=l.length:=by omega
    have HE:Hid (bU most l=true):=by
     have h1:=HA.out;have h2:=HP.out;rw[List.take_length]at h1 h2;exact tX.2 ⟨HLM.out,h2,h1⟩
    go_wp2;go_ret;exact⟨av HE.out.symm,hb⟩
 ·have HE:Hid (bU most l=false):=by
    show _=_
    cases hn:bU most l with
    | false=>rfl
    | true=>exact absurd (tX.1 hn).1 hlm
  go_enter Tryz.func50,Tryz.ntmps50;go_wp2;go_ret;exact⟨av HE.out.symm,Below.refl _ _⟩
theorem VI{n:Int}(h0:0<=n)(h1:n<9223372036854775808):IntKind.i64.wrap n=n:=by
 first| (rw[IntKind.wrap_i64];omega)| (unfold IntKind.wrap;simp;omega)
theorem ES{O:Nat->Prop}{l:List (ByteArray×ByteArray)}{p:Option Addr}{c:Nat}{w:World}(l_:Aa O w p c l)(hO:∀k,O k->k<w.heap.size)(hl:l.length<=100000)(hz:∀x∈l,x.1.size<=1000000000/\x.2.size<=1000000000):
    Calls Tryz.prog 51 #[.slice p l.length c] w fun x w'=>x=.returned (.bool (di l))/\Below w.heap.size w w':=by
 have Q7:=l_.1
 by_cases h4:l.length<=4
 ·have HL4:Hid (l.length<=4):=h4;have hd4:decide (4<(l.length:Int))=false:=by simp;omega
  go_enter Tryz.func51,Tryz.ntmps51;go_wp2
  go_loopw [3] (fun i wr=>∃k:Nat,k<=l.length/\i=.int .i64 k/\(∀j,j<k->uN (l.getD j (aH,aH))=true/\(0<j->pE (l.getD (j - 1) (aH,aH)).1 (l.getD j (aH,aH)).1=true))/\Below w.heap.size w wr) (fun i _=>l.length - (intOf i).toNat)
  case atStart=>exact⟨0,Nat.zero_le _,rfl,fun j hj=>absurd hj (by omega),Below.refl _ _⟩
  case round=>
   obtain⟨k,hk,rfl,hg,hb⟩:=hrel;have HG:Hid (∀j,j<k->uN (l.getD j (aH,aH))=true/\(0<j->pE (l.getD (j - 1) (aH,aH)).1 (l.getD j (aH,aH)).1=true)):=hg;clear hg
   by_cases bJ:k<l.length
   ·obtain⟨b,o,rfl,xz,GI,vw⟩:=l_.2 k bJ;have HCP:Hid (∀j,j<l.length->∀W:World,Below w.heap.size w W->W.cell? ⟨b,o+j*2,none⟩=some (.string (l.getD j (aH,aH)).1)):=by
     intro j hj W hW;obtain⟨b',o',hp',hO',h1',h2'⟩:=l_.2 j hj
     cases hp'
     exact(World.cell?_of_block (a:=⟨b,o+j*2,none⟩) (hW.block _ (hO _ hO'))).trans h1'
    have hx:=hz (l.getD k (aH,aH)) (GN bJ);have Ct:Hid (∀W:World,Below w.heap.size w W->W.cell? ⟨b,o+k*2,none⟩=some (.string (l.getD k (aH,aH)).1)):=HCP.out k bJ;have GR:Hid (∀W:World,Below w.heap.size w W->W.cell? ⟨b,o+k*2+1,none⟩=some (.string (l.getD k (aH,aH)).2)):=fun W hW=>(World.cell?_of_block (a:=⟨b,o+k*2+1,none⟩) (hW.block _ (hO _ xz))).trans vw;have Q8:Hid (uN (l.getD k (aH,aH))=(Id.EH (l.getD k (aH,aH)).1&&Id.tT (O0 (l.getD k (aH,aH)).2))):=rfl;obtain⟨x1,xg⟩:∃x,(l.getD k (aH,aH)).1=x:=⟨_,rfl⟩;obtain⟨x2,zX⟩:∃x,(l.getD k (aH,aH)).2=x:=⟨_,rfl⟩;have HX1:Hid ((l.getD k (aH,aH)).1=x1):=xg;rw[xg]at hx Q8 Ct;rw[zX]at hx Q8 GR;clear GI vw xg zX;have oK:Below w.heap.size w wr.drew:=hb.drew;have hS:=Id.pG x1 wr.drew (by omega);have hD:=fun W=>Id.qQ (O0 x2) W;unfold O0 at hD;have GU:Hid (k<l.length):=bJ
    cases hs:Id.EH x1 with
    | false=>
     have HF:Hid (di l=false):=qU bJ (by rw[Q8.out,hs];rfl);rw[hs]at hS;clear hs;go_wp2;refine aD (by kernel_rfl) (fun w'=>Below w.heap.size w w') ?_;change wpIn _ _ _ _ _ _ _ _ (World.drew _);refine aa (i:=0) (d:=some 13) rfl ?_;refine aa (i:=1) (d:=some 14) rfl ?_;refine aa (i:=2) (d:=some 15) rfl ?_;refine aa (i:=3) (d:=some 16) rfl ?_;refine aB (i:=4) (d:=some 17) rfl (by(intro wq hq;have z1:=Ct.out wq hq;have z2:=GR.out wq hq;go_simp;first| done| with_reducible rfl)) ?_;refine ak (i:=5) oK rfl ?_;intro K hK;go_simp;go_wp2_with(go_at_call 92;refine hS.mono ?_;rintro e w1 ⟨rfl,rfl⟩);refine aa (i:=6) (d:=some 19) rfl ?_;refine aa (i:=7) (d:=some 20) rfl ?_;refine ay (i:=8) (d:=(some 21)) (v:=undef) (a':= ?aqaq8) rfl rfl (by kernel_rfl) (by kernel_rfl) (by kernel_rfl) (fun _ _ _ h=>h) (Or.inr ⟨by rfl,rfl⟩) ?fqaq8 ?_
     case fqaq8=>(go_frame;rfl)
     refine ay (i:=9) (d:=(some 22)) (v:=undef) (a':= ?aqaq9) rfl rfl (by kernel_rfl) (by kernel_rfl) (by kernel_rfl) (fun _ _ _ h=>h) (Or.inr ⟨by rfl,rfl⟩) ?fqaq9 ?_
     case fqaq9=>(go_frame;rfl)
     refine ay (i:=10) (d:=(some 23)) (v:=undef) (a':= ?aqaq10) rfl rfl (by kernel_rfl) (by kernel_rfl) (by kernel_rfl) (fun _ _ _ h=>h) (Or.inr ⟨by rfl,rfl⟩) ?fqaq10 ?_
     case fqaq10=>(go_frame;rfl)
     refine ay (i:=11) (d:=(some 24)) (v:=undef) (a':= ?aqaq11) rfl rfl (by kernel_rfl) (by kernel_rfl) (by kernel_rfl) (fun _ _ _ h=>h) (Or.inr ⟨by rfl,rfl⟩) ?fqaq11 ?_
     case fqaq11=>(go_frame;rfl)
     refine ay (i:=12) (d:=(some 25)) (v:=undef) (a':= ?aqaq12) rfl rfl (by kernel_rfl) (by kernel_rfl) (by kernel_rfl) (fun _ _ _ h=>h) (Or.inr ⟨by rfl,rfl⟩) ?fqaq12 ?_
     case fqaq12=>(go_frame;rfl)
     refine ay (i:=13) (d:=(some 26)) (v:=undef) (a':= ?aqaq13) rfl rfl (by kernel_rfl) (by kernel_rfl) (by kernel_rfl) (fun _ _ _ h=>h) (Or.inr ⟨by rfl,rfl⟩) ?fqaq13 ?_
     case fqaq13=>(go_frame;rfl)
     refine ay (i:=14) (d:=(some 27)) (v:=undef) (a':= ?aqaq14) rfl rfl (by kernel_rfl) (by kernel_rfl) (by kernel_rfl) (fun _ _ _ h=>h) (Or.inr ⟨by rfl,rfl⟩) ?fqaq14 ?_
     case fqaq14=>(go_frame;rfl)
     refine ay (i:=15) (d:=(some 28)) (v:=undef) (a':= ?aqaq15) rfl rfl (by kernel_rfl) (by kernel_rfl) (by kernel_rfl) (fun _ _ _ h=>h) (Or.inr ⟨by rfl,rfl⟩) ?fqaq15 ?_
     case fqaq15=>(go_frame;rfl)
     refine aa (i:=16) (d:=some 29) rfl ?_;refine aa (i:=17) (d:=some 30) rfl ?_;refine ay (i:=18) (d:=(some 31)) (v:=undef) (a':= ?aqaq18) rfl rfl (by kernel_rfl) (by kernel_rfl) (by kernel_rfl) (fun _ _ _ h=>h) (Or.inr ⟨by rfl,rfl⟩) ?fqaq18 ?_
     case fqaq18=>(go_frame;rfl)
     refine ay (i:=19) (d:=(some 32)) (v:=undef) (a':= ?aqaq19) rfl rfl (by kernel_rfl) (by kernel_rfl) (by kernel_rfl) (fun _ _ _ h=>h) (Or.inr ⟨by rfl,rfl⟩) ?fqaq19 ?_
     case fqaq19=>(go_frame;rfl)
     refine ay (i:=20) (d:=(some 33)) (v:=undef) (a':= ?aqaq20) rfl rfl (by kernel_rfl) (by kernel_rfl) (by kernel_rfl) (fun _ _ _ h=>h) (Or.inr ⟨by rfl,rfl⟩) ?fqaq20 ?_
     case fqaq20=>(go_frame;rfl)
     refine ay (i:=21) (d:=(some 34)) (v:=undef) (a':= ?aqaq21) rfl rfl (by kernel_rfl) (by kernel_rfl) (by kernel_rfl) (fun _ _ _ h=>h) (Or.inr ⟨by rfl,rfl⟩) ?fqaq21 ?_
     case fqaq21=>(go_frame;rfl)
     refine ay (i:=22) (d:=(some 35)) (v:=undef) (a':= ?aqaq22) rfl rfl (by kernel_rfl) (by kernel_rfl) (by kernel_rfl) (fun _ _ _ h=>h) (Or.inr ⟨by rfl,rfl⟩) ?fqaq22 ?_
     case fqaq22=>(go_frame;rfl)
     refine ay (i:=23) (d:=(some 36)) (v:=undef) (a':= ?aqaq23) rfl rfl (by kernel_rfl) (by kernel_rfl) (by kernel_rfl) (fun _ _ _ h=>h) (Or.inr ⟨by rfl,rfl⟩) ?fqaq23 ?_
     case fqaq23=>(go_frame;rfl)
     refine ay (i:=24) (d:=(some 37)) (v:=undef) (a':= ?aqaq24) rfl rfl (by kernel_rfl) (by kernel_rfl) (by kernel_rfl) (fun _ _ _ h=>h) (Or.inr ⟨by rfl,rfl⟩) ?fqaq24 ?_
     case fqaq24=>(go_frame;rfl)
     refine ay (i:=25) (d:=(some 38)) (v:=undef) (a':= ?aqaq25) rfl rfl (by kernel_rfl) (by kernel_rfl) (by kernel_rfl) (fun _ _ _ h=>h) (Or.inr ⟨by rfl,rfl⟩) ?fqaq25 ?_
     case fqaq25=>(go_frame;rfl)
     refine ay (i:=26) (d:=(some 39)) (v:=undef) (a':= ?aqaq26) rfl rfl (by kernel_rfl) (by kernel_rfl) (by kernel_rfl) (fun _ _ _ h=>h) (Or.inr ⟨by rfl,rfl⟩) ?fqaq26 ?_
     case fqaq26=>(go_frame;rfl)
     refine ay (i:=27) (d:=(some 40)) (v:=undef) (a':= ?aqaq27) rfl rfl (by kernel_rfl) (by kernel_rfl) (by kernel_rfl) (fun _ _ _ h=>h) (Or.inr ⟨by rfl,rfl⟩) ?fqaq27 ?_
     case fqaq27=>(go_frame;rfl)
     refine ay (i:=28) (d:=(some 41)) (v:=undef) (a':= ?aqaq28) rfl rfl (by kernel_rfl) (by kernel_rfl) (by kernel_rfl) (fun _ _ _ h=>h) (Or.inr ⟨by rfl,rfl⟩) ?fqaq28 ?_
     case fqaq28=>(go_frame;rfl)
     refine ay (i:=29) (d:=(some 42)) (v:=undef) (a':= ?aqaq29) rfl rfl (by kernel_rfl) (by kernel_rfl) (by kernel_rfl) (fun _ _ _ h=>h) (Or.inr ⟨by rfl,rfl⟩) ?fqaq29 ?_
     case fqaq29=>(go_frame;rfl)
     refine ay (i:=30) (d:=(some 43)) (v:=undef) (a':= ?aqaq30) rfl rfl (by kernel_rfl) (by kernel_rfl) (by kernel_rfl) (fun _ _ _ h=>h) (Or.inr ⟨by rfl,rfl⟩) ?fqaq30 ?_
     case fqaq30=>(go_frame;rfl)
     refine ay (i:=31) (d:=(some 44)) (v:=undef) (a':= ?aqaq31) rfl rfl (by kernel_rfl) (by kernel_rfl) (by kernel_rfl) (fun _ _ _ h=>h) (Or.inr ⟨by rfl,rfl⟩) ?fqaq31 ?_
     case fqaq31=>(go_frame;rfl)
     refine ay (i:=32) (d:=(some 45)) (v:=undef) (a':= ?aqaq32) rfl rfl (by kernel_rfl) (by kernel_rfl) (by kernel_rfl) (fun _ _ _ h=>h) (Or.inr ⟨by rfl,rfl⟩) ?fqaq32 ?_
     case fqaq32=>(go_frame;rfl)
     refine ay (i:=33) (d:=(some 46)) (v:=undef) (a':= ?aqaq33) rfl rfl (by kernel_rfl) (by kernel_rfl) (by kernel_rfl) (fun _ _ _ h=>h) (Or.inr ⟨by rfl,rfl⟩) ?fqaq33 ?_
     case fqaq33=>(go_frame;rfl)
     refine aa (i:=34) (d:=some 47) rfl ?_;refine aA oK (by kernel_rfl) ?_ _;go_wp2;go_ret;exact⟨av HF.out.symm,oK⟩
    | true=>
     rw[hs]at hS
     cases hd:Id.tT (O0 x2)with
     | false=>
      have HF:Hid (di l=false):=qU bJ (by rw[Q8.out,hs,hd];rfl);unfold O0 at hd;rw[hd]at hD;clear hs hd;go_wp2;refine aD (by kernel_rfl) (fun w'=>Below w.heap.size w w') ?_;change wpIn _ _ _ _ _ _ _ _ (World.drew _);refine aa (i:=0) (d:=some 13) rfl ?_;refine aa (i:=1) (d:=some 14) rfl ?_;refine aa (i:=2) (d:=some 15) rfl ?_;refine aa (i:=3) (d:=some 16) rfl ?_;refine aB (i:=4) (d:=some 17) rfl (by(intro wq hq;have z1:=Ct.out wq hq;have z2:=GR.out wq hq;go_simp;first| done| with_reducible rfl)) ?_;refine ak (i:=5) oK rfl ?_;intro K hK;go_simp;go_wp2_with(go_at_call 92;refine hS.mono ?_;rintro e w1 ⟨rfl,rfl⟩);refine aa (i:=6) (d:=some 19) rfl ?_;refine aa (i:=7) (d:=some 20) rfl ?_;refine aa (i:=8) (d:=some 21) rfl ?_;refine aa (i:=9) (d:=some 22) rfl ?_;refine aa (i:=10) (d:=some 23) rfl ?_;refine aa (i:=11) (d:=some 24) rfl ?_;refine aB (i:=12) (d:=some 25) rfl (by(intro wq hq;have z1:=Ct.out wq hq;have z2:=GR.out wq hq;go_simp;first| done| with_reducible rfl)) ?_;refine aB (i:=13) (d:=some 26) rfl (by(intro wq hq;have Y4:¬9223372036854775807<1+x2.size:=(by omega);go_simp;first| done| with_reducible rfl)) ?_;refine ak (i:=14) oK rfl ?_;intro K hK;go_simp;go_wp2_with(go_at_call 52;refine(hD _).mono ?_;rintro e w2 ⟨rfl,bM⟩;have Aq:=oK.trans (bM.mono oK.size));refine aa (i:=15) (d:=some 28) rfl ?_;refine aa (i:=16) (d:=some 29) rfl ?_;refine aa (i:=17) (d:=some 30) rfl ?_;refine ay (i:=18) (d:=(some 31)) (v:=undef) (a':= ?aqbq18) rfl rfl (by kernel_rfl) (by kernel_rfl) (by kernel_rfl) (fun _ _ _ h=>h) (Or.inr ⟨by rfl,rfl⟩) ?fqbq18 ?_
      case fqbq18=>(go_frame;rfl)
      refine ay (i:=19) (d:=(some 32)) (v:=undef) (a':= ?aqbq19) rfl rfl (by kernel_rfl) (by kernel_rfl) (by kernel_rfl) (fun _ _ _ h=>h) (Or.inr ⟨by rfl,rfl⟩) ?fqbq19 ?_
      case fqbq19=>(go_frame;rfl)
      refine ay (i:=20) (d:=(some 33)) (v:=undef) (a':= ?aqbq20) rfl rfl (by kernel_rfl) (by kernel_rfl) (by kernel_rfl) (fun _ _ _ h=>h) (Or.inr ⟨by rfl,rfl⟩) ?fqbq20 ?_
      case fqbq20=>(go_frame;rfl)
      refine ay (i:=21) (d:=(some 34)) (v:=undef) (a':= ?aqbq21) rfl rfl (by kernel_rfl) (by kernel_rfl) (by kernel_rfl) (fun _ _ _ h=>h) (Or.inr ⟨by rfl,rfl⟩) ?fqbq21 ?_
      case fqbq21=>(go_frame;rfl)
      refine ay (i:=22) (d:=(some 35)) (v:=undef) (a':= ?aqbq22) rfl rfl (by kernel_rfl) (by kernel_rfl) (by kernel_rfl) (fun _ _ _ h=>h) (Or.inr ⟨by rfl,rfl⟩) ?fqbq22 ?_
      case fqbq22=>(go_frame;rfl)
      refine ay (i:=23) (d:=(some 36)) (v:=undef) (a':= ?aqbq23) rfl rfl (by kernel_rfl) (by kernel_rfl) (by kernel_rfl) (fun _ _ _ h=>h) (Or.inr ⟨by rfl,rfl⟩) ?fqbq23 ?_
      case fqbq23=>(go_frame;rfl)
      refine ay (i:=24) (d:=(some 37)) (v:=undef) (a':= ?aqbq24) rfl rfl (by kernel_rfl) (by kernel_rfl) (by kernel_rfl) (fun _ _ _ h=>h) (Or.inr ⟨by rfl,rfl⟩) ?fqbq24 ?_
      case fqbq24=>(go_frame;rfl)
      refine ay (i:=25) (d:=(some 38)) (v:=undef) (a':= ?aqbq25) rfl rfl (by kernel_rfl) (by kernel_rfl) (by kernel_rfl) (fun _ _ _ h=>h) (Or.inr ⟨by rfl,rfl⟩) ?fqbq25 ?_
      case fqbq25=>(go_frame;rfl)
      refine ay (i:=26) (d:=(some 39)) (v:=undef) (a':= ?aqbq26) rfl rfl (by kernel_rfl) (by kernel_rfl) (by kernel_rfl) (fun _ _ _ h=>h) (Or.inr ⟨by rfl,rfl⟩) ?fqbq26 ?_
      case fqbq26=>(go_frame;rfl)
      refine ay (i:=27) (d:=(some 40)) (v:=undef) (a':= ?aqbq27) rfl rfl (by kernel_rfl) (by kernel_rfl) (by kernel_rfl) (fun _ _ _ h=>h) (Or.inr ⟨by rfl,rfl⟩) ?fqbq27 ?_
      case fqbq27=>(go_frame;rfl)
      refine ay (i:=28) (d:=(some 41)) (v:=undef) (a':= ?aqbq28) rfl rfl (by kernel_rfl) (by kernel_rfl) (by kernel_rfl) (fun _ _ _ h=>h) (Or.inr ⟨by rfl,rfl⟩) ?fqbq28 ?_
      case fqbq28=>(go_frame;rfl)
      refine ay (i:=29) (d:=(some 42)) (v:=undef) (a':= ?aqbq29) rfl rfl (by kernel_rfl) (by kernel_rfl) (by kernel_rfl) (fun _ _ _ h=>h) (Or.inr ⟨by rfl,rfl⟩) ?fqbq29 ?_
      case fqbq29=>(go_frame;rfl)
      refine ay (i:=30) (d:=(some 43)) (v:=undef) (a':= ?aqbq30) rfl rfl (by kernel_rfl) (by kernel_rfl) (by kernel_rfl) (fun _ _ _ h=>h) (Or.inr ⟨by rfl,rfl⟩) ?fqbq30 ?_
      case fqbq30=>(go_frame;rfl)
      refine ay (i:=31) (d:=(some 44)) (v:=undef) (a':= ?aqbq31) rfl rfl (by kernel_rfl) (by kernel_rfl) (by kernel_rfl) (fun _ _ _ h=>h) (Or.inr ⟨by rfl,rfl⟩) ?fqbq31 ?_
      case fqbq31=>(go_frame;rfl)
      refine ay (i:=32) (d:=(some 45)) (v:=undef) (a':= ?aqbq32) rfl rfl (by kernel_rfl) (by kernel_rfl) (by kernel_rfl) (fun _ _ _ h=>h) (Or.inr ⟨by rfl,rfl⟩) ?fqbq32 ?_
      case fqbq32=>(go_frame;rfl)
      refine ay (i:=33) (d:=(some 46)) (v:=undef) (a':= ?aqbq33) rfl rfl (by kernel_rfl) (by kernel_rfl) (by kernel_rfl) (fun _ _ _ h=>h) (Or.inr ⟨by rfl,rfl⟩) ?fqbq33 ?_
      case fqbq33=>(go_frame;rfl)
      refine aa (i:=34) (d:=some 47) rfl ?_;refine aA Aq (by kernel_rfl) ?_ _;go_wp2;go_ret;exact⟨av HF.out.symm,Aq⟩
     | true=>
      have RU:Hid (uN (l.getD k (aH,aH))=true):=by show _=_;rw[Q8.out,hs,hd];rfl
      unfold O0 at hd;rw[hd]at hD;clear hs hd Q8
      by_cases xh:k=0
      ·subst xh;simp only[Nat.zero_mul,Nat.add_zero]at Ct GR;go_wp2;refine aD (by kernel_rfl) (fun w'=>Below w.heap.size w w') ?_;change wpIn _ _ _ _ _ _ _ _ (World.drew _);refine aa (i:=0) (d:=some 13) rfl ?_;refine aa (i:=1) (d:=some 14) rfl ?_;refine aa (i:=2) (d:=some 15) rfl ?_;refine aa (i:=3) (d:=some 16) rfl ?_;refine aB (i:=4) (d:=some 17) rfl (by(intro wq hq;have z1:=Ct.out wq hq;have z2:=GR.out wq hq;go_simp;first| done| with_reducible rfl)) ?_;refine ak (i:=5) oK rfl ?_;intro K hK;go_simp;go_wp2_with(go_at_call 92;refine hS.mono ?_;rintro e w1 ⟨rfl,rfl⟩);refine aa (i:=6) (d:=some 19) rfl ?_;refine aa (i:=7) (d:=some 20) rfl ?_;refine aa (i:=8) (d:=some 21) rfl ?_;refine aa (i:=9) (d:=some 22) rfl ?_;refine aa (i:=10) (d:=some 23) rfl ?_;refine aa (i:=11) (d:=some 24) rfl ?_;refine aB (i:=12) (d:=some 25) rfl (by(intro wq hq;have z1:=Ct.out wq hq;have z2:=GR.out wq hq;go_simp;first| done| with_reducible rfl)) ?_;refine aB (i:=13) (d:=some 26) rfl (by(intro wq hq;have Y4:¬9223372036854775807<1+x2.size:=(by omega);go_simp;first| done| with_reducible rfl)) ?_;refine ak (i:=14) oK rfl ?_;intro K hK;go_simp;go_wp2_with(go_at_call 52;refine(hD _).mono ?_;rintro e w2 ⟨rfl,bM⟩;have Aq:=oK.trans (bM.mono oK.size));refine aa (i:=15) (d:=some 28) rfl ?_;refine aa (i:=16) (d:=some 29) rfl ?_;refine aa (i:=17) (d:=some 30) rfl ?_;refine aa (i:=18) (d:=some 31) rfl ?_;refine aa (i:=19) (d:=some 32) rfl ?_;refine aa (i:=20) (d:=some 33) rfl ?_;refine ay (i:=21) (d:=(some 34)) (v:=undef) (a':= ?aqcq21) rfl rfl (by kernel_rfl) (by kernel_rfl) (by kernel_rfl) (fun _ _ _ h=>h) (Or.inr ⟨by rfl,rfl⟩) ?fqcq21 ?_
       case fqcq21=>(go_frame;rfl)
       refine ay (i:=22) (d:=(some 35)) (v:=undef) (a':= ?aqcq22) rfl rfl (by kernel_rfl) (by kernel_rfl) (by kernel_rfl) (fun _ _ _ h=>h) (Or.inr ⟨by rfl,rfl⟩) ?fqcq22 ?_
       case fqcq22=>(go_frame;rfl)
       refine ay (i:=23) (d:=(some 36)) (v:=undef) (a':= ?aqcq23) rfl rfl (by kernel_rfl) (by kernel_rfl) (by kernel_rfl) (fun _ _ _ h=>h) (Or.inr ⟨by rfl,rfl⟩) ?fqcq23 ?_
       case fqcq23=>(go_frame;rfl)
       refine ay (i:=24) (d:=(some 37)) (v:=undef) (a':= ?aqcq24) rfl rfl (by kernel_rfl) (by kernel_rfl) (by kernel_rfl) (fun _ _ _ h=>h) (Or.inr ⟨by rfl,rfl⟩) ?fqcq24 ?_
       case fqcq24=>(go_frame;rfl)
       refine ay (i:=25) (d:=(some 38)) (v:=undef) (a':= ?aqcq25) rfl rfl (by kernel_rfl) (by kernel_rfl) (by kernel_rfl) (fun _ _ _ h=>h) (Or.inr ⟨by rfl,rfl⟩) ?fqcq25 ?_
       case fqcq25=>(go_frame;rfl)
       refine ay (i:=26) (d:=(some 39)) (v:=undef) (a':= ?aqcq26) rfl rfl (by kernel_rfl) (by kernel_rfl) (by kernel_rfl) (fun _ _ _ h=>h) (Or.inr ⟨by rfl,rfl⟩) ?fqcq26 ?_
       case fqcq26=>(go_frame;rfl)
       refine ay (i:=27) (d:=(some 40)) (v:=undef) (a':= ?aqcq27) rfl rfl (by kernel_rfl) (by kernel_rfl) (by kernel_rfl) (fun _ _ _ h=>h) (Or.inr ⟨by rfl,rfl⟩) ?fqcq27 ?_
       case fqcq27=>(go_frame;rfl)
       refine ay (i:=28) (d:=(some 41)) (v:=undef) (a':= ?aqcq28) rfl rfl (by kernel_rfl) (by kernel_rfl) (by kernel_rfl) (fun _ _ _ h=>h) (Or.inr ⟨by rfl,rfl⟩) ?fqcq28 ?_
       case fqcq28=>(go_frame;rfl)
       refine ay (i:=29) (d:=(some 42)) (v:=undef) (a':= ?aqcq29) rfl rfl (by kernel_rfl) (by kernel_rfl) (by kernel_rfl) (fun _ _ _ h=>h) (Or.inr ⟨by rfl,rfl⟩) ?fqcq29 ?_
       case fqcq29=>(go_frame;rfl)
       refine ay (i:=30) (d:=(some 43)) (v:=undef) (a':= ?aqcq30) rfl rfl (by kernel_rfl) (by kernel_rfl) (by kernel_rfl) (fun _ _ _ h=>h) (Or.inr ⟨by rfl,rfl⟩) ?fqcq30 ?_
       case fqcq30=>(go_frame;rfl)
       refine ay (i:=31) (d:=(some 44)) (v:=undef) (a':= ?aqcq31) rfl rfl (by kernel_rfl) (by kernel_rfl) (by kernel_rfl) (fun _ _ _ h=>h) (Or.inr ⟨by rfl,rfl⟩) ?fqcq31 ?_
       case fqcq31=>(go_frame;rfl)
       refine ay (i:=32) (d:=(some 45)) (v:=undef) (a':= ?aqcq32) rfl rfl (by kernel_rfl) (by kernel_rfl) (by kernel_rfl) (fun _ _ _ h=>h) (Or.inr ⟨by rfl,rfl⟩) ?fqcq32 ?_
       case fqcq32=>(go_frame;rfl)
       refine aa (i:=33) (d:=some 46) rfl ?_;refine aa (i:=34) (d:=some 47) rfl ?_;refine aA Aq (by kernel_rfl) ?_ _;go_wp2;go_roundw
       case rel=>exact⟨1,by omega,by go_num,fun j hj=>(by
           obtain rfl:j=0:=(by omega);exact⟨RU.out,fun h=>absurd h (by omega)⟩),Aq⟩
       case measure=>simp[intOf];omega
      ·obtain⟨m,hm⟩:∃m,m=k - 1:=⟨_,rfl⟩;have HKM:Hid (k=m+1):=by show _=_;omega
       have mW:m<l.length:=by omega
       have em:(k:Int) - 1=(m:Int):=by omega
       have hwm:IntKind.i64.wrap (m:Int)=(m:Int):=VI (by omega) (by omega);have sI:decide (0<k)=true:=by simp;omega
       have qB:decide (0<(k:Int))=true:=by simp;omega
       have hmp:(m:Int)<(l.length:Int):=by omega
       obtain⟨y1,UY⟩:∃x,(l.getD m (aH,aH)).1=x:=⟨_,rfl⟩;have HY1:Hid ((l.getD m (aH,aH)).1=y1):=UY;have YF:Hid (∀W:World,Below w.heap.size w W->W.cell? ⟨b,o+m*2,none⟩=some (.string y1)):=by rw[<-UY];exact HCP.out m mW
       clear UY hm;have zy:=KE y1 x1
       cases zY:pE y1 x1 with
       | true=>
        rw[zY]at zy;have HLK:Hid (pE y1 x1=true):=zY;clear zY;go_wp2;refine aD (by kernel_rfl) (fun w'=>Below w.heap.size w w') ?_;change wpIn _ _ _ _ _ _ _ _ (World.drew _);refine aa (i:=0) (d:=some 13) rfl ?_;refine aa (i:=1) (d:=some 14) rfl ?_;refine aa (i:=2) (d:=some 15) rfl ?_;refine aa (i:=3) (d:=some 16) rfl ?_;refine aB (i:=4) (d:=some 17) rfl (by(intro wq hq;have z1:=Ct.out wq hq;have z2:=GR.out wq hq;go_simp;first| done| with_reducible rfl)) ?_;refine ak (i:=5) oK rfl ?_;intro K hK;go_simp;go_wp2_with(go_at_call 92;refine hS.mono ?_;rintro e w1 ⟨rfl,rfl⟩);refine aa (i:=6) (d:=some 19) rfl ?_;refine aa (i:=7) (d:=some 20) rfl ?_;refine aa (i:=8) (d:=some 21) rfl ?_;refine aa (i:=9) (d:=some 22) rfl ?_;refine aa (i:=10) (d:=some 23) rfl ?_;refine aa (i:=11) (d:=some 24) rfl ?_;refine aB (i:=12) (d:=some 25) rfl (by(intro wq hq;have z1:=Ct.out wq hq;have z2:=GR.out wq hq;go_simp;first| done| with_reducible rfl)) ?_;refine aB (i:=13) (d:=some 26) rfl (by(intro wq hq;have Y4:¬9223372036854775807<1+x2.size:=(by omega);go_simp;first| done| with_reducible rfl)) ?_;refine ak (i:=14) oK rfl ?_;intro K hK;go_simp;go_wp2_with(go_at_call 52;refine(hD _).mono ?_;rintro e w2 ⟨rfl,bM⟩;have Aq:=oK.trans (bM.mono oK.size));refine aa (i:=15) (d:=some 28) rfl ?_;refine aa (i:=16) (d:=some 29) rfl ?_;refine aa (i:=17) (d:=some 30) rfl ?_;refine aa (i:=18) (d:=some 31) rfl ?_;refine aa (i:=19) (d:=some 32) rfl ?_;refine aa (i:=20) (d:=some 33) rfl ?_;refine aa (i:=21) (d:=some 34) rfl ?_;refine aa (i:=22) (d:=some 35) rfl ?_;refine aa (i:=23) (d:=some 36) rfl ?_;refine aa (i:=24) (d:=some 37) rfl ?_;refine aa (i:=25) (d:=some 38) rfl ?_;refine aB (i:=26) (d:=some 39) rfl (by(intro wq hq;have z1:=Ct.out wq hq;have z3:=YF.out wq hq;go_simp;first| done| with_reducible rfl)) ?_;refine aa (i:=27) (d:=some 40) rfl ?_;refine aa (i:=28) (d:=some 41) rfl ?_;refine aa (i:=29) (d:=some 42) rfl ?_;refine aa (i:=30) (d:=some 43) rfl ?_;refine aB (i:=31) (d:=some 44) rfl (by(intro wq hq;have z1:=Ct.out wq hq;have z3:=YF.out wq hq;go_simp;first| done| with_reducible rfl)) ?_;refine aa (i:=32) (d:=some 45) rfl ?_;refine aa (i:=33) (d:=some 46) rfl ?_;refine aa (i:=34) (d:=some 47) rfl ?_;refine aA Aq (by kernel_rfl) ?_ _;go_wp2;go_roundw
        case rel=>
         refine⟨k+1,by omega,by go_num,fun j hj=> ?_,Aq⟩
         by_cases e:j=k
         ·subst e;refine⟨RU.out,fun _=> ?_⟩;rw[show j - 1=m by have:=HKM.out;omega,HY1.out,HX1.out];exact HLK.out
         ·exact HG.out j (by omega)
        case measure=>simp[intOf];omega
       | false=>
        rw[zY]at zy;have HF:Hid (di l=false):=uO (j:=k) (by omega) GU.out (by rw[show k - 1=m by have:=HKM.out;omega,HY1.out,HX1.out];exact zY);clear zY;go_wp2;refine aD (by kernel_rfl) (fun w'=>Below w.heap.size w w') ?_;change wpIn _ _ _ _ _ _ _ _ (World.drew _);refine aa (i:=0) (d:=some 13) rfl ?_;refine aa (i:=1) (d:=some 14) rfl ?_;refine aa (i:=2) (d:=some 15) rfl ?_;refine aa (i:=3) (d:=some 16) rfl ?_;refine aB (i:=4) (d:=some 17) rfl (by(intro wq hq;have z1:=Ct.out wq hq;have z2:=GR.out wq hq;go_simp;first| done| with_reducible rfl)) ?_;refine ak (i:=5) oK rfl ?_;intro K hK;go_simp;go_wp2_with(go_at_call 92;refine hS.mono ?_;rintro e w1 ⟨rfl,rfl⟩);refine aa (i:=6) (d:=some 19) rfl ?_;refine aa (i:=7) (d:=some 20) rfl ?_;refine aa (i:=8) (d:=some 21) rfl ?_;refine aa (i:=9) (d:=some 22) rfl ?_;refine aa (i:=10) (d:=some 23) rfl ?_;refine aa (i:=11) (d:=some 24) rfl ?_;refine aB (i:=12) (d:=some 25) rfl (by(intro wq hq;have z1:=Ct.out wq hq;have z2:=GR.out wq hq;go_simp;first| done| with_reducible rfl)) ?_;refine aB (i:=13) (d:=some 26) rfl (by(intro wq hq;have Y4:¬9223372036854775807<1+x2.size:=(by omega);go_simp;first| done| with_reducible rfl)) ?_;refine ak (i:=14) oK rfl ?_;intro K hK;go_simp;go_wp2_with(go_at_call 52;refine(hD _).mono ?_;rintro e w2 ⟨rfl,bM⟩;have Aq:=oK.trans (bM.mono oK.size));refine aa (i:=15) (d:=some 28) rfl ?_;refine aa (i:=16) (d:=some 29) rfl ?_;refine aa (i:=17) (d:=some 30) rfl ?_;refine aa (i:=18) (d:=some 31) rfl ?_;refine aa (i:=19) (d:=some 32) rfl ?_;refine aa (i:=20) (d:=some 33) rfl ?_;refine aa (i:=21) (d:=some 34) rfl ?_;refine aa (i:=22) (d:=some 35) rfl ?_;refine aa (i:=23) (d:=some 36) rfl ?_;refine aa (i:=24) (d:=some 37) rfl ?_;refine aa (i:=25) (d:=some 38) rfl ?_;refine aB (i:=26) (d:=some 39) rfl (by(intro wq hq;have z1:=Ct.out wq hq;have z3:=YF.out wq hq;go_simp;first| done| with_reducible rfl)) ?_;refine aa (i:=27) (d:=some 40) rfl ?_;refine aa (i:=28) (d:=some 41) rfl ?_;refine aa (i:=29) (d:=some 42) rfl ?_;refine aa (i:=30) (d:=some 43) rfl ?_;refine aB (i:=31) (d:=some 44) rfl (by(intro wq hq;have z1:=Ct.out wq hq;have z3:=YF.out wq hq;go_simp;first| done| with_reducible rfl)) ?_;refine aa (i:=32) (d:=some 45) rfl ?_;refine aa (i:=33) (d:=some 46) rfl ?_;refine aa (i:=34) (d:=some 47) rfl ?_;refine aA Aq (by kernel_rfl) ?_ _;go_wp2;go_ret;exact⟨av HF.out.symm,Aq⟩
   ·obtain rfl:k=l.length:=by omega
    have HF:Hid (di l=true):=yu HL4.out HG.out;go_wp2;go_ret;exact⟨av HF.out.symm,hb⟩
 ·have HF:Hid (di l=false):=by
    show _=_
    unfold di;rw[decide_eq_false h4,Bool.false_and,Bool.false_and]
  go_enter Tryz.func51,Tryz.ntmps51;go_wp2;go_ret;exact⟨av HF.out.symm,Below.refl _ _⟩
section
variable {P : Program} {eH : Array Oper} {Q : Exit -> Act -> World -> Prop} {md : Region.Mode} {C : World -> Prop}
theorem aW{i j:Nat}{o u:Oper}{n:Nat}{listed:Array Bool}{a:Act}{w:World}(hC:C w)(hr:Region.ready md eH listed= [i,j])(hi:eH[i]?=some o)(hj:eH[j]?=some u)
    (hw:Region.wanted o (yielded eH a.tmps)=true) (hv:Region.wanted u (yielded eH a.tmps)=true)
    (h:∀K':Act->World->Prop,(∀a w,wpIn P md eH Q C n (listed.setIfInBounds i true) a w->K' a w)->Oper.wp P o a w K' Q)
    (h':∀K':Act->World->Prop,(∀a w,wpIn P md eH Q C n (listed.setIfInBounds j true) a w->K' a w)->Oper.wp P u a w K' Q):wpIn P md eH Q C (n+1) listed a w:=by
 refine⟨hC,fun h0=>(by rw[hr]at h0;cases h0),fun m hm=> ?_⟩;rw[hr]at hm;unfold wpOp
 rcases List.mem_cons.1 hm with rfl| hm
 ·rw[hi];simp only;rw[if_pos hw];exact .inl (h _ fun _ _ h'=>h')
 ·rw[List.mem_singleton.1 hm,hj];simp only;rw[if_pos hv];exact .inl (h' _ fun _ _ h'=>h')
end
theorem aP{w:World}{o:Oper}{a:Act}{K:Act->World->Prop}{Q:Exit->Act->World->Prop}(s x:Operand)(t:TypeId)
    (ho:o.op=.call {callee:=.builtin .append,args:=#[s,x],argTypes:=#[t,t]})
    (base:Nat) (e:TypeId) (z:Value) (size bytes:Nat) (ht:Tryz.prog.underlying t=some (.slice e)) (sw:(Tryz.prog.info? e).map (fun i=>(i.zero,i.size,i.bytes))=some (some z,size,bytes))
    (Zx:z.cells.size=size) (fI:0<size) (FY:bytes<=100)
    (v:Value) (n:Nat) (xs:List Value) (hs:a.eval s=v) (aT:w.ownsRow base e size v n xs)
    (ad:Addr) (news:List Value) (hx:a.eval x=.slice (some ad) 1 1) (hl:news.length=size) (rG:∀j u,news[j]?=some u->w.cell? (ad.add j)=some u) (h1:∀u∈news,u.oneCell'=true)
    (hn:n<=1000000) (rH:base<=w.heap.size)
    (h:∀v' w',w'.ownsRow base e size v' (n+1) (xs++news)->w.grownBy w' v.ownBlock->(v'.ownBlock=v.ownBlock\/ v'.ownBlock=some w.heap.size)->K (a.put o.dst v') w'):o.wp Tryz.prog a w K Q:=by
 obtain⟨i0,hi,vZ,yo,zq⟩:=info_parts sw;have rJ:(n+1)*bytes<=140737488355328:=by
  have:(n+1)*bytes<=(n+1)*100:=Nat.mul_le_mul_left _ FY;omega
 obtain⟨v',w',hr,h2,h3,h4,h5⟩:=run_append_own_at (P:=Tryz.prog) w base t o.type e i0 z size bytes ht hi vZ yo zq Zx fI v n xs aT ad 1 1 news (by rw[hl,Nat.one_mul]) rG h1 (by unfold maxLen;omega) rJ rH;unfold Oper.wp execOp;simp only[ho,resolve,invoke,builtin,Sem.run_bind,Sem.run_pure,Result.andThen_ok,List.map_toArray,List.map_cons,List.map_nil,hs,hx,hr];exact h v' w' h2 h3 h5
theorem Tryz.jZ:(Tryz.prog.info? 9).map (fun i=>(i.zero,i.size,i.bytes))=some (some (.string ⟨#[]⟩),1,16):=by kernel_rfl
theorem Tryz.dR:(Tryz.prog.info? 25).map (fun i=>(i.zero,i.size,i.bytes))=some (some (.agg #[.int .i64 0,.int .i64 0,.string ⟨#[]⟩,.slice none 0 0,.slice none 0 0]),5,80):=by kernel_rfl
theorem jT.below{O:Nat->Prop}{w w':World}{p:Option Addr}{c:Nat}{ks:List ByteArray}(h:jT O w p c ks)(hO:∀k,O k->k<w.heap.size)(hb:Below w.heap.size w w'):jT O w' p c ks:=
 h.carry fun k hk=>⟨hk,hb.block k (hO k hk)⟩
theorem mG{O:Nat->Prop}{w:World}{j:J}{cs:List Value}(h:isJ O w j cs):∀u∈cs,u.oneCell'=true:=by
 cases j
 unfold isJ at h;obtain⟨_,_,_,_,rfl,_⟩:=h;intro u hu;simp at hu
 rcases hu with rfl| rfl| rfl| rfl| rfl<;>rfl
theorem o5{w:World}{B:Nat}{v:Value}{S:List ByteArray}(h:w.ownsRow B 9 1 v S.length (S.map Value.string)):∃q cq,v=.slice q S.length cq/\jT (fun k=>B<=k/\k<w.heap.size) w q cq S:=by
 rcases h.2 with⟨rfl,hn⟩| ⟨g,cap,cur,rfl,hg,xn,h1,h2,h3,h4⟩
 ·obtain rfl:S= []:=List.eq_nil_of_length_eq_zero hn;exact⟨none,0,rfl,jT.nil _ _⟩
 ·refine⟨_,cap,rfl,⟨h1,fun j hj=>⟨_,rfl,⟨hg,(Array.getElem?_eq_some_iff.1 xn).1⟩, ?_⟩⟩⟩;have:=h.cells (g:=g) rfl j (.string (S.getD j aH)) (by rw[List.getElem?_map,List.getD_eq_getElem?_getD,List.getElem?_eq_getElem hj];rfl);exact this
theorem qV{O:Nat->Prop}{w:World}{B:Nat}{v:Value}{l:List J}{xs:List Value}(h:w.ownsRow B 25 5 v l.length xs)(hr:isRow O w l xs):∃q cq,v=.slice q l.length cq/\l.length<=cq/\isJs (fun k=>O k\/ (B<=k/\k<w.heap.size)) w q 0 l:=by
 rcases h.2 with⟨rfl,hn⟩| ⟨g,cap,cur,rfl,hg,xn,h1,h2,h3,h4⟩
 ·obtain rfl:l= []:=List.eq_nil_of_length_eq_zero hn;exact⟨none,0,rfl,Nat.le_refl _,by unfold isJs;trivial⟩
 ·refine⟨_,cap,rfl,h1, ?_⟩;refine isRow.isJs (O:=fun k=>O k\/ (B<=k/\k<w.heap.size)) (.inr ⟨hg,(Array.getElem?_eq_some_iff.1 xn).1⟩) l xs 0 (hr.carry fun k hk=>⟨.inl hk,rfl⟩) fun i u hi=> ?_;have hc:cur[i]?=some u:=by
   rw[<-h4]at hi;rw[List.getElem?_take]at hi
   split at hi
   ·simpa using hi
   ·cases hi
  rw[Nat.zero_mul,Nat.add_zero,Nat.zero_add];simp only[World.cell?,xn];exact hc
structure MI(O:Nat->Prop)(wB:World)(b:Nat)(Sk:List ByteArray)(Sv:List J)(vk vl:Value)(wr:World):Prop where
 obj:wr.heap[b+1]?=some (.cells #[.int .i64 5,.int .i64 0,.string ⟨#[]⟩,vk,vl] 25 (0,0))
 res:wr.heap[b]?=some (.cells #[.int .i64 0,.int .i64 0,.string ⟨#[]⟩,.slice none 0 0,.slice none 0 0] 25 (0,0))
 keys:wr.ownsRow wB.heap.size 9 1 vk Sk.length (Sk.map Value.string)
 dS:∃xs,wr.ownsRow wB.heap.size 25 5 vl Sv.length xs/\isRow O wr Sv xs
 ne:∀i,vk.ownBlock=some i->vl.ownBlock≠some i
 bf:aj (One (b+1)) wB wr
 lt:b+1<wB.heap.size
 low:∀k,O k->k<b
section
variable {O : Nat -> Prop} {wB W W2 : World} {b : Nat} {Sk : List ByteArray} {Sv : List J} {vk vl j_ il : Value}
theorem MI.drew(h:MI O wB b Sk Sv vk vl W):MI O wB b Sk Sv vk vl W.drew:=⟨h.obj,h.res,h.keys,by
 obtain⟨xs,h1,h2⟩:=h.dS;exact⟨xs,h1,isRow.carry (w:=W) (w':=W.drew) (fun k hk=>⟨hk,rfl⟩) Sv xs h2⟩,h.ne,h.bf.drew,h.lt,h.low⟩
theorem MI.c3(h:MI O wB b Sk Sv vk vl W):W.cell? ⟨b+1,3,none⟩=some vk:=fK h.obj
theorem MI.c4(h:MI O wB b Sk Sv vk vl W):W.cell? ⟨b+1,4,none⟩=some vl:=bA h.obj
theorem MI.size(h:MI O wB b Sk Sv vk vl W):wB.heap.size<=W.heap.size:=h.bf.size
theorem bP{o:Obj}{row:Option Nat}{k:Nat}(hg:(W.alloc o).grownBy W2 row)(hk:k<W.heap.size)(hr:row≠some k):W2.heap[k]?=W.heap[k]?:=by
 rw[hg.block k (by simp;omega) (fun e=>hr e.symm),Below.heap_alloc W o k hk]
theorem MI.key(h:MI O wB b Sk Sv vk vl W){x:ByteArray}{o:Obj}(aT:W2.ownsRow wB.heap.size 9 1 j_ (Sk.length+1) (Sk.map Value.string++ [.string x]))(hg:(W.alloc o).grownBy W2 vk.ownBlock)(jB:j_.ownBlock=vk.ownBlock\/ j_.ownBlock=some (W.alloc o).heap.size):
    W2.cell? ⟨b+1,3,none⟩=some vk/\W2.frozen? ⟨b+1,3,none⟩=false/\MI O wB b (Sk++ [x]) Sv j_ vl (W2.setCell ⟨b+1,3,none⟩ j_):=by
 have fI:=h.size;have bJ:=h.lt;have qW:=aM h.keys;obtain⟨xs,bW,eZ⟩:=h.dS;have o6:=aM bW;have ob:W2.heap[b+1]?=some (.cells #[.int .i64 5,.int .i64 0,.string ⟨#[]⟩,vk,vl] 25 (0,0)):=by
  rw[bP hg (by omega) (fun e=>by have:=qW _ e;omega)];exact h.obj
 have rs:W2.heap[b]?=some (.cells #[.int .i64 0,.int .i64 0,.string ⟨#[]⟩,.slice none 0 0,.slice none 0 0] 25 (0,0)):=by
  rw[bP hg (by omega) (fun e=>by have:=qW _ e;omega)];exact h.res
 have K3:aj (One (b+1)) W2 (W2.setCell ⟨b+1,3,none⟩ j_):=aj.setCell (aj.refl _ _) (fun _=>(rfl:b+1=b+1)) _;have RZ:=aM aT;refine⟨fK ob,iI ob 3,⟨?_, ?_, ?_,⟨xs, ?_, ?_⟩, ?_, ?_,bJ,h.low⟩⟩
 ·rw[heap_setCell_same _ (b+1) 3 _ _ _ ob];rfl
 ·rw[K3.block b (by have:=(Array.getElem?_eq_some_iff.1 rs).1;omega) (by unfold One;omega)];exact rs
 ·rw[List.length_append,List.map_append];exact bz aT K3 fun k e=>by have:=RZ k e;unfold One;omega
 ·refine bz (bz (bW.alloc o) (S:=fun k=>vk.ownBlock=some k) (aj.dm hg fun _ _ e=>e) fun k e e'=>h.ne k e' e) K3 fun k e=>by have:=o6 k e;unfold One;omega
 ·refine eZ.carry fun k hk=>⟨hk, ?_⟩;have:=h.low k hk;rw[K3.block k (by have:=hg.size;simp at this;omega) (by unfold One;omega),bP hg (by omega) (fun e=>by have:=qW _ e;omega)]
 ·intro i e e'
  rcases jB with h1| h1
  ·exact h.ne i (h1 ▸ e) e'
  ·rw[h1]at e;have h2:=(o6 i e').2;have h3:(W.alloc o).heap.size=i:=Option.some.inj e;simp at h3;omega
 ·have k1:aj (One (b+1)) wB (W.alloc o):=h.bf.alloc o;exact(k1.grown hg fun k e=>(qW k e).1).then K3
theorem MI.val(h:MI O wB b Sk Sv vk vl W){y:J}{cs xs:List Value}{o:Obj}(bW:W.ownsRow wB.heap.size 25 5 vl Sv.length xs)(eZ:isRow O W Sv xs)(hy:isJ O W y cs)(aT:W2.ownsRow wB.heap.size 25 5 il (Sv.length+1) (xs++cs))(hg:(W.alloc o).grownBy W2 vl.ownBlock)(jB:il.ownBlock=vl.ownBlock\/ il.ownBlock=some (W.alloc o).heap.size):
    W2.cell? ⟨b+1,4,none⟩=some vl/\W2.frozen? ⟨b+1,4,none⟩=false/\MI O wB b Sk (Sv++ [y]) vk il (W2.setCell ⟨b+1,4,none⟩ il):=by
 have fI:=h.size;have bJ:=h.lt;have qW:=aM h.keys;have o6:=aM bW;have ob:W2.heap[b+1]?=some (.cells #[.int .i64 5,.int .i64 0,.string ⟨#[]⟩,vk,vl] 25 (0,0)):=by
  rw[bP hg (by omega) (fun e=>by have:=o6 _ e;omega)];exact h.obj
 have rs:W2.heap[b]?=some (.cells #[.int .i64 0,.int .i64 0,.string ⟨#[]⟩,.slice none 0 0,.slice none 0 0] 25 (0,0)):=by
  rw[bP hg (by omega) (fun e=>by have:=o6 _ e;omega)];exact h.res
 have K3:aj (One (b+1)) W2 (W2.setCell ⟨b+1,4,none⟩ il):=aj.setCell (aj.refl _ _) (fun _=>(rfl:b+1=b+1)) _;have Pk:=aM aT;have carry:∀k,O k->O k/\(W2.setCell ⟨b+1,4,none⟩ il).heap[k]?=W.heap[k]?:=fun k hk=>by
  have:=h.low k hk;exact⟨hk,by rw[K3.block k (by have:=hg.size;simp at this;omega) (by unfold One;omega),bP hg (by omega) (fun e=>by have:=o6 _ e;omega)]⟩
 refine⟨bA ob,iI ob 4,⟨?_, ?_, ?_,⟨xs++cs, ?_, ?_⟩, ?_, ?_,bJ,h.low⟩⟩
 ·rw[heap_setCell_same _ (b+1) 4 _ _ _ ob];rfl
 ·rw[K3.block b (by have:=(Array.getElem?_eq_some_iff.1 rs).1;omega) (by unfold One;omega)];exact rs
 ·exact bz (bz (h.keys.alloc o) (S:=fun k=>vl.ownBlock=some k) (aj.dm hg fun _ _ e=>e) fun k e e'=>h.ne k e e') K3 fun k e=>by have:=qW k e;unfold One;omega
 ·rw[List.length_append];exact bz aT K3 fun k e=>by have:=Pk k e;unfold One;omega
 ·exact isRow.snoc hy.pO (hy.carry carry) Sv xs (eZ.carry carry)
 ·intro i e e'
  rcases jB with h1| h1
  ·exact h.ne i e (h1 ▸ e')
  ·rw[h1]at e';have h2:=(qW i e).2;have h3:(W.alloc o).heap.size=i:=Option.some.inj e';simp at h3;omega
 ·have k1:aj (One (b+1)) wB (W.alloc o):=h.bf.alloc o;exact(k1.grown hg fun k e=>(o6 k e).1).then K3
end
theorem VJ{O:Nat->Prop}{w wB wr W5:World}{q1 q2:Option Addr}{c1 c2:Nat}{ks:List ByteArray}{l:List J}(hO:∀k,O k->k<w.heap.size)(cK:Below w.heap.size w wB)(sG:aj (One (w.heap.size+1)) wB wr)(aX:aj (One w.heap.size) wr W5)
    (lM:jT (fun k=>wB.heap.size<=k/\k<wr.heap.size) wr q1 c1 ks) (Pm:isJs (fun k=>O k\/ (wB.heap.size<=k/\k<wr.heap.size)) wr q2 0 l) (hc:l.length<=c2) (fI:w.heap.size+2<=wB.heap.size):
    isJ (fun k=>O k\/ fB w W5 k) W5 (.mk 5 0 aH ks l) [.int .i64 5,.int .i64 0,.string aH,.slice q1 ks.length c1,.slice q2 l.length c2]/\Below w.heap.size w W5:=by
 have s1:=sG.size;have s2:=aX.size;have carry:∀i,(O i\/ (wB.heap.size<=i/\i<wr.heap.size))->(O i\/ fB w W5 i)/\W5.heap[i]?=wr.heap[i]?:=by
  intro i hi
  rcases hi with hi| hi
  ·have:=hO i hi;exact⟨.inl hi,aX.block i (by omega) (by unfold One;omega)⟩
  ·exact⟨.inr ⟨by omega,by omega⟩,aX.block i (by omega) (by unfold One;omega)⟩
 refine⟨?_, ?_⟩
 ·unfold isJ;exact⟨q1,c1,q2,c2,rfl,lM.carry fun i hi=>carry i (.inr hi),hc,Pm.carry carry⟩
 ·exact(cK.trans (sG.below (by omega) fun k hk=>by unfold One;omega)).trans (aX.below (by omega) fun k hk=>by unfold One;omega)
end Go.Proofs.YtegcgbjjpgjnmaaGreatDoor

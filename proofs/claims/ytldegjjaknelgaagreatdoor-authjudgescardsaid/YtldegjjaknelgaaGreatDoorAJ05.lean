/- A part. -/
import Derived.Test.YtldegjjaknelgaaGreatDoorAJ04
import Derived.Maps.AppendAt
import Derived.Maps.OwnSet
set_option maxRecDepth 100000
set_option maxHeartbeats 64000000
namespace Go.Proofs.YtldegjjaknelgaaGreatDoor
open Go.RowKit Go.Lib Go.Sort
theorem EL:∀x y:List UInt8,decide (Lib.compareBytes x y<0)=lessB x y
 | [], []=>rfl
 | [],_::_=>rfl
 | _::_, []=>rfl
 | a::x,b::y=>by
  unfold Lib.compareBytes lessB
  by_cases h1:a<b
  ·simp[h1]
  ·by_cases h2:b<a
   ·have h3:¬a=b:=fun h=>by subst h;exact h1 h2
    simp[h1,h2,h3]
   ·have h3:a=b:=Classical.byContradiction fun h=>(UInt8.lt_or_lt_of_ne h).elim h1 h2;rw[if_neg h1,if_neg h2,EL x y];simp[h3]
def aF(ks:List ByteArray)(i:Nat):ByteArray:=ks.getD i aT
theorem Iy{O:Nat->Prop}{ks:List ByteArray}{p:Option Addr}{c Bx:Nat}{W:World}(iK:jP O W p c ks)(Eh:W.cell? ⟨Bx,0,none⟩=some (.slice p ks.length c))(a b:Nat)(ha:a<ks.length)(hb:b<ks.length):
    Calls Tryz.prog 182 #[.int .i64 a,.int .i64 b,.pointer (some ⟨Bx,0,none⟩)] W fun e w'=>e=.returned (.int .i64 (Lib.compareBytes (aF ks a).data.toList (aF ks b).data.toList))/\∃q,w'=W.drewN q:=by
 obtain⟨ad,rfl,_,y_⟩:=iK.2 a ha;obtain⟨ad',he,_,Eg⟩:=iK.2 b hb
 cases he
 change W.cell? (ad.add a)=some (.string (aF ks a))at y_;change W.cell? (ad.add b)=some (.string (aF ks b))at Eg;have UN:=fun wx:World=>Tryz.strings_Compare (aF ks a) (aF ks b) wx;generalize Lib.compareBytes (aF ks a).data.toList (aF ks b).data.toList=r at UN ⊢;generalize aF ks a=x at*;generalize aF ks b=y at*;go_enter Tryz.func182,Tryz.ntmps182;go_wp2;go_quiet (first| (go_at_call 183;exact Calls.quiet_of_same (UN _)));go_wp2;go_ret;exact⟨rfl,nq,rfl⟩
theorem BH{α:Type} [Inhabited α](enc:α->Value)(w:World)(g m:Nat)(d:Array α)(os:Array Obj):ay (fun k=>k=g) w (sortWorld enc w g 0 m d os):=by
 refine⟨rfl,rfl,rfl, ?_,fun k hk hn=> ?_⟩
 ·unfold sortWorld grow putRow mapBlock Sort.ahead;simp
 ·unfold sortWorld;rw[heap_grow_old _ _ (by unfold putRow mapBlock Sort.ahead;simpa using hk)];unfold putRow mapBlock Sort.ahead;simp only[Array.getElem?_modify];rw[if_neg (fun h=>hn h.symm)]
def xi(m:Nat)(x:Fin (m+1)):Value:=.int .i64 (x.val:Int)
def cfK(ks:List ByteArray)(m:Nat)(x y:Fin (m+1)):Int:=Lib.compareBytes (aF ks x.val).data.toList (aF ks y.val).data.toList
theorem CP(ks:List ByteArray)(m:Nat)(x y:Fin (m+1)):ltOf (cfK ks m) x y=jB (aF ks x.val) (aF ks y.val):=EL _ _
theorem Iz{a b c:ByteArray}(h:jB a b=false)(h':jB b c=false):jB a c=false:=by
 cases hac:jB a c with
 | false=>rfl
 | true=>
  by_cases jQ:a=b
  ·subst jQ;rw[h']at hac;cases hac
  ·rcases nA jQ with h1| h1
   ·rw[h1]at h;cases h
   ·have:=jh h1 hac;rw[h']at this;cases this
theorem zgl(ks:List ByteArray)(m:Nat):SWO (ltOf (cfK ks m)) where
 irrefl x:=by rw[CP];exact lL _
 trans x y z h1 h2:=by rw[CP]at*;exact jh h1 h2
 ntrans x y z h1 h2:=by rw[CP]at*;exact Iz h1 h2
def jc(w:World)(g:Nat)(L:List Nat)(ks:List ByteArray):Prop:=
 L.Perm (List.range ks.length)/\(∀i j,i<j->j<L.length->jB (aF ks (L.getD j 0)) (aF ks (L.getD i 0))=false)/\∀j,j<L.length->w.cell? ⟨g,j,none⟩=some (.int .i64 ((L.getD j 0:Nat):Int))
def rJ(k n:Nat):Array Value:=((List.range n).map fun i=>Value.int .i64 ((if i<k then i else 0:Nat):Int)).toArray
theorem qb(k n i:Nat)(h:i<n):(rJ k n)[i]?=some (.int .i64 ((if i<k then i else 0:Nat):Int)):=by
 unfold rJ;simp[h]
theorem NL(k n:Nat)(h:k<n):(rJ k n).setIfInBounds k (.int .i64 (k:Int))=rJ (k+1) n:=by
 apply Array.ext_getElem?
 intro i;rw[Array.getElem?_setIfInBounds]
 by_cases hi:k=i
 ·subst hi;rw[if_pos rfl,if_pos (by unfold rJ;simpa using h),qb _ _ _ h,if_pos (by omega)]
 ·rw[if_neg hi]
  by_cases hn:i<n
  ·rw[qb _ _ _ hn,qb _ _ _ hn]
   by_cases h1:i<k
   ·rw[if_pos h1,if_pos (by omega)]
   ·rw[if_neg h1,if_neg (by omega)]
  ·unfold rJ;rw[List.getElem?_toArray,List.getElem?_toArray,List.getElem?_eq_none (by simp;omega),List.getElem?_eq_none (by simp;omega)]
def rD(m:Nat):Array (Fin (m+1)):=(List.finRange (m+1)).toArray
theorem nG(m:Nat):(rD m).size=m+1:=by unfold rD;simp
theorem UO(m j:Nat)(h:j<m+1):(rD m)[j]! =⟨j,h⟩:=by
 unfold rD;rw[getElem!_pos _ j (by simpa using h)];simp
theorem Tryz.Mq:(Tryz.prog.info? 3).map (fun i=>(i.zero,i.size,i.bytes))=some (some (.int .i64 0),1,8):=by kernel_rfl
theorem NM{m:Nat}{ks:List ByteArray}(hm:ks.length=m+1){d':Array (Fin (m+1))}(hp:PermIn 0 (rD m).size (rD m) d')(hs:SortedIn (ltOf (cfK ks m)) 0 (rD m).size d'){w:World}{g:Nat}(hH:Holds (xi m) w g 0 d'):
    jc w g (d'.toList.map (·.val)) ks:=by
 obtain⟨h1,_,h3⟩:=hp;have fK:d'.size=m+1:=by rw[h1,nG]
 have e1:(d'.extract 0 (rD m).size).toList=d'.toList:=by rw[<-h1,Array.extract_size]
 have e2:((rD m).extract 0 (rD m).size).toList=List.finRange (m+1):=by rw[Array.extract_size];unfold rD;simp
 rw[e1,e2]at h3;have x9:∀j,j<m+1->(d'.toList.map (·.val)).getD j 0=d'[j]!.val:=by
  intro j hj;rw[List.getD_eq_getElem?_getD,List.getElem?_map,List.getElem?_eq_getElem (by simpa [fK]using hj),getElem!_pos d' j (by omega)];simp
 refine⟨?_,fun i j hij hj=> ?_,fun j hj=> ?_⟩
 ·have:=h3.map (fun x:Fin (m+1)=>x.val);have e3:(List.finRange (m+1)).map (fun x:Fin (m+1)=>x.val)=List.range (m+1):=by
   apply List.ext_getElem
   ·simp
   ·intro n h1 h2;simp
  rw[e3]at this;rw[hm];exact this
 ·have Ie:j<m+1:=by simpa [fK]using hj
  rw[x9 j Ie,x9 i (by omega)];have:=hs i j (Nat.zero_le _) hij (by rw[nG];exact Ie);rw[CP]at this;exact this
 ·have Ie:j<m+1:=by simpa [fK]using hj
  have:=(hH j (by omega)).1;rw[Nat.zero_add]at this;rw[this,x9 j Ie]
  rfl
theorem yw{w:World}{B e g n:Nat}{xs:List Value}(h:w.ownsRow B e 1 (.slice (some ⟨g,0,none⟩) n n) n xs):w.heap[g]?=some (.cells xs.toArray e (0,0)):=by
 rcases h.2 with⟨h',_⟩| ⟨g',cap,cur,he,hg,yK,h1,h2,h3,h4⟩
 ·cases h'
 ·cases he
  rw[yK];have e:xs=cur.toList:=by rw[<-h4,List.take_of_length_le (by simp;omega)]
  rw[e]
theorem IA(n:Nat):(madeCells #[Value.int .i64 0] n).toList.toArray=rJ 0 n:=by
 rw[toList_madeCells_one];unfold rJ
 congr 1
 apply List.ext_getElem
 ·simp
 ·intro i h1 h2;simp
theorem zgm:∀args w,(callFunc 182 args).run Tryz.prog w=.ok (.enter 182 args) w:=enters_of Tryz.func182 (by kernel_rfl) rfl
theorem EM{O:Nat->Prop}{ks:List ByteArray}{p:Option Addr}{c m:Nat}{w:World}(iK:jP O w p c ks)(hO:∀k,O k->k<w.heap.size)(hm:ks.length=m+1)(hl:ks.length<=1000000):
    Calls Tryz.prog 165 #[.slice p ks.length c] w fun e w'=>∃g L,e=.returned (.slice (some ⟨g,0,none⟩) ks.length ks.length)/\jc w' g L ks/\w.heap.size<=g/\g<w'.heap.size/\Below w.heap.size w w':=by
 obtain⟨i0,hi,rC,pR,nC⟩:=info_parts Tryz.Mq;have HM:Hid (ks.length=m+1):=hm;clear hm;have Eh:(w.alloc (.cells #[.slice p ks.length c] 22)).cell? ⟨w.heap.size,0,none⟩=some (.slice p ks.length c):=bB (cur:= [_]) (heap_alloc_new _ _) 0 _ rfl;have cK:Below w.heap.size w (w.alloc (.cells #[.slice p ks.length c] 22)):=(Below.refl _ _).alloc (Nat.le_refl _) _;go_enter Tryz.func165,Tryz.ntmps165;go_wp2_with(first
  | (at_make;refine wpList_make_full _ rfl _ _ 121 rfl (w.heap.size+1) 3 i0 (.int .i64 0) 1 Tryz.underlying121 hi rC pR _ _ _ _ ks.length rfl rfl rfl rfl ?b2 ?b3 ?b4 ?_))
 case b2=>rw[nC];omega
 case b3=>unfold maxLen;omega
 case b4=>simp
 intro w1 aN mE;have EN:(w.alloc (.cells #[.slice p ks.length c] 22)).heap.size=w.heap.size+1:=by simp
 have kC:=yw aN;rw[IA]at kC;have aL:RowKit.Below (w.heap.size+1) (w.alloc (.cells #[.slice p ks.length c] 22)) w1:=(RowKit.Below.refl _ _).grown mE (by rw[EN];exact Nat.le_refl _) (by simp);clear aN mE;go_wp2
 go_loopw [10] (fun i wr=>∃k:Nat,i=.int .i64 k/\k<=ks.length/\wr.heap[w.heap.size+1]?=some (.cells (rJ k ks.length) 3 (0,0))/\RowKit.Below (w.heap.size+1) (w.alloc (.cells #[.slice p ks.length c] 22)) wr) (fun i _=>ks.length - (intOf i).toNat)
 case atStart=>exact⟨0,rfl,Nat.zero_le _,kC,aL⟩
 case round=>
  clear kC aL;obtain⟨k,rfl,hk,kC,hb⟩:=hrel
  by_cases bQ:k<ks.length
  ·have gu:wr.cell? ⟨w.heap.size+1,k,none⟩=some (.int .i64 ((if k<k then k else 0:Nat):Int)):=by
     simp only[World.cell?,kC];exact qb k ks.length k bQ
   have hfz:wr.frozen? ⟨w.heap.size+1,k,none⟩=false:=frozen_of_row wr _ k _ _ kC;have Qv:Hid ((wr.setCell ⟨w.heap.size+1,k,none⟩ (.int .i64 (k:Int))).heap[w.heap.size+1]?=some (.cells (rJ (k+1) ks.length) 3 (0,0))):=by
    rw[heap_setCell_same wr _ k _ _ _ kC,NL k _ bQ];rfl
   have HB:=hb.setCell (p:=⟨w.heap.size+1,k,none⟩) (Nat.le_refl _) (.int .i64 (k:Int));go_wp2;go_roundw
   case rel=>exact⟨k+1,by go_num,bQ,Qv.out,HB⟩
   case measure=>simp[intOf];omega
  ·obtain rfl:k=ks.length:=by omega
   have hm:=HM.out;have fK:=hb.size;rw[EN]at fK;have UQ:w.heap.size+1<wr.heap.size:=(Array.getElem?_eq_some_iff.1 kC).1;have hH:Holds (xi m) wr (w.heap.size+1) 0 (rD m):=by
    intro j hj;rw[nG]at hj;rw[Nat.zero_add];refine⟨?_,frozen_of_row wr _ j _ _ kC⟩;have hfc:=qb ks.length ks.length j (by omega);rw[if_pos (show j<ks.length by omega)]at hfc;rw[UO m j hj];simp only[World.cell?,kC];exact hfc
   have dM:RowKit.Below w.heap.size w wr:=((RowKit.Below.refl _ _).alloc (Nat.le_refl _) _).trans (hb.mono (by omega));have UM:CmpReads Tryz.prog 182 #[.pointer (some ⟨w.heap.size,0,none⟩)] (xi m) (cfK ks m) (w.heap.size+1) 0 (rD m).size wr:=by
    intro n os dk hdk x y;have sG:=BH (xi m) wr (w.heap.size+1) n dk os;have zgn:(sortWorld (xi m) wr (w.heap.size+1) 0 n dk os).cell? ⟨w.heap.size,0,none⟩=some (.slice p ks.length c):=by
     rw[sG.cell (p:=⟨w.heap.size,0,none⟩) (by simp only;omega) (by simp only;omega),hb.cell (p:=⟨w.heap.size,0,none⟩) (by simp only;omega)];exact Eh
    have CQ:jP O (sortWorld (xi m) wr (w.heap.size+1) 0 n dk os) p c ks:=iK.carry fun k hk=>⟨hk,by
     have eQ:=hO k hk;rw[sG.block k (by omega) (by omega),dM.block k eQ]⟩
    exact Iy CQ zgn x.val y.val (by omega) (by omega)
   have UN:Calls Tryz.prog 181 #[.slice (some ⟨w.heap.size+1,0,none⟩) ks.length ks.length,.func (.func 182) #[] #[.pointer (some ⟨w.heap.size,0,none⟩)]] wr fun e w'=>e=.returned (.tuple #[])/\(∃L,jc w' (w.heap.size+1) L ks)/\ay (fun k=>k=w.heap.size+1) wr w':=by
    have zgo:(Value.slice (some ⟨w.heap.size+1,0,none⟩) ks.length ks.length)=Value.slice (some ⟨w.heap.size+1,0,none⟩) (rD m).size ks.length:=by rw[nG,hm]
    rw[zgo];refine(Tryz.slices_SortFunc (xi m) (fun _=>rfl) (cfK ks m) (zgl ks m) 182 #[.pointer (some ⟨w.heap.size,0,none⟩)] (w.heap.size+1) 0 ks.length (rD m) wr zgm UM.lays hH UQ (by rw[nG];omega)).mono fun e w' ⟨h1,d',n,os,hp,hs,hw⟩=> ?_;subst hw;exact⟨h1,⟨_,NM hm hp hs (holds_sortWorld (xi m) wr (w.heap.size+1) 0 n (rD m) d' os UQ hH hp.1)⟩,BH _ _ _ _ _ _⟩
   clear hm UM hH kC;go_wp2_with(first
    | (go_at_call 181;refine UN.mono ?_;rintro e w2 ⟨rfl,⟨L,hL⟩,rM⟩))
   go_ret;refine⟨w.heap.size+1,L,rfl,hL,by omega,by have:=rM.size;omega, ?_⟩;exact dM.trans (rM.below (by omega) fun k hk=>by omega)
theorem EO(p:Option Addr)(c:Nat)(w:World):
    Calls Tryz.prog 165 #[.slice p 0 c] w fun e w'=>∃g,e=.returned (.slice (some ⟨g,0,none⟩) 0 0)/\w.heap.size<=g/\g<w'.heap.size/\Below w.heap.size w w':=by
 obtain⟨i0,hi,rC,pR,nC⟩:=info_parts Tryz.Mq;have Eh:(w.alloc (.cells #[.slice p 0 c] 22)).cell? ⟨w.heap.size,0,none⟩=some (.slice p 0 c):=bB (cur:= [_]) (heap_alloc_new _ _) 0 _ rfl;go_enter Tryz.func165,Tryz.ntmps165;go_wp2_with(first
  | (at_make;refine wpList_make_full _ rfl _ _ 121 rfl (w.heap.size+1) 3 i0 (.int .i64 0) 1 Tryz.underlying121 hi rC pR _ _ _ _ 0 rfl rfl rfl rfl ?b2 ?b3 ?b4 ?_))
 case b2=>omega
 case b3=>unfold maxLen;omega
 case b4=>simp
 intro w1 aN mE;have EN:(w.alloc (.cells #[.slice p 0 c] 22)).heap.size=w.heap.size+1:=by simp
 have kC:=yw aN;have UQ:w.heap.size+1<w1.heap.size:=(Array.getElem?_eq_some_iff.1 kC).1;have aL:RowKit.Below w.heap.size (w.alloc (.cells #[.slice p 0 c] 22)) w1:=(RowKit.Below.refl _ _).grown mE (by rw[EN];omega) (by simp);have hb:RowKit.Below w.heap.size w w1:=((RowKit.Below.refl _ _).alloc (Nat.le_refl _) _).trans aL;have zdz:∀wx:World,Calls Tryz.prog 181 #[.slice (some ⟨w.heap.size+1,0,none⟩) 0 0,.func (.func 182) #[] #[.pointer (some ⟨w.heap.size,0,none⟩)]] wx fun e w'=>e=.returned (.tuple #[])/\wx=w':=
  fun wx=>(Tryz.slices_SortFunc_none (α:=Nat) (some ⟨w.heap.size+1,0,none⟩) 0 _ wx).mono fun _ _ h=>⟨h.1,h.2.symm⟩
 clear aN mE kC aL;go_wp2;refine wp_loop_rounds 1 ?_;rw[rounds_succ];go_wp2_with(first
  | (go_at_call 181;refine(zdz _).mono ?_;rintro e w' ⟨rfl,rfl⟩))
 go_ret;exact⟨w.heap.size+1,rfl,by omega,UQ,hb⟩
theorem za{O:Nat->Prop}{ks:List ByteArray}{p:Option Addr}{c:Nat}{w:World}(iK:jP O w p c ks)(hO:∀k,O k->k<w.heap.size)(hl:ks.length<=1000000):
    Calls Tryz.prog 165 #[.slice p ks.length c] w fun e w'=>∃g L,e=.returned (.slice (some ⟨g,0,none⟩) ks.length ks.length)/\jc w' g L ks/\w.heap.size<=g/\g<w'.heap.size/\Below w.heap.size w w':=by
 cases ks with
 | nil=>
  refine(EO p c w).mono fun e w' ⟨g,h1,h2,h3,h4⟩=>⟨g, [],h1,⟨List.Perm.refl _,fun i j _ hj=>absurd hj (by simp),fun j hj=>absurd hj (by simp)⟩,h2,h3,h4⟩
 | cons k r=>exact EM iK hO rfl hl
theorem BI(k:ByteArray)(v:J):∀(q:List (ByteArray×J)),(putK k v q).Perm ((k,v)::q)
 | []=>List.Perm.refl _
 | y::q=>by
  unfold putK
  split
  ·exact List.Perm.refl _
  ·exact((BI k v q).cons y).trans (List.Perm.swap _ _ _)
theorem jX:∀(q:List (ByteArray×J)),(fQ q).Perm q
 | []=>List.Perm.refl _
 | y::q=>by
  unfold fQ;exact(BI y.1 y.2 _).trans ((jX q).cons y)
theorem NN{a b:ByteArray}(h:jB a b=true):jB b a=false:=by
 cases h':jB b a with
 | false=>rfl
 | true=>have:=jh h h';rw[lL]at this;cases this
theorem zb:∀(a b:List (ByteArray×J)),rises (a.map (·.1))=true->rises (b.map (·.1))=true->a.Perm b->a=b
 | [],b,_,_,h=>(List.nil_perm.1 h).symm ▸ rfl
 | x::a, [],_,_,h=>by have:=h.length_eq;simp at this
 | x::a,y::b,ha,hb,h=>by
  simp only[List.map_cons,rises,Bool.and_eq_true]at ha hb;have hx:x∈y::b:=h.subset (by simp);have hy:y∈x::a:=h.symm.subset (by simp);have yn:x=y:=by
   rcases List.mem_cons.1 hx with h1| h1
   ·exact h1
   ·rcases List.mem_cons.1 hy with h2| h2
    ·exact h2.symm
    ·have g1:=List.all_eq_true.1 hb.1 x.1 (List.mem_map.2 ⟨x,h1,rfl⟩);have g2:=List.all_eq_true.1 ha.1 y.1 (List.mem_map.2 ⟨y,h2,rfl⟩);rw[NN g1]at g2;cases g2
  subst yn;rw[zb a b ha.2 hb.2 ((List.perm_cons x).1 h)]
theorem gM:∀{ks:List ByteArray},noKeyTwice ks=true->ks.Pairwise (· ≠ ·)
 | [],_=>List.Pairwise.nil
 | k::r,h=>by
  simp only[noKeyTwice,Bool.and_eq_true,Bool.not_eq_true',List.any_eq_false,decide_eq_true_eq]at h;refine List.pairwise_cons.2 ⟨fun x hx e=>h.1 x hx (by rw[e]),gM h.2⟩
theorem fE:∀{ks:List ByteArray},ks.Pairwise (· ≠ ·)->noKeyTwice ks=true
 | [],_=>rfl
 | k::r,h=>by
  have h':=List.pairwise_cons.1 h;simp only[noKeyTwice,Bool.and_eq_true,Bool.not_eq_true',List.any_eq_false,decide_eq_true_eq];refine⟨fun x hx e=>h'.1 x hx ?_,fE h'.2⟩
  cases x;cases k
  simp only at e;rw[e]
def nH(l:List J)(i:Nat):J:=l.getD i J.zero
def AA(ks:List ByteArray)(l:List J)(L:List Nat):List (ByteArray×J):=L.map fun i=>(aF ks i,nH l i)
theorem BJ:∀(ks:List ByteArray) (l:List J),ks.length=l.length->AA ks l (List.range ks.length)=ks.zip l
 | ks,l,h=>by
  unfold AA
  apply List.ext_getElem
  ·simp;omega
  ·intro i h1 h2;have hi:i<ks.length:=by simpa using h1
   simp only[List.getElem_map,List.getElem_range,List.getElem_zip,aF,nH];rw[List.getD_eq_getElem?_getD,List.getD_eq_getElem?_getD,List.getElem?_eq_getElem hi,List.getElem?_eq_getElem (by omega)]
   rfl
theorem ze{α:Type}(f:α->ByteArray):∀(l:List α),l.Pairwise (fun x y=>jB (f x) (f y)=true)->rises (l.map f)=true
 | [],_=>rfl
 | x::l,h=>by
  have h':=List.pairwise_cons.1 h;simp only[List.map_cons,rises,Bool.and_eq_true];refine⟨List.all_eq_true.2 fun z hz=> ?_,ze f l h'.2⟩;obtain⟨y,hy,rfl⟩:=List.mem_map.1 hz;exact h'.1 y hy
theorem EP{w:World}{g:Nat}{L:List Nat}{ks:List ByteArray}{l:List J}(hP:jc w g L ks)(hd:ks.Pairwise (· ≠ ·))(hl:ks.length=l.length):AA ks l L=fQ (ks.zip l):=by
 obtain⟨hp,hs,_⟩:=hP;have fw:L.length=ks.length:=by rw[hp.length_eq];simp
 have QA:(AA ks l L).Perm (ks.zip l):=by
  rw[<-BJ ks l hl];exact hp.map _
 have hpw:(ks.zip l).Pairwise fun x y=>x.1≠y.1:=by
  have:((ks.zip l).map (·.1)).Pairwise (· ≠ ·):=by rw[List.map_fst_zip (by omega)];exact hd
  exact List.pairwise_map.1 this
 refine zb _ _ ?_ (ll _ hpw) (QA.trans (jX _).symm);unfold AA;rw[List.map_map];refine ze _ L ?_;rw[List.pairwise_iff_getElem];intro i j hi hj hij;have h1:=hs i j hij hj;have gi:L.getD i 0=L[i]:=by rw[List.getD_eq_getElem?_getD,List.getElem?_eq_getElem hi];rfl
 have gj:L.getD j 0=L[j]:=by rw[List.getD_eq_getElem?_getD,List.getElem?_eq_getElem hj];rfl
 rw[gi,gj]at h1;have QB:L.Nodup:=hp.nodup_iff.2 List.nodup_range;have xk:L[i]≠L[j]:=List.pairwise_iff_getElem.1 QB i j hi hj hij;have mi:L[i]<ks.length:=by have:=hp.subset (List.getElem_mem hi);simpa using this
 have mj:L[j]<ks.length:=by have:=hp.subset (List.getElem_mem hj);simpa using this
 have zgp:aF ks L[i]≠aF ks L[j]:=by
  unfold aF;rw[List.getD_eq_getElem?_getD,List.getD_eq_getElem?_getD,List.getElem?_eq_getElem mi,List.getElem?_eq_getElem mj];simp only[Option.getD_some];intro e
  rcases Nat.lt_or_gt_of_ne xk with h| h
  ·exact List.pairwise_iff_getElem.1 hd _ _ mi mj h e
  ·exact List.pairwise_iff_getElem.1 hd _ _ mj mi h e.symm
 rcases nA zgp with h| h
 ·exact h
 ·rw[h]at h1;cases h1
open Go.RowKit
section
variable {P : Program} {bZ : Array Oper} {Q : Exit -> Act -> World -> Prop} {md : Region.Mode} {C : World -> Prop}
theorem dK{i j:Nat}{o u:Oper}{n:Nat}{listed:Array Bool}{a:Act}{w:World}(hC:C w)(hr:Region.ready md bZ listed= [i,j])(hi:bZ[i]?=some o)(hj:bZ[j]?=some u)
    (hw:Region.wanted o (yielded bZ a.tmps)=true) (hv:Region.wanted u (yielded bZ a.tmps)=true)
    (h:∀K':Act->World->Prop,(∀a w,wpIn P md bZ Q C n (listed.setIfInBounds i true) a w->K' a w)->Oper.wp P o a w K' Q)
    (h':∀K':Act->World->Prop,(∀a w,wpIn P md bZ Q C n (listed.setIfInBounds j true) a w->K' a w)->Oper.wp P u a w K' Q):wpIn P md bZ Q C (n+1) listed a w:=by
 refine⟨hC,fun h0=>(by rw[hr]at h0;cases h0),fun m hm=> ?_⟩;rw[hr]at hm;unfold wpOp
 rcases List.mem_cons.1 hm with rfl| hm
 ·rw[hi];simp only;rw[if_pos hw];exact .inl (h _ fun _ _ h'=>h')
 ·rw[List.mem_singleton.1 hm,hj];simp only;rw[if_pos hv];exact .inl (h' _ fun _ _ h'=>h')
end
theorem aZ{w:World}{o:Oper}{a:Act}{K:Act->World->Prop}{Q:Exit->Act->World->Prop}(s x:Operand)(t:TypeId)
    (ho:o.op=.call {callee:=.builtin .append,args:=#[s,x],argTypes:=#[t,t]})
    (fB:Nat) (e:TypeId) (z:Value) (size bytes:Nat) (ht:Tryz.prog.underlying t=some (.slice e)) (ug:(Tryz.prog.info? e).map (fun i=>(i.zero,i.size,i.bytes))=some (some z,size,bytes))
    (Yo:z.cells.size=size) (fK:0<size) (Ef:bytes<=100)
    (v:Value) (n:Nat) (xs:List Value) (hs:a.eval s=v) (aN:w.ownsRow fB e size v n xs)
    (ad:Addr) (news:List Value) (hx:a.eval x=.slice (some ad) 1 1) (hl:news.length=size) (o9:∀j u,news[j]?=some u->w.cell? (ad.add j)=some u) (h1:∀u∈news,u.oneCell'=true)
    (hn:n<=1000000) (mF:fB<=w.heap.size)
    (h:∀v' w',w'.ownsRow fB e size v' (n+1) (xs++news)->w.grownBy w' v.ownBlock->(v'.ownBlock=v.ownBlock\/ v'.ownBlock=some w.heap.size)->K (a.put o.dst v') w'):o.wp Tryz.prog a w K Q:=by
 obtain⟨i0,hi,rC,pR,nC⟩:=info_parts ug;have xh:(n+1)*bytes<=140737488355328:=by
  have:(n+1)*bytes<=(n+1)*100:=Nat.mul_le_mul_left _ Ef;omega
 obtain⟨v',w',hr,h2,h3,h4,h5⟩:=run_append_own_at (P:=Tryz.prog) w fB t o.type e i0 z size bytes ht hi rC pR nC Yo fK v n xs aN ad 1 1 news (by rw[hl,Nat.one_mul]) o9 h1 (by unfold maxLen;omega) xh mF;unfold Oper.wp execOp;simp only[ho,resolve,invoke,builtin,Sem.run_bind,Sem.run_pure,Result.andThen_ok,List.map_toArray,List.map_cons,List.map_nil,hs,hx,hr];exact h v' w' h2 h3 h5
theorem Tryz.jR:(Tryz.prog.info? 9).map (fun i=>(i.zero,i.size,i.bytes))=some (some (.string ⟨#[]⟩),1,16):=by kernel_rfl
theorem Tryz.eT:(Tryz.prog.info? 25).map (fun i=>(i.zero,i.size,i.bytes))=some (some (.agg #[.int .i64 0,.int .i64 0,.string ⟨#[]⟩,.slice none 0 0,.slice none 0 0]),5,80):=by kernel_rfl
def One(R:Nat):Nat->Prop:=fun k=>k=R
section
variable {w w' : World} {R p : Nat} {s : ByteArray} {e l : Int}
end
theorem CR(s:ByteArray)(i:Nat)(h:i<s.size):aB (ints s) i=(s[i].toNat:Int):=dt s i h
theorem NP{t r:List Int}{p:Nat}{c:Int}(h:t.drop p=c::r):aB t p=c:=by
 unfold aB;have:t[p]?=some c:=by
  have h1:(t.drop p)[0]?=some c:=by rw[h];rfl
  rw[List.getElem?_drop]at h1;exact h1
 rw[List.getD_eq_getElem?_getD,this]
 rfl
theorem drop_tail{t r:List Int}{p:Nat}{c:Int}(h:t.drop p=c::r):t.drop (p+1)=r:=by
 rw[<-List.drop_drop,h];rfl
open Go.RowKit
def tN(w w':World):Nat->Prop:=fun k=>w.heap.size<=k/\k<w'.heap.size
section
variable {w : World} {b : Nat} {a0 a1 a2 a3 a4 : Value} {t : TypeId}
theorem yx(h:w.heap[b]?=some (.cells #[a0,a1,a2,a3,a4] t (0,0))):w.cell? ⟨b,0,none⟩=some a0:=bB (cur:= [_,_,_,_,_]) h 0 _ rfl
theorem Mt(h:w.heap[b]?=some (.cells #[a0,a1,a2,a3,a4] t (0,0))):w.cell? ⟨b,1,none⟩=some a1:=bB (cur:= [_,_,_,_,_]) h 1 _ rfl
theorem Mv(h:w.heap[b]?=some (.cells #[a0,a1,a2,a3,a4] t (0,0))):w.cell? ⟨b,2,none⟩=some a2:=bB (cur:= [_,_,_,_,_]) h 2 _ rfl
theorem fV(h:w.heap[b]?=some (.cells #[a0,a1,a2,a3,a4] t (0,0))):w.cell? ⟨b,3,none⟩=some a3:=bB (cur:= [_,_,_,_,_]) h 3 _ rfl
theorem bG(h:w.heap[b]?=some (.cells #[a0,a1,a2,a3,a4] t (0,0))):w.cell? ⟨b,4,none⟩=some a4:=bB (cur:= [_,_,_,_,_]) h 4 _ rfl
theorem gN(h:w.heap[b]?=some (.cells #[a0,a1,a2,a3,a4] t (0,0)))(j:Nat):w.frozen? ⟨b,j,none⟩=false:=frozen_of_row w b j _ _ h
theorem aU(h:w.heap[b]?=some (.cells #[a0,a1,a2,a3,a4] t (0,0))):w.cell? ⟨b,0,none⟩=some a0/\w.cell? ⟨b,1,none⟩=some a1/\w.cell? ⟨b,2,none⟩=some a2/\w.cell? ⟨b,3,none⟩=some a3/\w.cell? ⟨b,4,none⟩=some a4:=⟨yx h,Mt h,Mv h,fV h,bG h⟩
theorem fZ(h:w.heap[b]?=some (.cells #[a0,a1,a2,a3,a4] t (0,0))):w.frozen? ⟨b,0,none⟩=false/\w.frozen? ⟨b,1,none⟩=false/\w.frozen? ⟨b,2,none⟩=false/\w.frozen? ⟨b,3,none⟩=false/\w.frozen? ⟨b,4,none⟩=false:=⟨gN h 0,gN h 1,gN h 2,gN h 3,gN h 4⟩
def lN(w:World)(b:Nat)(v0 v1 v2 v3 v4:Value):World:=((((w.setCell ⟨b,0,none⟩ v0).setCell ⟨b,1,none⟩ v1).setCell ⟨b,2,none⟩ v2).setCell ⟨b,3,none⟩ v3).setCell ⟨b,4,none⟩ v4
theorem dS(h:w.heap[b]?=some (.cells #[a0,a1,a2,a3,a4] t (0,0)))(v0 v1 v2 v3 v4:Value):(lN w b v0 v1 v2 v3 v4).heap[b]?=some (.cells #[v0,v1,v2,v3,v4] t (0,0)):=by
 have h0:(w.setCell ⟨b,0,none⟩ v0).heap[b]?=some (.cells #[v0,a1,a2,a3,a4] t (0,0)):=by rw[heap_setCell_same w b 0 _ _ _ h];rfl
 have h1:((w.setCell ⟨b,0,none⟩ v0).setCell ⟨b,1,none⟩ v1).heap[b]?=some (.cells #[v0,v1,a2,a3,a4] t (0,0)):=by rw[heap_setCell_same _ b 1 _ _ _ h0];rfl
 have h2:(((w.setCell ⟨b,0,none⟩ v0).setCell ⟨b,1,none⟩ v1).setCell ⟨b,2,none⟩ v2).heap[b]?=some (.cells #[v0,v1,v2,a3,a4] t (0,0)):=by rw[heap_setCell_same _ b 2 _ _ _ h1];rfl
 have h3:((((w.setCell ⟨b,0,none⟩ v0).setCell ⟨b,1,none⟩ v1).setCell ⟨b,2,none⟩ v2).setCell ⟨b,3,none⟩ v3).heap[b]?=some (.cells #[v0,v1,v2,v3,a4] t (0,0)):=by rw[heap_setCell_same _ b 3 _ _ _ h2];rfl
 unfold lN;rw[heap_setCell_same _ b 4 _ _ _ h3];rfl
theorem dU(w:World)(b:Nat)(v0 v1 v2 v3 v4:Value):ay (One b) w (lN w b v0 v1 v2 v3 v4):=
 ay.setCell (ay.setCell (ay.setCell (ay.setCell (ay.setCell (ay.refl _ _) (fun _=>(rfl:b=b)) _) (fun _=>(rfl:b=b)) _) (fun _=>(rfl:b=b)) _) (fun _=>(rfl:b=b)) _) (fun _=>(rfl:b=b)) _
end
theorem jP.below{O:Nat->Prop}{w w':World}{p:Option Addr}{c:Nat}{ks:List ByteArray}(h:jP O w p c ks)(hO:∀k,O k->k<w.heap.size)(hb:Below w.heap.size w w'):jP O w' p c ks:=
 h.carry fun k hk=>⟨hk,hb.block k (hO k hk)⟩
theorem ku{O:Nat->Prop}{w:World}{j:J}{cs:List Value}(h:isJ O w j cs):∀u∈cs,u.oneCell'=true:=by
 cases j
 unfold isJ at h;obtain⟨_,_,_,_,rfl,_⟩:=h;intro u hu;simp at hu
 rcases hu with rfl| rfl| rfl| rfl| rfl<;>rfl
theorem qN{w:World}{B:Nat}{v:Value}{S:List ByteArray}(h:w.ownsRow B 9 1 v S.length (S.map Value.string)):∃q cq,v=.slice q S.length cq/\jP (fun k=>B<=k/\k<w.heap.size) w q cq S:=by
 rcases h.2 with⟨rfl,hn⟩| ⟨g,cap,cur,rfl,hg,yK,h1,h2,h3,h4⟩
 ·obtain rfl:S= []:=List.eq_nil_of_length_eq_zero hn;exact⟨none,0,rfl,jP.nil _ _⟩
 ·refine⟨_,cap,rfl,⟨h1,fun j hj=>⟨_,rfl,⟨hg,(Array.getElem?_eq_some_iff.1 yK).1⟩, ?_⟩⟩⟩;have:=h.cells (g:=g) rfl j (.string (S.getD j aT)) (by rw[List.getElem?_map,List.getD_eq_getElem?_getD,List.getElem?_eq_getElem hj];rfl);exact this
theorem sH{O:Nat->Prop}{w:World}{B:Nat}{v:Value}{l:List J}{xs:List Value}(h:w.ownsRow B 25 5 v l.length xs)(hr:isRow O w l xs):∃q cq,v=.slice q l.length cq/\l.length<=cq/\isJs (fun k=>O k\/ (B<=k/\k<w.heap.size)) w q 0 l:=by
 rcases h.2 with⟨rfl,hn⟩| ⟨g,cap,cur,rfl,hg,yK,h1,h2,h3,h4⟩
 ·obtain rfl:l= []:=List.eq_nil_of_length_eq_zero hn;exact⟨none,0,rfl,Nat.le_refl _,by unfold isJs;trivial⟩
 ·refine⟨_,cap,rfl,h1, ?_⟩;refine isRow.isJs (O:=fun k=>O k\/ (B<=k/\k<w.heap.size)) (.inr ⟨hg,(Array.getElem?_eq_some_iff.1 yK).1⟩) l xs 0 (hr.carry fun k hk=>⟨.inl hk,rfl⟩) fun i u hi=> ?_;have hc:cur[i]?=some u:=by
   rw[<-h4]at hi;rw[List.getElem?_take]at hi
   split at hi
   ·simpa using hi
   ·cases hi
  rw[Nat.zero_mul,Nat.add_zero,Nat.zero_add];simp only[World.cell?,yK];exact hc
structure MI(O:Nat->Prop)(wB:World)(b:Nat)(Sk:List ByteArray)(Sv:List J)(vk vl:Value)(wr:World):Prop where
 obj:wr.heap[b+1]?=some (.cells #[.int .i64 5,.int .i64 0,.string ⟨#[]⟩,vk,vl] 25 (0,0))
 res:wr.heap[b]?=some (.cells #[.int .i64 0,.int .i64 0,.string ⟨#[]⟩,.slice none 0 0,.slice none 0 0] 25 (0,0))
 keys:wr.ownsRow wB.heap.size 9 1 vk Sk.length (Sk.map Value.string)
 fq:∃xs,wr.ownsRow wB.heap.size 25 5 vl Sv.length xs/\isRow O wr Sv xs
 ne:∀i,vk.ownBlock=some i->vl.ownBlock≠some i
 jo:ay (One (b+1)) wB wr
 lt:b+1<wB.heap.size
 low:∀k,O k->k<b
section
variable {O : Nat -> Prop} {wB W W2 : World} {b : Nat} {Sk : List ByteArray} {Sv : List J} {vk vl kP jd : Value}
theorem MI.drew(h:MI O wB b Sk Sv vk vl W):MI O wB b Sk Sv vk vl W.drew:=⟨h.obj,h.res,h.keys,by
 obtain⟨xs,h1,h2⟩:=h.fq;exact⟨xs,h1,isRow.carry (w:=W) (w':=W.drew) (fun k hk=>⟨hk,rfl⟩) Sv xs h2⟩,h.ne,h.jo.drew,h.lt,h.low⟩
theorem MI.c3(h:MI O wB b Sk Sv vk vl W):W.cell? ⟨b+1,3,none⟩=some vk:=fV h.obj
theorem MI.c4(h:MI O wB b Sk Sv vk vl W):W.cell? ⟨b+1,4,none⟩=some vl:=bG h.obj
theorem MI.size(h:MI O wB b Sk Sv vk vl W):wB.heap.size<=W.heap.size:=h.jo.size
theorem bJ{o:Obj}{row:Option Nat}{k:Nat}(hg:(W.alloc o).grownBy W2 row)(hk:k<W.heap.size)(hr:row≠some k):W2.heap[k]?=W.heap[k]?:=by
 rw[hg.block k (by simp;omega) (fun e=>hr e.symm),Below.heap_alloc W o k hk]
theorem MI.key(h:MI O wB b Sk Sv vk vl W){x:ByteArray}{o:Obj}(aN:W2.ownsRow wB.heap.size 9 1 kP (Sk.length+1) (Sk.map Value.string++ [.string x]))(hg:(W.alloc o).grownBy W2 vk.ownBlock)(iR:kP.ownBlock=vk.ownBlock\/ kP.ownBlock=some (W.alloc o).heap.size):
    W2.cell? ⟨b+1,3,none⟩=some vk/\W2.frozen? ⟨b+1,3,none⟩=false/\MI O wB b (Sk++ [x]) Sv kP vl (W2.setCell ⟨b+1,3,none⟩ kP):=by
 have fK:=h.size;have bQ:=h.lt;have qO:=aO h.keys;obtain⟨xs,bV,eZ⟩:=h.fq;have qc:=aO bV;have ob:W2.heap[b+1]?=some (.cells #[.int .i64 5,.int .i64 0,.string ⟨#[]⟩,vk,vl] 25 (0,0)):=by
  rw[bJ hg (by omega) (fun e=>by have:=qO _ e;omega)];exact h.obj
 have rs:W2.heap[b]?=some (.cells #[.int .i64 0,.int .i64 0,.string ⟨#[]⟩,.slice none 0 0,.slice none 0 0] 25 (0,0)):=by
  rw[bJ hg (by omega) (fun e=>by have:=qO _ e;omega)];exact h.res
 have K3:ay (One (b+1)) W2 (W2.setCell ⟨b+1,3,none⟩ kP):=ay.setCell (ay.refl _ _) (fun _=>(rfl:b+1=b+1)) _;have QC:=aO aN;refine⟨fV ob,gN ob 3,⟨?_, ?_, ?_,⟨xs, ?_, ?_⟩, ?_, ?_,bQ,h.low⟩⟩
 ·rw[heap_setCell_same _ (b+1) 3 _ _ _ ob];rfl
 ·rw[K3.block b (by have:=(Array.getElem?_eq_some_iff.1 rs).1;omega) (by unfold One;omega)];exact rs
 ·rw[List.length_append,List.map_append];exact bf aN K3 fun k e=>by have:=QC k e;unfold One;omega
 ·refine bf (bf (bV.alloc o) (S:=fun k=>vk.ownBlock=some k) (ay.gQ hg fun _ _ e=>e) fun k e e'=>h.ne k e' e) K3 fun k e=>by have:=qc k e;unfold One;omega
 ·refine eZ.carry fun k hk=>⟨hk, ?_⟩;have:=h.low k hk;rw[K3.block k (by have:=hg.size;simp at this;omega) (by unfold One;omega),bJ hg (by omega) (fun e=>by have:=qO _ e;omega)]
 ·intro i e e'
  rcases iR with h1| h1
  ·exact h.ne i (h1 ▸ e) e'
  ·rw[h1]at e;have h2:=(qc i e').2;have h3:(W.alloc o).heap.size=i:=Option.some.inj e;simp at h3;omega
 ·have k1:ay (One (b+1)) wB (W.alloc o):=h.jo.alloc o;exact(k1.grown hg fun k e=>(qO k e).1).then K3
theorem MI.val(h:MI O wB b Sk Sv vk vl W){y:J}{cs xs:List Value}{o:Obj}(bV:W.ownsRow wB.heap.size 25 5 vl Sv.length xs)(eZ:isRow O W Sv xs)(hy:isJ O W y cs)(aN:W2.ownsRow wB.heap.size 25 5 jd (Sv.length+1) (xs++cs))(hg:(W.alloc o).grownBy W2 vl.ownBlock)(iR:jd.ownBlock=vl.ownBlock\/ jd.ownBlock=some (W.alloc o).heap.size):
    W2.cell? ⟨b+1,4,none⟩=some vl/\W2.frozen? ⟨b+1,4,none⟩=false/\MI O wB b Sk (Sv++ [y]) vk jd (W2.setCell ⟨b+1,4,none⟩ jd):=by
 have fK:=h.size;have bQ:=h.lt;have qO:=aO h.keys;have qc:=aO bV;have ob:W2.heap[b+1]?=some (.cells #[.int .i64 5,.int .i64 0,.string ⟨#[]⟩,vk,vl] 25 (0,0)):=by
  rw[bJ hg (by omega) (fun e=>by have:=qc _ e;omega)];exact h.obj
 have rs:W2.heap[b]?=some (.cells #[.int .i64 0,.int .i64 0,.string ⟨#[]⟩,.slice none 0 0,.slice none 0 0] 25 (0,0)):=by
  rw[bJ hg (by omega) (fun e=>by have:=qc _ e;omega)];exact h.res
 have K3:ay (One (b+1)) W2 (W2.setCell ⟨b+1,4,none⟩ jd):=ay.setCell (ay.refl _ _) (fun _=>(rfl:b+1=b+1)) _;have NQ:=aO aN;have carry:∀k,O k->O k/\(W2.setCell ⟨b+1,4,none⟩ jd).heap[k]?=W.heap[k]?:=fun k hk=>by
  have:=h.low k hk;exact⟨hk,by rw[K3.block k (by have:=hg.size;simp at this;omega) (by unfold One;omega),bJ hg (by omega) (fun e=>by have:=qc _ e;omega)]⟩
 refine⟨bG ob,gN ob 4,⟨?_, ?_, ?_,⟨xs++cs, ?_, ?_⟩, ?_, ?_,bQ,h.low⟩⟩
 ·rw[heap_setCell_same _ (b+1) 4 _ _ _ ob];rfl
 ·rw[K3.block b (by have:=(Array.getElem?_eq_some_iff.1 rs).1;omega) (by unfold One;omega)];exact rs
 ·exact bf (bf (h.keys.alloc o) (S:=fun k=>vl.ownBlock=some k) (ay.gQ hg fun _ _ e=>e) fun k e e'=>h.ne k e e') K3 fun k e=>by have:=qO k e;unfold One;omega
 ·rw[List.length_append];exact bf aN K3 fun k e=>by have:=NQ k e;unfold One;omega
 ·exact isRow.snoc hy.AP (hy.carry carry) Sv xs (eZ.carry carry)
 ·intro i e e'
  rcases iR with h1| h1
  ·exact h.ne i e (h1 ▸ e')
  ·rw[h1]at e';have h2:=(qO i e).2;have h3:(W.alloc o).heap.size=i:=Option.some.inj e';simp at h3;omega
 ·have k1:ay (One (b+1)) wB (W.alloc o):=h.jo.alloc o;exact(k1.grown hg fun k e=>(qc k e).1).then K3
end
theorem UR{O:Nat->Prop}{w wB wr W5:World}{q1 q2:Option Addr}{c1 c2:Nat}{ks:List ByteArray}{l:List J}(hO:∀k,O k->k<w.heap.size)(dM:Below w.heap.size w wB)(Mw:ay (One (w.heap.size+1)) wB wr)(eD:ay (One w.heap.size) wr W5)
    (oJ:jP (fun k=>wB.heap.size<=k/\k<wr.heap.size) wr q1 c1 ks) (QD:isJs (fun k=>O k\/ (wB.heap.size<=k/\k<wr.heap.size)) wr q2 0 l) (hc:l.length<=c2) (fK:w.heap.size+2<=wB.heap.size):
    isJ (fun k=>O k\/ tN w W5 k) W5 (.mk 5 0 aT ks l) [.int .i64 5,.int .i64 0,.string aT,.slice q1 ks.length c1,.slice q2 l.length c2]/\Below w.heap.size w W5:=by
 have s1:=Mw.size;have s2:=eD.size;have carry:∀i,(O i\/ (wB.heap.size<=i/\i<wr.heap.size))->(O i\/ tN w W5 i)/\W5.heap[i]?=wr.heap[i]?:=by
  intro i hi
  rcases hi with hi| hi
  ·have:=hO i hi;exact⟨.inl hi,eD.block i (by omega) (by unfold One;omega)⟩
  ·exact⟨.inr ⟨by omega,by omega⟩,eD.block i (by omega) (by unfold One;omega)⟩
 refine⟨?_, ?_⟩
 ·unfold isJ;exact⟨q1,c1,q2,c2,rfl,oJ.carry fun i hi=>carry i (.inr hi),hc,QD.carry carry⟩
 ·exact(dM.trans (Mw.below (by omega) fun k hk=>by unfold One;omega)).trans (eD.below (by omega) fun k hk=>by unfold One;omega)
theorem cell_one_new(w:World)(v:Value)(t:Nat):∀j u, [v][j]?=some u->(w.alloc (.cells #[v] t)).cell? ((⟨w.heap.size,0,none⟩:Addr).add j)=some u:=by
 intro j u hj
 match j,hj with
 | 0,hj=>simp at hj;subst hj;exact bB (cur:= [_]) (heap_alloc_new _ _) 0 _ rfl
theorem mG(x:ByteArray):∀u∈ [Value.string x],u.oneCell'=true:=by
 intro u hu;simp at hu;subst hu;rfl
theorem dO(w:World)(t:Nat)(y0 y1 y2 y3 y4:Value):∀j u, [y0,y1,y2,y3,y4][j]?=some u->(w.alloc (.cells #[y0,y1,y2,y3,y4] t)).cell? ((⟨w.heap.size,0,none⟩:Addr).add j)=some u:=by
 intro j u hj;have e:(⟨w.heap.size,0,none⟩:Addr).add j=⟨w.heap.size,j,none⟩:=by unfold Addr.add;split<;>simp_all
 rw[e];exact bB (cur:= [_,_,_,_,_]) (heap_alloc_new _ _) j u hj
theorem NR{O:Nat->Prop}{w:World}{ks:List ByteArray}{l:List J}{pk pl:Option Addr}{ck cl:Nat}(hk:jP O w pk ck ks)(hj:isJs O w pl 0 l)(vO:ks.length=l.length)(hO:∀k,O k->k<w.heap.size)(hn:ks.length<=100000)(hd:ks.Pairwise (· ≠ ·)):
    Calls Tryz.prog 142 #[.slice pk ks.length ck,.slice pl l.length cl] w fun e w'=>∃cs,e=.returned (.agg cs)/\isJ (fun k=>O k\/ tN w w' k) w' (mapOf ks l) cs.toList/\Below w.heap.size w w':=by
 have vz:Hid (ks.length=l.length):=vO;clear vO;have bM:Below w.heap.size w ((w.alloc (.cells #[.int .i64 0,.int .i64 0,.string ⟨#[]⟩,.slice none 0 0,.slice none 0 0] 25)).alloc (.cells #[.int .i64 5,.int .i64 0,.string ⟨#[]⟩,.slice none 0 0,.slice none 0 0] 25)):=((Below.refl _ _).alloc (Nat.le_refl _) _).alloc (by simp) _;have TV:=hk.below hO bM;have Yp:((w.alloc (.cells #[.int .i64 0,.int .i64 0,.string ⟨#[]⟩,.slice none 0 0,.slice none 0 0] 25)).alloc (.cells #[.int .i64 5,.int .i64 0,.string ⟨#[]⟩,.slice none 0 0,.slice none 0 0] 25)).heap.size=w.heap.size+2:=by simp
 have P6:((w.alloc (.cells #[.int .i64 0,.int .i64 0,.string ⟨#[]⟩,.slice none 0 0,.slice none 0 0] 25)).alloc (.cells #[.int .i64 5,.int .i64 0,.string ⟨#[]⟩,.slice none 0 0,.slice none 0 0] 25)).heap[w.heap.size+1]?=some (.cells #[.int .i64 5,.int .i64 0,.string ⟨#[]⟩,.slice none 0 0,.slice none 0 0] 25 (0,0)):=by
  have:=heap_alloc_new (w.alloc (.cells #[.int .i64 0,.int .i64 0,.string ⟨#[]⟩,.slice none 0 0,.slice none 0 0] 25)) (.cells #[.int .i64 5,.int .i64 0,.string ⟨#[]⟩,.slice none 0 0,.slice none 0 0] 25);rw[show(w.alloc (.cells #[.int .i64 0,.int .i64 0,.string ⟨#[]⟩,.slice none 0 0,.slice none 0 0] 25)).heap.size=w.heap.size+1 by simp]at this;exact this
 have jq:((w.alloc (.cells #[.int .i64 0,.int .i64 0,.string ⟨#[]⟩,.slice none 0 0,.slice none 0 0] 25)).alloc (.cells #[.int .i64 5,.int .i64 0,.string ⟨#[]⟩,.slice none 0 0,.slice none 0 0] 25)).heap[w.heap.size]?=some (.cells #[.int .i64 0,.int .i64 0,.string ⟨#[]⟩,.slice none 0 0,.slice none 0 0] 25 (0,0)):=by
  rw[Below.heap_alloc _ _ _ (by simp)];exact heap_alloc_new _ _
 go_enter Tryz.func142,Tryz.ntmps142;go_wp2_with(first
  | (go_at_call 165;refine(za TV (fun k hk=>by have:=hO k hk;rw[Yp];omega) (by omega)).mono ?_;rintro e wB ⟨g,L,rfl,hP,QE,pU,CS⟩))
 rw[Yp]at QE CS;have QF:=CS.size;rw[Yp]at QF;have fw:L.length=ks.length:=by rw[hP.1.length_eq];simp
 have dM:Below w.heap.size w wB:=bM.trans (CS.mono (by omega));have zdA:MI O wB w.heap.size [] [] (.slice none 0 0) (.slice none 0 0) wB:=⟨(CS.block _ (by omega)).trans P6,(CS.block _ (by omega)).trans jq,World.ownsRow_nil _ _ _ _,⟨[],World.ownsRow_nil _ _ _ _,rfl⟩,(fun i h=>by cases h),ay.refl _ _,by omega,hO⟩;clear P6 jq TV
 go_loopw [12] (fun i wr=>∃(k:Nat) (vk vl:Value),i=.int .i64 k/\k<=ks.length/\MI O wB w.heap.size ((AA ks l (L.take k)).map (·.1)) ((AA ks l (L.take k)).map (·.2)) vk vl wr) (fun i _=>ks.length - (intOf i).toNat)
 case atStart=>exact⟨0,_,_,rfl,Nat.zero_le _,zdA⟩
 case round=>
  clear zdA;obtain⟨k,vk,vl,rfl,mW,pK⟩:=hrel
  by_cases bQ:k<ks.length
  ·obtain⟨a,ha⟩:∃a,L.getD k 0=a:=⟨_,rfl⟩;have tO:wr.cell? ⟨g,k,none⟩=some (.int .i64 (a:Int)):=by
    rw[pK.jo.cell (p:=⟨g,k,none⟩) pU (by unfold One;simp only;omega),hP.2.2 k (by omega),ha]
   have QG:a<ks.length:=by
    have hm:L.getD k 0∈L:=by rw[List.getD_eq_getElem?_getD,List.getElem?_eq_getElem (by omega)];exact List.getElem_mem _
    have:=hP.1.subset hm;rw[ha]at this;simpa using this
   have Yq:Hid (AA ks l (L.take (k+1))=AA ks l (L.take k)++ [(aF ks a,nH l a)]):=by
    unfold AA;rw[List.take_add_one,List.getElem?_eq_getElem (by omega:k<L.length),List.map_append];rw[List.getD_eq_getElem?_getD,List.getElem?_eq_getElem (by omega:k<L.length)]at ha;simp only[Option.getD_some]at ha;rw[ha];rfl
   obtain⟨x,hx⟩:∃x,aF ks a=x:=⟨_,rfl⟩;obtain⟨y,hy⟩:∃y,nH l a=y:=⟨_,rfl⟩;rw[hx,hy]at Yq;obtain⟨WU,rfl,Yr,CU⟩:=hk.2 a QG;change w.cell? (WU.add a)=some (.string (aF ks a))at CU;rw[hx]at CU;obtain⟨lb,lo,cs,rfl,Yt,NC,iL⟩:=isJs.at l 0 a hj (by rw[<-vz.out];exact QG);change isJ O w (nH l a) cs at iL;rw[hy]at iL;rw[Nat.zero_add]at NC;obtain⟨y0,y1,y2,y3,y4,rfl⟩:∃y0 y1 y2 y3 y4,cs= [y0,y1,y2,y3,y4]:=by
    match cs,iL.AP with
    | [y0,y1,y2,y3,y4],_=>exact⟨y0,y1,y2,y3,y4,rfl⟩
   have Mx:∀u∈ [y0,y1,y2,y3,y4],u.oneCell'=true:=ku iL;have Yu:(AA ks l (L.take k)).length=k:=by unfold AA;simp;omega
   have zdB:((AA ks l (L.take k)).map (·.1)).length=k:=by simp[Yu]
   have zdC:((AA ks l (L.take k)).map (·.2)).length=k:=by simp[Yu]
   obtain⟨Sk,Ho⟩:∃Sk,(AA ks l (L.take k)).map (·.1)=Sk:=⟨_,rfl⟩;obtain⟨Sv,A7⟩:∃Sv,(AA ks l (L.take k)).map (·.2)=Sv:=⟨_,rfl⟩;rw[Ho]at zdB pK;rw[A7]at zdC pK;have HSk:Hid ((AA ks l (L.take (k+1))).map (·.1)=Sk++ [x]):=by rw[Yq.out,List.map_append,Ho];rfl
   have HSv:Hid ((AA ks l (L.take (k+1))).map (·.2)=Sv++ [y]):=by rw[Yq.out,List.map_append,A7];rfl
   have IB:∀{Ei:List ByteArray} {Ej:List J} {kP jd:Value} {W:World},MI O wB w.heap.size Ei Ej kP jd W->∀i,O i->W.heap[i]?=w.heap[i]?:=by
    intro Ei Ej kP jd W h i hi;have:=hO i hi;rw[h.jo.block i (by omega) (by unfold One;omega),dM.block i this]
   have hcx:∀{Ei:List ByteArray} {Ej:List J} {kP jd:Value} (W:World),MI O wB w.heap.size Ei Ej kP jd W->W.cell? (WU.add a)=some (.string x):=fun W h=>(World.cell?_of_block (by rw[bK];exact IB h _ Yr)).trans CU;have NS:∀i u, [y0,y1,y2,y3,y4][i]?=some u->w.cell? ⟨lb,lo+a*5+i,none⟩=some u:=NC;have WV:∀{Ei:List ByteArray} {Ej:List J} {kP jd:Value} (W:World),MI O wB w.heap.size Ei Ej kP jd W->W.cell? ⟨lb,lo+a*5,none⟩=some y0/\W.cell? ⟨lb,lo+a*5+1,none⟩=some y1/\W.cell? ⟨lb,lo+a*5+2,none⟩=some y2/\W.cell? ⟨lb,lo+a*5+3,none⟩=some y3/\W.cell? ⟨lb,lo+a*5+4,none⟩=some y4:=by
    intro Ei Ej kP jd W h;have hh:=IB h _ Yt;exact⟨(World.cell?_of_block hh).trans (NS 0 _ rfl),(World.cell?_of_block hh).trans (NS 1 _ rfl),(World.cell?_of_block hh).trans (NS 2 _ rfl),(World.cell?_of_block hh).trans (NS 3 _ rfl),(World.cell?_of_block hh).trans (NS 4 _ rfl)⟩
   have hyJ:∀{Ei:List ByteArray} {Ej:List J} {kP jd:Value} (W:World),MI O wB w.heap.size Ei Ej kP jd W->isJ O W y [y0,y1,y2,y3,y4]:=fun W h=>iL.carry fun i hi=>⟨hi,IB h i hi⟩;have zdD:∀{Ei:List ByteArray} {Ej:List J} {kP jd:Value} {W:World} {o:Obj} (W2:World),(W.alloc o).grownBy W2 kP.ownBlock->MI O wB w.heap.size Ei Ej kP jd W->W2.cell? (WU.add a)=some (.string x):=by
    intro Ei Ej kP jd W o W2 hg h;have h1:=h.low _ Yr;have h2:=h.size;have h3:=h.lt;have qO:=aO h.keys;rw[World.cell?_of_block (w:=W) (by rw[bK];exact bJ hg (by omega) (fun e=>by have:=qO _ e;omega))];exact hcx W h
   have zdE:∀{Ei:List ByteArray} {Ej:List J} {kP jd:Value} (W:World),MI O wB w.heap.size Ei Ej kP jd W->(W.alloc (.cells #[y0,y1,y2,y3,y4] 25)).drew.cell? ⟨lb,lo+a*5,none⟩=some y0/\(W.alloc (.cells #[y0,y1,y2,y3,y4] 25)).drew.cell? ⟨lb,lo+a*5+1,none⟩=some y1/\(W.alloc (.cells #[y0,y1,y2,y3,y4] 25)).drew.cell? ⟨lb,lo+a*5+2,none⟩=some y2/\(W.alloc (.cells #[y0,y1,y2,y3,y4] 25)).drew.cell? ⟨lb,lo+a*5+3,none⟩=some y3/\(W.alloc (.cells #[y0,y1,y2,y3,y4] 25)).drew.cell? ⟨lb,lo+a*5+4,none⟩=some y4:=by
    intro Ei Ej kP jd W h;have h1:=h.low _ Yt;have h2:=h.size;have h3:=h.lt;have hh:(W.alloc (.cells #[y0,y1,y2,y3,y4] 25)).drew.heap[lb]?=W.heap[lb]?:=Below.heap_alloc W _ _ (by omega);obtain⟨g0,g1,g2,g3,g4⟩:=WV W h;exact⟨(World.cell?_of_block hh).trans g0,(World.cell?_of_block hh).trans g1,(World.cell?_of_block hh).trans g2,(World.cell?_of_block hh).trans g3,(World.cell?_of_block hh).trans g4⟩
   have UT:∀{Ei:List ByteArray} {Ej:List J} {kP jd:Value} {W:World} {o:Obj} (W2:World),(W.alloc o).grownBy W2 jd.ownBlock->MI O wB w.heap.size Ei Ej kP jd W->W2.cell? ⟨lb,lo+a*5,none⟩=some y0/\W2.cell? ⟨lb,lo+a*5+1,none⟩=some y1/\W2.cell? ⟨lb,lo+a*5+2,none⟩=some y2/\W2.cell? ⟨lb,lo+a*5+3,none⟩=some y3/\W2.cell? ⟨lb,lo+a*5+4,none⟩=some y4:=by
    intro Ei Ej kP jd W o W2 hg h;have h1:=h.low _ Yt;have h2:=h.size;have h3:=h.lt;obtain⟨xs,bV,_⟩:=h.fq;have qc:=aO bV;have hh:W2.heap[lb]?=W.heap[lb]?:=bJ hg (by omega) (fun e=>by have:=qc _ e;omega);obtain⟨g0,g1,g2,g3,g4⟩:=WV W h;exact⟨(World.cell?_of_block hh).trans g0,(World.cell?_of_block hh).trans g1,(World.cell?_of_block hh).trans g2,(World.cell?_of_block hh).trans g3,(World.cell?_of_block hh).trans g4⟩
   have zlR:(a:Int)<(ks.length:Int):=by omega
   have zlS:(a:Int)<(l.length:Int):=by have:=vz.out;omega
   have zlT:Sk.length<=100000:=by omega
   have zlU:Sv.length<=100000:=by omega
   clear hx hy CU NC NS Ho A7 Yu hP hj hk iL ha zdB zdC;go_wp2;have rE:=pK.drew;have gP:wr.drew.cell? (WU.add a)=some (.string x):=hcx wr pK;have jC:(wr.alloc (.cells #[.string x] 9)).drew.cell? (WU.add a)=some (.string x):=by
    have hh:=World.cell?_of_block (a:=WU.add a) (Below.heap_alloc wr (.cells #[.string x] 9) (WU.add a).block (by rw[bK];have:=pK.size;have:=pK.low _ Yr;have:=pK.lt;omega));exact hh.trans (hcx wr pK)
   have d3:=rE.c3;have d3a:(wr.alloc (.cells #[.string x] 9)).drew.cell? ⟨w.heap.size+1,3,none⟩=some vk:=by
    have hh:=World.cell?_of_block (a:=⟨w.heap.size+1,3,none⟩) (Below.heap_alloc wr (.cells #[.string x] 9) (w.heap.size+1) (by have:=pK.size;have:=pK.lt;omega));exact hh.trans pK.c3
   refine aI (by kernel_rfl) (fun w'=>w'.cell? (WU.add a)=some (.string x)) ?_;change wpIn _ _ _ _ _ _ _ _ (World.drew _);refine aa (i:=0) (d:=some 16) rfl ?_;refine aa (i:=2) (d:=some 18) rfl ?_;refine aa (i:=3) (d:=some 19) rfl ?_;refine aa (i:=4) (d:=some 20) rfl ?_;refine aa (i:=5) (d:=some 21) rfl ?_;refine dK (i:=1) (j:=6) gP (by kernel_rfl) rfl rfl (by rfl) (by rfl) ?_ ?_
   ·intro K hK;go_simp;refine hK _ _ ?_;clear hK K;refine ax (i:=6) gP rfl ?_;intro K hK;go_simp;refine hK _ _ ?_;clear hK K;refine ax (i:=7) jC rfl ?_;intro K hK;refine aZ (.tmp 17) (.tmp 22) 22 rfl wB.heap.size 9 (.string ⟨#[]⟩) 1 16 Tryz.underlying22 Tryz.jR rfl (by decide) (by decide) _ Sk.length (Sk.map Value.string) rfl (rE.keys.alloc _) _ [.string x] rfl rfl (cell_one_new _ _ _) (mG x) (by omega) (by have:=pK.size;simp;omega) ?_;intro QH W2 fe pU jD;refine hK _ _ ?_;clear hK K;obtain⟨q2,c2,eZ⟩:∃q c,QH=.slice q (Sk.length+1) c:=by
     rcases fe.2 with⟨h',h0⟩| ⟨g',oK,cur,h',_⟩
     ·omega
     ·exact⟨_,_,h'⟩
    subst eZ;have IC:(wr.drew.alloc (.cells #[.string x] 9)).grownBy W2 vk.ownBlock:=pU;have ER:(Value.slice q2 (Sk.length+1) c2).ownBlock=vk.ownBlock\/ (Value.slice q2 (Sk.length+1) c2).ownBlock=some (wr.drew.alloc (.cells #[.string x] 9)).heap.size:=jD;obtain⟨e3,f3,lQ⟩:=rE.key fe IC ER;have lS:=zdD W2 IC rE;have jk:=hcx _ lQ;clear fe pU jD IC ER d3 d3a jC gP;refine aa (i:=8) (d:=some 24) rfl ?_;refine ax (i:=9) lS rfl ?_;intro K hK;go_simp;refine hK _ _ ?_;clear hK K;refine aH jk (by kernel_rfl) ?_ _;clear lS jk e3 f3 rE pK;go_wp2;obtain⟨wk,UU⟩:∃wk,wk=W2.setCell ⟨w.heap.size+1,3,none⟩ (.slice q2 (Sk.length+1) c2):=⟨_,rfl⟩;rw[<-UU]at lQ ⊢;clear UU;have rE:=lQ.drew;obtain⟨xs,bV,eZ⟩:=rE.fq;have gP:=WV wk.drew rE;have jC:=zdE wk lQ;have d4:=rE.c4;have d4a:(wk.alloc (.cells #[y0,y1,y2,y3,y4] 25)).drew.cell? ⟨w.heap.size+1,4,none⟩=some vl:=by
     have hh:=World.cell?_of_block (a:=⟨w.heap.size+1,4,none⟩) (Below.heap_alloc wk (.cells #[y0,y1,y2,y3,y4] 25) (w.heap.size+1) (by have:=lQ.size;have:=lQ.lt;omega));exact hh.trans lQ.c4
    refine aI (by kernel_rfl) (fun w'=>w'.cell? ⟨lb,lo+a*5,none⟩=some y0/\w'.cell? ⟨lb,lo+a*5+1,none⟩=some y1/\w'.cell? ⟨lb,lo+a*5+2,none⟩=some y2/\w'.cell? ⟨lb,lo+a*5+3,none⟩=some y3/\w'.cell? ⟨lb,lo+a*5+4,none⟩=some y4) ?_;change wpIn _ _ _ _ _ _ _ _ (World.drew _);refine aa (i:=0) (d:=some 25) rfl ?_;refine aa (i:=2) (d:=some 27) rfl ?_;refine aa (i:=3) (d:=some 28) rfl ?_;refine aa (i:=4) (d:=some 29) rfl ?_;refine aC (i:=5) (d:=some 30) rfl (by(intro wq hq;obtain⟨q0,q1,q2,q3,q4⟩:=hq;go_simp;first| done| with_reducible rfl)) ?_;refine dK (i:=1) (j:=6) gP (by kernel_rfl) rfl rfl (by rfl) (by rfl) ?_ ?_
    ·intro K hK;go_simp;refine hK _ _ ?_;clear hK K;refine ax (i:=6) gP rfl ?_;intro K hK;go_simp;refine hK _ _ ?_;clear hK K;refine ax (i:=7) jC rfl ?_;intro K hK;refine aZ (.tmp 26) (.tmp 31) 23 rfl wB.heap.size 25 (.agg #[.int .i64 0,.int .i64 0,.string ⟨#[]⟩,.slice none 0 0,.slice none 0 0]) 5 80 Tryz.underlying23 Tryz.eT rfl (by decide) (by decide) _ Sv.length xs rfl (bV.alloc _) _ [y0,y1,y2,y3,y4] rfl rfl (dO _ _ _ _ _ _ _) Mx (by omega) (by have:=lQ.size;simp;omega) ?_;intro pV W4 bO oL iA;refine hK _ _ ?_;clear hK K;obtain⟨q4,c4,xm⟩:∃q c,pV=.slice q (Sv.length+1) c:=by
      rcases bO.2 with⟨h',h0⟩| ⟨g',oK,cur,h',_⟩
      ·omega
      ·exact⟨_,_,h'⟩
     subst xm;have kS:(wk.drew.alloc (.cells #[y0,y1,y2,y3,y4] 25)).grownBy W4 vl.ownBlock:=oL;have jE:(Value.slice q4 (Sv.length+1) c4).ownBlock=vl.ownBlock\/ (Value.slice q4 (Sv.length+1) c4).ownBlock=some (wk.drew.alloc (.cells #[y0,y1,y2,y3,y4] 25)).heap.size:=iA;obtain⟨e4,f4,zg⟩:=rE.val bV eZ (hyJ wk.drew rE) bO kS jE;have lS:=UT W4 kS rE;have jk:=WV _ zg;clear bO oL iA kS jE d4 d4a jC gP bV eZ;refine aa (i:=8) (d:=some 33) rfl ?_;refine ax (i:=9) lS rfl ?_;intro K hK;go_simp;refine hK _ _ ?_;clear hK K;refine aH jk (by kernel_rfl) ?_ _;clear lS jk e4 f4 rE lQ;go_wp2;go_roundw
     case rel=>exact⟨k+1,_,_,by go_num,by omega,by rw[HSk.out,HSv.out];exact zg⟩
     case measure=>simp[intOf];omega
    ·intro K hK;go_simp;refine hK _ _ ?_;clear hK K;refine ax (i:=1) jC rfl ?_;intro K hK;go_simp;refine hK _ _ ?_;clear hK K;refine ax (i:=7) jC rfl ?_;intro K hK;refine aZ (.tmp 26) (.tmp 31) 23 rfl wB.heap.size 25 (.agg #[.int .i64 0,.int .i64 0,.string ⟨#[]⟩,.slice none 0 0,.slice none 0 0]) 5 80 Tryz.underlying23 Tryz.eT rfl (by decide) (by decide) _ Sv.length xs rfl (bV.alloc _) _ [y0,y1,y2,y3,y4] rfl rfl (dO _ _ _ _ _ _ _) Mx (by omega) (by have:=lQ.size;simp;omega) ?_;intro pV W4 bO oL iA;refine hK _ _ ?_;clear hK K;obtain⟨q4,c4,xm⟩:∃q c,pV=.slice q (Sv.length+1) c:=by
      rcases bO.2 with⟨h',h0⟩| ⟨g',oK,cur,h',_⟩
      ·omega
      ·exact⟨_,_,h'⟩
     subst xm;have kS:(wk.drew.alloc (.cells #[y0,y1,y2,y3,y4] 25)).grownBy W4 vl.ownBlock:=oL;have jE:(Value.slice q4 (Sv.length+1) c4).ownBlock=vl.ownBlock\/ (Value.slice q4 (Sv.length+1) c4).ownBlock=some (wk.drew.alloc (.cells #[y0,y1,y2,y3,y4] 25)).heap.size:=iA;obtain⟨e4,f4,zg⟩:=rE.val bV eZ (hyJ wk.drew rE) bO kS jE;have lS:=UT W4 kS rE;have jk:=WV _ zg;clear bO oL iA kS jE d4 d4a jC gP bV eZ;refine aa (i:=8) (d:=some 33) rfl ?_;refine ax (i:=9) lS rfl ?_;intro K hK;go_simp;refine hK _ _ ?_;clear hK K;refine aH jk (by kernel_rfl) ?_ _;clear lS jk e4 f4 rE lQ;go_wp2;go_roundw
     case rel=>exact⟨k+1,_,_,by go_num,by omega,by rw[HSk.out,HSv.out];exact zg⟩
     case measure=>simp[intOf];omega
   ·intro K hK;go_simp;refine hK _ _ ?_;clear hK K;refine ax (i:=1) jC rfl ?_;intro K hK;go_simp;refine hK _ _ ?_;clear hK K;refine ax (i:=7) jC rfl ?_;intro K hK;refine aZ (.tmp 17) (.tmp 22) 22 rfl wB.heap.size 9 (.string ⟨#[]⟩) 1 16 Tryz.underlying22 Tryz.jR rfl (by decide) (by decide) _ Sk.length (Sk.map Value.string) rfl (rE.keys.alloc _) _ [.string x] rfl rfl (cell_one_new _ _ _) (mG x) (by omega) (by have:=pK.size;simp;omega) ?_;intro QH W2 fe pU jD;refine hK _ _ ?_;clear hK K;obtain⟨q2,c2,eZ⟩:∃q c,QH=.slice q (Sk.length+1) c:=by
     rcases fe.2 with⟨h',h0⟩| ⟨g',oK,cur,h',_⟩
     ·omega
     ·exact⟨_,_,h'⟩
    subst eZ;have IC:(wr.drew.alloc (.cells #[.string x] 9)).grownBy W2 vk.ownBlock:=pU;have ER:(Value.slice q2 (Sk.length+1) c2).ownBlock=vk.ownBlock\/ (Value.slice q2 (Sk.length+1) c2).ownBlock=some (wr.drew.alloc (.cells #[.string x] 9)).heap.size:=jD;obtain⟨e3,f3,lQ⟩:=rE.key fe IC ER;have lS:=zdD W2 IC rE;have jk:=hcx _ lQ;clear fe pU jD IC ER d3 d3a jC gP;refine aa (i:=8) (d:=some 24) rfl ?_;refine ax (i:=9) lS rfl ?_;intro K hK;go_simp;refine hK _ _ ?_;clear hK K;refine aH jk (by kernel_rfl) ?_ _;clear lS jk e3 f3 rE pK;go_wp2;obtain⟨wk,UU⟩:∃wk,wk=W2.setCell ⟨w.heap.size+1,3,none⟩ (.slice q2 (Sk.length+1) c2):=⟨_,rfl⟩;rw[<-UU]at lQ ⊢;clear UU;have rE:=lQ.drew;obtain⟨xs,bV,eZ⟩:=rE.fq;have gP:=WV wk.drew rE;have jC:=zdE wk lQ;have d4:=rE.c4;have d4a:(wk.alloc (.cells #[y0,y1,y2,y3,y4] 25)).drew.cell? ⟨w.heap.size+1,4,none⟩=some vl:=by
     have hh:=World.cell?_of_block (a:=⟨w.heap.size+1,4,none⟩) (Below.heap_alloc wk (.cells #[y0,y1,y2,y3,y4] 25) (w.heap.size+1) (by have:=lQ.size;have:=lQ.lt;omega));exact hh.trans lQ.c4
    refine aI (by kernel_rfl) (fun w'=>w'.cell? ⟨lb,lo+a*5,none⟩=some y0/\w'.cell? ⟨lb,lo+a*5+1,none⟩=some y1/\w'.cell? ⟨lb,lo+a*5+2,none⟩=some y2/\w'.cell? ⟨lb,lo+a*5+3,none⟩=some y3/\w'.cell? ⟨lb,lo+a*5+4,none⟩=some y4) ?_;change wpIn _ _ _ _ _ _ _ _ (World.drew _);refine aa (i:=0) (d:=some 25) rfl ?_;refine aa (i:=2) (d:=some 27) rfl ?_;refine aa (i:=3) (d:=some 28) rfl ?_;refine aa (i:=4) (d:=some 29) rfl ?_;refine aC (i:=5) (d:=some 30) rfl (by(intro wq hq;obtain⟨q0,q1,q2,q3,q4⟩:=hq;go_simp;first| done| with_reducible rfl)) ?_;refine dK (i:=1) (j:=6) gP (by kernel_rfl) rfl rfl (by rfl) (by rfl) ?_ ?_
    ·intro K hK;go_simp;refine hK _ _ ?_;clear hK K;refine ax (i:=6) gP rfl ?_;intro K hK;go_simp;refine hK _ _ ?_;clear hK K;refine ax (i:=7) jC rfl ?_;intro K hK;refine aZ (.tmp 26) (.tmp 31) 23 rfl wB.heap.size 25 (.agg #[.int .i64 0,.int .i64 0,.string ⟨#[]⟩,.slice none 0 0,.slice none 0 0]) 5 80 Tryz.underlying23 Tryz.eT rfl (by decide) (by decide) _ Sv.length xs rfl (bV.alloc _) _ [y0,y1,y2,y3,y4] rfl rfl (dO _ _ _ _ _ _ _) Mx (by omega) (by have:=lQ.size;simp;omega) ?_;intro pV W4 bO oL iA;refine hK _ _ ?_;clear hK K;obtain⟨q4,c4,xm⟩:∃q c,pV=.slice q (Sv.length+1) c:=by
      rcases bO.2 with⟨h',h0⟩| ⟨g',oK,cur,h',_⟩
      ·omega
      ·exact⟨_,_,h'⟩
     subst xm;have kS:(wk.drew.alloc (.cells #[y0,y1,y2,y3,y4] 25)).grownBy W4 vl.ownBlock:=oL;have jE:(Value.slice q4 (Sv.length+1) c4).ownBlock=vl.ownBlock\/ (Value.slice q4 (Sv.length+1) c4).ownBlock=some (wk.drew.alloc (.cells #[y0,y1,y2,y3,y4] 25)).heap.size:=iA;obtain⟨e4,f4,zg⟩:=rE.val bV eZ (hyJ wk.drew rE) bO kS jE;have lS:=UT W4 kS rE;have jk:=WV _ zg;clear bO oL iA kS jE d4 d4a jC gP bV eZ;refine aa (i:=8) (d:=some 33) rfl ?_;refine ax (i:=9) lS rfl ?_;intro K hK;go_simp;refine hK _ _ ?_;clear hK K;refine aH jk (by kernel_rfl) ?_ _;clear lS jk e4 f4 rE lQ;go_wp2;go_roundw
     case rel=>exact⟨k+1,_,_,by go_num,by omega,by rw[HSk.out,HSv.out];exact zg⟩
     case measure=>simp[intOf];omega
    ·intro K hK;go_simp;refine hK _ _ ?_;clear hK K;refine ax (i:=1) jC rfl ?_;intro K hK;go_simp;refine hK _ _ ?_;clear hK K;refine ax (i:=7) jC rfl ?_;intro K hK;refine aZ (.tmp 26) (.tmp 31) 23 rfl wB.heap.size 25 (.agg #[.int .i64 0,.int .i64 0,.string ⟨#[]⟩,.slice none 0 0,.slice none 0 0]) 5 80 Tryz.underlying23 Tryz.eT rfl (by decide) (by decide) _ Sv.length xs rfl (bV.alloc _) _ [y0,y1,y2,y3,y4] rfl rfl (dO _ _ _ _ _ _ _) Mx (by omega) (by have:=lQ.size;simp;omega) ?_;intro pV W4 bO oL iA;refine hK _ _ ?_;clear hK K;obtain⟨q4,c4,xm⟩:∃q c,pV=.slice q (Sv.length+1) c:=by
      rcases bO.2 with⟨h',h0⟩| ⟨g',oK,cur,h',_⟩
      ·omega
      ·exact⟨_,_,h'⟩
     subst xm;have kS:(wk.drew.alloc (.cells #[y0,y1,y2,y3,y4] 25)).grownBy W4 vl.ownBlock:=oL;have jE:(Value.slice q4 (Sv.length+1) c4).ownBlock=vl.ownBlock\/ (Value.slice q4 (Sv.length+1) c4).ownBlock=some (wk.drew.alloc (.cells #[y0,y1,y2,y3,y4] 25)).heap.size:=iA;obtain⟨e4,f4,zg⟩:=rE.val bV eZ (hyJ wk.drew rE) bO kS jE;have lS:=UT W4 kS rE;have jk:=WV _ zg;clear bO oL iA kS jE d4 d4a jC gP bV eZ;refine aa (i:=8) (d:=some 33) rfl ?_;refine ax (i:=9) lS rfl ?_;intro K hK;go_simp;refine hK _ _ ?_;clear hK K;refine aH jk (by kernel_rfl) ?_ _;clear lS jk e4 f4 rE lQ;go_wp2;go_roundw
     case rel=>exact⟨k+1,_,_,by go_num,by omega,by rw[HSk.out,HSv.out];exact zg⟩
     case measure=>simp[intOf];omega
  ·obtain rfl:k=ks.length:=by omega
   have Hq:L.take ks.length=L:=List.take_of_length_le (by omega);rw[Hq,EP hP hd vz.out]at pK;obtain⟨xs,bV,eZ⟩:=pK.fq;have eQ:((fQ (ks.zip l)).map (·.1)).length=ks.length:=by rw[List.length_map,ov];simp;have:=vz.out;omega
   have xq:((fQ (ks.zip l)).map (·.2)).length=ks.length:=by rw[List.length_map,ov];simp;have:=vz.out;omega
   obtain⟨q1,c1,vP,oJ⟩:=qN pK.keys;obtain⟨q2,c2,zgq,nI,QD⟩:=sH bV eZ;subst vP zgq;obtain⟨j0,j1,j2,j3,j4⟩:=aU pK.obj;obtain⟨i0,i1,i2,i3,i4⟩:=aU pK.res;obtain⟨z0,z1,z2,z3,z4⟩:=fZ pK.res;have h5:=dS pK.res (.int .i64 5) (.int .i64 0) (.string ⟨#[]⟩) (.slice q1 ((fQ (ks.zip l)).map (·.1)).length c1) (.slice q2 ((fQ (ks.zip l)).map (·.2)).length c2);have eD:ay (One w.heap.size) wr _:=dU wr w.heap.size (.int .i64 5) (.int .i64 0) (.string ⟨#[]⟩) (.slice q1 ((fQ (ks.zip l)).map (·.1)).length c1) (.slice q2 ((fQ (ks.zip l)).map (·.2)).length c2);have fK:=pK.size;have Mw:=pK.jo;unfold lN at h5 eD;have Yv:Hid (jP (fun k=>wB.heap.size<=k/\k<wr.heap.size) wr q1 c1 ((fQ (ks.zip l)).map (·.1))):=oJ;have BK:Hid (isJs (fun k=>O k\/ (wB.heap.size<=k/\k<wr.heap.size)) wr q2 0 ((fQ (ks.zip l)).map (·.2))):=QD;obtain⟨k0,k1,k2,k3,k4⟩:=aU h5;obtain⟨n1,MB⟩:∃n1,((fQ (ks.zip l)).map (·.1)).length=n1:=⟨_,rfl⟩;obtain⟨n2,ES⟩:∃n2,((fQ (ks.zip l)).map (·.2)).length=n2:=⟨_,rfl⟩;rw[MB,ES]at h5 eD k3 k4;rw[MB]at j3 k0 k1 k2;rw[ES]at j4 k0 k1 k2;clear oJ QD bV eZ pK hP eQ xq hk hj;go_wp2;refine bodyPost_ret (v:=.agg #[.int .i64 5,.int .i64 0,.string ⟨#[]⟩,.slice q1 n1 c1,.slice q2 n2 c2]) (by simp[results,Tryz.results142,go_sem,k0,k1,k2,k3,k4]) rfl ?_;obtain⟨r1,r2⟩:=UR hO dM Mw eD Yv.out BK.out nI (by omega);rw[MB,ES]at r1;exact⟨_,rfl,r1,r2⟩
open Go.RowKit Go.Maps
def QI(s:ByteArray):Lit:=.string s.data.toList
def Yw(s:ByteArray):Prop:=s.size<=maxLen
theorem UW{s t:ByteArray}(h:QI s=QI t):s=t:=by
 unfold QI at h
 cases s;cases t
 simp only[Lit.string.injEq]at h;rw[Array.toList_inj.1 h]
theorem zgr{s:ByteArray}(h:Yw s):keyOf Tryz.prog 9 (.string s)=some (QI s):=WideMaps.keyOf_string_mk Tryz.underlying9 h
theorem zdF:Keyed Tryz.prog 9:=string_keyed Tryz.underlying9
def zh(ks:List ByteArray)(s:ByteArray):Bool:=ks.any (fun k=>decide (k.data=s.data))
theorem NT(ks:List ByteArray)(k s:ByteArray):zh (ks++ [k]) s=(zh ks s || decide (k.data=s.data)):=by
 unfold zh;rw[List.any_append];simp
open Go.RowKit
section
variable {B R b : Nat} {WA W W2 : World} {Es : List J} {vl jd : Value}
end
theorem IE{w:World}{bZ:Array Oper}{rest:List Oper}{o:Oper}{a:Act}{Q:Exit->Act->World->Prop}(tL:o.guard=none)(s x:Operand)(t:TypeId)
    (ho:o.op=.call {callee:=.builtin .append,args:=#[s,x],argTypes:=#[t,t]})
    (fB:Nat) (e:TypeId) (z:Value) (size bytes:Nat) (ht:Tryz.prog.underlying t=some (.slice e)) (ug:(Tryz.prog.info? e).map (fun i=>(i.zero,i.size,i.bytes))=some (some z,size,bytes))
    (Yo:z.cells.size=size) (fK:0<size) (Ef:bytes<=100)
    (v:Value) (n:Nat) (xs:List Value) (hs:a.eval s=v) (aN:w.ownsRow fB e size v n xs)
    (ad:Addr) (news:List Value) (hx:a.eval x=.slice (some ad) 1 1) (hl:news.length=size) (o9:∀j u,news[j]?=some u->w.cell? (ad.add j)=some u) (h1:∀u∈news,u.oneCell'=true)
    (hn:n<=1000000) (mF:fB<=w.heap.size)
    (h:∀v' w',w'.ownsRow fB e size v' (n+1) (xs++news)->w.grownBy w' v.ownBlock->(v'.ownBlock=v.ownBlock\/ v'.ownBlock=some w.heap.size)->wpList Tryz.prog bZ Q rest (a.put o.dst v') w'):wpList Tryz.prog bZ Q (o::rest) a w:=
 wpList_plain tL fun _ hK=>aZ s x t ho fB e z size bytes ht ug Yo fK Ef v n xs hs aN ad news hx hl o9 h1 hn mF fun v' w' h2 h3 h4=>hK _ _ (h v' w' h2 h3 h4)
theorem vQ(b:Bool)(j:J)(r:List J):AQ b (j::r)=(if b then []else [44])++(lK j++AQ false r):=by rw[AQ]
theorem vR(b:Bool)(ks:List ByteArray)(j:J)(r:List J):AR b ks (j::r)=(if b then []else [44])++(quote (ints (ks.headD aT))++(58::(lK j++AR false ks.tail r))):=by rw[AR]
theorem Yx{t:ByteArray}(h:t.size=0):t=aT:=by
 cases t with
 | mk a=>
  have:a=#[]:=Array.eq_empty_of_size_eq_zero h;rw[this];rfl
open Go.RowKit
abbrev zJ:Obj:=.cells #[.int .i64 0,.int .i64 0,.string ⟨#[]⟩,.slice none 0 0,.slice none 0 0] 25
theorem qP{w:World}{B e size n:Nat}{v:Value}{xs:List Value}(h:w.ownsRow B e size v n xs):∃q n c,v=.slice q n c:=by
 rcases h.2 with⟨h',h0⟩| ⟨g',oK,cur,h',_⟩
 ·exact⟨_,_,_,h'⟩
 ·exact⟨_,_,_,h'⟩
theorem NU{W:World}{n:Nat}(h:W.heap.size=n){t:TypeId}{y0 y1 y2 y3 y4:Value}:∀j u, [y0,y1,y2,y3,y4][j]?=some u->(W.alloc (.cells #[y0,y1,y2,y3,y4] t)).cell? ((⟨n,0,none⟩:Addr).add j)=some u:=by
 subst h;exact dO _ _ _ _ _ _ _
theorem zgs{k i:Int}{t:ByteArray}{pk pl:Option Addr}{nk ck nl cl:Nat}:∀u∈ [Value.int .i64 k,.int .i64 i,.string t,.slice pk nk ck,.slice pl nl cl],u.oneCell'=true:=by
 intro u hu;simp only[List.mem_cons,List.not_mem_nil,or_false]at hu
 rcases hu with rfl| rfl| rfl| rfl| rfl<;>rfl
end Go.Proofs.YtldegjjaknelgaaGreatDoor

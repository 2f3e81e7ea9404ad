/- A part. -/
import Derived.Test.YtldkblgclochjaaGreatDoorE02
import Derived.BigQuiet
import Derived.Orders
import Derived.Tactics2
import Derived.Maps.AppendAt
set_option maxRecDepth 100000
set_option maxHeartbeats 16000000
namespace Go.Proofs.YtldkblgclochjaaGreatDoor
open Go.RowKit Go.Lib Go.Sort
theorem IY:∀x y:List UInt8,decide (Lib.compareBytes x y<0)=lessB x y
 | [], []=>rfl
 | [],_::_=>rfl
 | _::_, []=>rfl
 | a::x,b::y=>by
  unfold Lib.compareBytes lessB
  by_cases h1:a<b
  ·simp[h1]
  ·by_cases h2:b<a
   ·have h3:¬a=b:=fun h=>by subst h;exact h1 h2
    simp[h1,h2,h3]
   ·have h3:a=b:=Classical.byContradiction fun h=>(UInt8.lt_or_lt_of_ne h).elim h1 h2;rw[if_neg h1,if_neg h2,IY x y];simp[h3]
def aM(ks:List ByteArray)(i:Nat):ByteArray:=ks.getD i aH
theorem Mt{O:Nat->Prop}{ks:List ByteArray}{p:Option Addr}{c h:Nat}{W:World}(j:j5 O W p c ks)(G:W.cell? ⟨h,0,none⟩=some (.slice p ks.length c))(a b:Nat)(F:a<ks.length)(m:b<ks.length):
    Calls Tryz.prog 138 #[.int .i64 a,.int .i64 b,.pointer (some ⟨h,0,none⟩)] W fun e w'=>e=.returned (.int .i64 (Lib.compareBytes (aM ks a).data.toList (aM ks b).data.toList))/\∃q,w'=W.drewN q:=by
 obtain⟨f,rfl,_,u⟩:=j.2 a F;obtain⟨k,E,_,z⟩:=j.2 b m
 cases E
 change W.cell? (f.add a)=some (.string (aM ks a))at u;change W.cell? (f.add b)=some (.string (aM ks b))at z;have d:=fun A:World=>Tryz.strings_Compare (aM ks a) (aM ks b) A;generalize Lib.compareBytes (aM ks a).data.toList (aM ks b).data.toList=r at d ⊢;generalize aM ks a=x at*;generalize aM ks b=y at*;go_enter Tryz.func138,Tryz.ntmps138;go_wp2;go_quiet (first| (go_at_call 139;exact Calls.quiet_of_same (d _)));go_wp2;go_ret;exact⟨rfl,nq,rfl⟩
theorem EW{α:Type} [Inhabited α](enc:α->Value)(w:World)(g m:Nat)(d:Array α)(os:Array Obj):ag (fun k=>k=g) w (sortWorld enc w g 0 m d os):=by
 refine⟨rfl,rfl,rfl, ?_,fun k c f=> ?_⟩
 ·unfold sortWorld grow putRow mapBlock Sort.ahead;simp
 ·unfold sortWorld;rw[heap_grow_old _ _ (by unfold putRow mapBlock Sort.ahead;simpa using c)];unfold putRow mapBlock Sort.ahead;simp only[Array.getElem?_modify];rw[if_neg (fun h=>f h.symm)]
def zW(m:Nat)(x:Fin (m+1)):Value:=.int .i64 (x.val:Int)
def cfK(ks:List ByteArray)(m:Nat)(x y:Fin (m+1)):Int:=Lib.compareBytes (aM ks x.val).data.toList (aM ks y.val).data.toList
theorem GD(ks:List ByteArray)(m:Nat)(x y:Fin (m+1)):ltOf (cfK ks m) x y=pQ (aM ks x.val) (aM ks y.val):=IY _ _
theorem Mv{a b c:ByteArray}(h:pQ a b=false)(d:pQ b c=false):pQ a c=false:=by
 cases hac:pQ a c with
 | false=>rfl
 | true=>
  by_cases f:a=b
  ·subst f;rw[d]at hac;cases hac
  ·rcases qB f with h1| h1
   ·rw[h1]at h;cases h
   ·have:=mE h1 hac;rw[d]at this;cases this
theorem zfI(ks:List ByteArray)(m:Nat):SWO (ltOf (cfK ks m)) where
 irrefl x:=by rw[GD];exact jL _
 trans x y z h1 h2:=by rw[GD]at*;exact mE h1 h2
 ntrans x y z h1 h2:=by rw[GD]at*;exact Mv h1 h2
def kT(w:World)(g:Nat)(L:List Nat)(ks:List ByteArray):Prop:=
 L.Perm (List.range ks.length)/\(∀i j,i<j->j<L.length->pQ (aM ks (L.getD j 0)) (aM ks (L.getD i 0))=false)/\∀j,j<L.length->w.cell? ⟨g,j,none⟩=some (.int .i64 ((L.getD j 0:Nat):Int))
def wy(k n:Nat):Array Value:=((List.range n).map fun i=>Value.int .i64 ((if i<k then i else 0:Nat):Int)).toArray
theorem uB(k n i:Nat)(h:i<n):(wy k n)[i]?=some (.int .i64 ((if i<k then i else 0:Nat):Int)):=by
 unfold wy;simp[h]
theorem Rm(k n:Nat)(h:k<n):(wy k n).setIfInBounds k (.int .i64 (k:Int))=wy (k+1) n:=by
 apply Array.ext_getElem?
 intro i;rw[Array.getElem?_setIfInBounds]
 by_cases d:k=i
 ·subst d;rw[if_pos rfl,if_pos (by unfold wy;simpa using h),uB _ _ _ h,if_pos (by omega)]
 ·rw[if_neg d]
  by_cases c:i<n
  ·rw[uB _ _ _ c,uB _ _ _ c]
   by_cases h1:i<k
   ·rw[if_pos h1,if_pos (by omega)]
   ·rw[if_neg h1,if_neg (by omega)]
  ·unfold wy;rw[List.getElem?_toArray,List.getElem?_toArray,List.getElem?_eq_none (by simp;omega),List.getElem?_eq_none (by simp;omega)]
def vW(m:Nat):Array (Fin (m+1)):=(List.finRange (m+1)).toArray
theorem qD(m:Nat):(vW m).size=m+1:=by unfold vW;simp
theorem Zg(m j:Nat)(h:j<m+1):(vW m)[j]! =⟨j,h⟩:=by
 unfold vW;rw[getElem!_pos _ j (by simpa using h)];simp
theorem Tryz.PX:(Tryz.prog.info? 3).map (fun i=>(i.zero,i.size,i.bytes))=some (some (.int .i64 0),1,8):=by kernel_rfl
theorem Rn{m:Nat}{ks:List ByteArray}(E:ks.length=m+1){c:Array (Fin (m+1))}(z:PermIn 0 (vW m).size (vW m) c)(I:SortedIn (ltOf (cfK ks m)) 0 (vW m).size c){w:World}{g:Nat}(A:Holds (zW m) w g 0 c):
    kT w g (c.toList.map (·.val)) ks:=by
 obtain⟨h1,_,h3⟩:=z;have h:c.size=m+1:=by rw[h1,qD]
 have F:(c.extract 0 (vW m).size).toList=c.toList:=by rw[<-h1,Array.extract_size]
 have H:((vW m).extract 0 (vW m).size).toList=List.finRange (m+1):=by rw[Array.extract_size];unfold vW;simp
 rw[F,H]at h3;have u:∀j,j<m+1->(c.toList.map (·.val)).getD j 0=c[j]!.val:=by
  intro j d;rw[List.getD_eq_getElem?_getD,List.getElem?_map,List.getElem?_eq_getElem (by simpa [h]using d),getElem!_pos c j (by omega)];simp
 refine⟨?_,fun i j k d=> ?_,fun j d=> ?_⟩
 ·have:=h3.map (fun x:Fin (m+1)=>x.val);have G:(List.finRange (m+1)).map (fun x:Fin (m+1)=>x.val)=List.range (m+1):=by
   apply List.ext_getElem
   ·simp
   ·intro n h1 h2;simp
  rw[G]at this;rw[E];exact this
 ·have f:j<m+1:=by simpa [h]using d
  rw[u j f,u i (by omega)];have:=I i j (Nat.zero_le _) k (by rw[qD];exact f);rw[GD]at this;exact this
 ·have f:j<m+1:=by simpa [h]using d
  have:=(A j (by omega)).1;rw[Nat.zero_add]at this;rw[this,u j f]
  rfl
theorem Bf{w:World}{B e g n:Nat}{xs:List Value}(h:w.ownsRow B e 1 (.slice (some ⟨g,0,none⟩) n n) n xs):w.heap[g]?=some (.cells xs.toArray e (0,0)):=by
 rcases h.2 with⟨c,_⟩| ⟨k,cap,cur,f,j,d,h1,h2,h3,h4⟩
 ·cases c
 ·cases f
  rw[d];have e:xs=cur.toList:=by rw[<-h4,List.take_of_length_le (by simp;omega)]
  rw[e]
theorem Mw(n:Nat):(madeCells #[Value.int .i64 0] n).toList.toArray=wy 0 n:=by
 rw[toList_madeCells_one];unfold wy
 congr 1
 apply List.ext_getElem
 ·simp
 ·intro i h1 h2;simp
theorem zfJ:∀args w,(callFunc 138 args).run Tryz.prog w=.ok (.enter 138 args) w:=enters_of Tryz.func138 (by kernel_rfl) rfl
theorem IZ{O:Nat->Prop}{ks:List ByteArray}{p:Option Addr}{c m:Nat}{w:World}(mF:j5 O w p c ks)(hO:∀k,O k->k<w.heap.size)(f:ks.length=m+1)(hl:ks.length<=1000000):
    Calls Tryz.prog 112 #[.slice p ks.length c] w fun e w'=>∃g L,e=.returned (.slice (some ⟨g,0,none⟩) ks.length ks.length)/\kT w' g L ks/\w.heap.size<=g/\g<w'.heap.size/\Below w.heap.size w w':=by
 obtain⟨i0,hi,xG,zU,Bd⟩:=info_parts Tryz.PX;have HM:Hid (ks.length=m+1):=f;clear f;have vV:(w.alloc (.cells #[.slice p ks.length c] 22)).cell? ⟨w.heap.size,0,none⟩=some (.slice p ks.length c):=aQ (cur:= [_]) (heap_alloc_new _ _) 0 _ rfl;have o7:Below w.heap.size w (w.alloc (.cells #[.slice p ks.length c] 22)):=(Below.refl _ _).alloc (Nat.le_refl _) _;go_enter Tryz.func112,Tryz.ntmps112;go_wp2_with(first
  | (at_make;refine wpList_make_full _ rfl _ _ 124 rfl (w.heap.size+1) 3 i0 (.int .i64 0) 1 Tryz.underlying124 hi xG zU _ _ _ _ ks.length rfl rfl rfl rfl ?b2 ?b3 ?b4 ?_))
 case b2=>rw[Bd];omega
 case b3=>unfold maxLen;omega
 case b4=>simp
 intro w1 Y V;have X:(w.alloc (.cells #[.slice p ks.length c] 22)).heap.size=w.heap.size+1:=by simp
 have d:=Bf Y;rw[Mw]at d;have I:RowKit.Below (w.heap.size+1) (w.alloc (.cells #[.slice p ks.length c] 22)) w1:=(RowKit.Below.refl _ _).grown V (by rw[X];exact Nat.le_refl _) (by simp);clear Y V;go_wp2
 go_loopw [10] (fun i wr=>∃k:Nat,i=.int .i64 k/\k<=ks.length/\wr.heap[w.heap.size+1]?=some (.cells (wy k ks.length) 3 (0,0))/\RowKit.Below (w.heap.size+1) (w.alloc (.cells #[.slice p ks.length c] 22)) wr) (fun i _=>ks.length - (intOf i).toNat)
 case atStart=>exact⟨0,rfl,Nat.zero_le _,d,I⟩
 case round=>
  clear d I;obtain⟨k,rfl,z,d,u⟩:=hrel
  by_cases E:k<ks.length
  ·have je:wr.cell? ⟨w.heap.size+1,k,none⟩=some (.int .i64 ((if k<k then k else 0:Nat):Int)):=by
     simp only[World.cell?,d];exact uB k ks.length k E
   have hfz:wr.frozen? ⟨w.heap.size+1,k,none⟩=false:=frozen_of_row wr _ k _ _ d;have UT:Hid ((wr.setCell ⟨w.heap.size+1,k,none⟩ (.int .i64 (k:Int))).heap[w.heap.size+1]?=some (.cells (wy (k+1) ks.length) 3 (0,0))):=by
    rw[heap_setCell_same wr _ k _ _ _ d,Rm k _ E];rfl
   have HB:=u.setCell (p:=⟨w.heap.size+1,k,none⟩) (Nat.le_refl _) (.int .i64 (k:Int));go_wp2;go_roundw
   case rel=>exact⟨k+1,by go_num,E,UT.out,HB⟩
   case measure=>simp[intOf];omega
  ·obtain rfl:k=ks.length:=by omega
   have f:=HM.out;have fI:=u.size;rw[X]at fI;have U:w.heap.size+1<wr.heap.size:=(Array.getElem?_eq_some_iff.1 d).1;have H:Holds (zW m) wr (w.heap.size+1) 0 (vW m):=by
    intro j T;rw[qD]at T;rw[Nat.zero_add];refine⟨?_,frozen_of_row wr _ j _ _ d⟩;have h:=uB ks.length ks.length j (by omega);rw[if_pos (show j<ks.length by omega)]at h;rw[Zg m j T];simp only[World.cell?,d];exact h
   have K:RowKit.Below w.heap.size w wr:=((RowKit.Below.refl _ _).alloc (Nat.le_refl _) _).trans (u.mono (by omega));have N:CmpReads Tryz.prog 138 #[.pointer (some ⟨w.heap.size,0,none⟩)] (zW m) (cfK ks m) (w.heap.size+1) 0 (vW m).size wr:=by
    intro n os G hdk x y;have Z:=EW (zW m) wr (w.heap.size+1) n G os;have UU:(sortWorld (zW m) wr (w.heap.size+1) 0 n G os).cell? ⟨w.heap.size,0,none⟩=some (.slice p ks.length c):=by
     rw[Z.cell (p:=⟨w.heap.size,0,none⟩) (by simp only;omega) (by simp only;omega),u.cell (p:=⟨w.heap.size,0,none⟩) (by simp only;omega)];exact vV
    have A:j5 O (sortWorld (zW m) wr (w.heap.size+1) 0 n G os) p c ks:=mF.carry fun k z=>⟨z,by
     have gZ:=hO k z;rw[Z.block k (by omega) (by omega),K.block k gZ]⟩
    exact Mt A UU x.val y.val (by omega) (by omega)
   have Zf:Calls Tryz.prog 137 #[.slice (some ⟨w.heap.size+1,0,none⟩) ks.length ks.length,.func (.func 138) #[] #[.pointer (some ⟨w.heap.size,0,none⟩)]] wr fun e w'=>e=.returned (.tuple #[])/\(∃L,kT w' (w.heap.size+1) L ks)/\ag (fun k=>k=w.heap.size+1) wr w':=by
    have F:(Value.slice (some ⟨w.heap.size+1,0,none⟩) ks.length ks.length)=Value.slice (some ⟨w.heap.size+1,0,none⟩) (vW m).size ks.length:=by rw[qD,f]
    rw[F];refine(Tryz.slices_SortFunc (zW m) (fun _=>rfl) (cfK ks m) (zfI ks m) 138 #[.pointer (some ⟨w.heap.size,0,none⟩)] (w.heap.size+1) 0 ks.length (vW m) wr zfJ N.lays H U (by rw[qD];omega)).mono fun e w' ⟨h1,d',n,os,hp,hs,hw⟩=> ?_;subst hw;exact⟨h1,⟨_,Rn f hp hs (holds_sortWorld (zW m) wr (w.heap.size+1) 0 n (vW m) d' os U H hp.1)⟩,EW _ _ _ _ _ _⟩
   clear f N H d;go_wp2_with(first
    | (go_at_call 137;refine Zf.mono ?_;rintro e w2 ⟨rfl,⟨L,hL⟩,S⟩))
   go_ret;refine⟨w.heap.size+1,L,rfl,hL,by omega,by have:=S.size;omega, ?_⟩;exact K.trans (S.below (by omega) fun k z=>by omega)
theorem I1(p:Option Addr)(c:Nat)(w:World):
    Calls Tryz.prog 112 #[.slice p 0 c] w fun e w'=>∃g,e=.returned (.slice (some ⟨g,0,none⟩) 0 0)/\w.heap.size<=g/\g<w'.heap.size/\Below w.heap.size w w':=by
 obtain⟨i0,H,A,G,K⟩:=info_parts Tryz.PX;have I:(w.alloc (.cells #[.slice p 0 c] 22)).cell? ⟨w.heap.size,0,none⟩=some (.slice p 0 c):=aQ (cur:= [_]) (heap_alloc_new _ _) 0 _ rfl;go_enter Tryz.func112,Tryz.ntmps112;go_wp2_with(first
  | (at_make;refine wpList_make_full _ rfl _ _ 124 rfl (w.heap.size+1) 3 i0 (.int .i64 0) 1 Tryz.underlying124 H A G _ _ _ _ 0 rfl rfl rfl rfl ?b2 ?b3 ?b4 ?_))
 case b2=>omega
 case b3=>unfold maxLen;omega
 case b4=>simp
 intro j x u;have F:(w.alloc (.cells #[.slice p 0 c] 22)).heap.size=w.heap.size+1:=by simp
 have m:=Bf x;have E:w.heap.size+1<j.heap.size:=(Array.getElem?_eq_some_iff.1 m).1;have k:RowKit.Below w.heap.size (w.alloc (.cells #[.slice p 0 c] 22)) j:=(RowKit.Below.refl _ _).grown u (by rw[F];omega) (by simp);have z:RowKit.Below w.heap.size w j:=((RowKit.Below.refl _ _).alloc (Nat.le_refl _) _).trans k;have f:∀d:World,Calls Tryz.prog 137 #[.slice (some ⟨w.heap.size+1,0,none⟩) 0 0,.func (.func 138) #[] #[.pointer (some ⟨w.heap.size,0,none⟩)]] d fun e w'=>e=.returned (.tuple #[])/\d=w':=
  fun d=>(Tryz.slices_SortFunc_none (α:=Nat) (some ⟨w.heap.size+1,0,none⟩) 0 _ d).mono fun _ _ h=>⟨h.1,h.2.symm⟩
 clear x u m k;go_wp2;refine wp_loop_rounds 1 ?_;rw[rounds_succ];go_wp2_with(first
  | (go_at_call 137;refine(f _).mono ?_;rintro e w' ⟨rfl,rfl⟩))
 go_ret;exact⟨w.heap.size+1,rfl,by omega,E,z⟩
theorem BP{O:Nat->Prop}{ks:List ByteArray}{p:Option Addr}{c:Nat}{w:World}(m:j5 O w p c ks)(h:∀k,O k->k<w.heap.size)(f:ks.length<=1000000):
    Calls Tryz.prog 112 #[.slice p ks.length c] w fun e w'=>∃g L,e=.returned (.slice (some ⟨g,0,none⟩) ks.length ks.length)/\kT w' g L ks/\w.heap.size<=g/\g<w'.heap.size/\Below w.heap.size w w':=by
 cases ks with
 | nil=>
  refine(I1 p c w).mono fun e w' ⟨g,h1,h2,h3,h4⟩=>⟨g, [],h1,⟨List.Perm.refl _,fun i j _ d=>absurd d (by simp),fun j d=>absurd d (by simp)⟩,h2,h3,h4⟩
 | cons k r=>exact IZ m h rfl f
theorem EY(k:ByteArray)(v:J):∀(q:List (ByteArray×J)),(putK k v q).Perm ((k,v)::q)
 | []=>List.Perm.refl _
 | y::q=>by
  unfold putK
  split
  ·exact List.Perm.refl _
  ·exact((EY k v q).cons y).trans (List.Perm.swap _ _ _)
theorem oG:∀(q:List (ByteArray×J)),(fT q).Perm q
 | []=>List.Perm.refl _
 | y::q=>by
  unfold fT;exact(EY y.1 y.2 _).trans ((oG q).cons y)
theorem Rp{a b:ByteArray}(h:pQ a b=true):pQ b a=false:=by
 cases h':pQ b a with
 | false=>rfl
 | true=>have:=mE h h';rw[jL]at this;cases this
theorem BQ:∀(a b:List (ByteArray×J)),rises (a.map (·.1))=true->rises (b.map (·.1))=true->a.Perm b->a=b
 | [],b,_,_,h=>(List.nil_perm.1 h).symm ▸ rfl
 | x::a, [],_,_,h=>by have:=h.length_eq;simp at this
 | x::a,y::b,ha,hb,h=>by
  simp only[List.map_cons,rises,Bool.and_eq_true]at ha hb;have d:x∈y::b:=h.subset (by simp);have k:y∈x::a:=h.symm.subset (by simp);have j:x=y:=by
   rcases List.mem_cons.1 d with h1| h1
   ·exact h1
   ·rcases List.mem_cons.1 k with h2| h2
    ·exact h2.symm
    ·have f:=List.all_eq_true.1 hb.1 x.1 (List.mem_map.2 ⟨x,h1,rfl⟩);have c:=List.all_eq_true.1 ha.1 y.1 (List.mem_map.2 ⟨y,h2,rfl⟩);rw[Rp f]at c;cases c
  subst j;rw[BQ a b ha.2 hb.2 ((List.perm_cons x).1 h)]
theorem iD:∀{ks:List ByteArray},noKeyTwice ks=true->ks.Pairwise (· ≠ ·)
 | [],_=>List.Pairwise.nil
 | k::r,h=>by
  simp only[noKeyTwice,Bool.and_eq_true,Bool.not_eq_true',List.any_eq_false,decide_eq_true_eq]at h;refine List.pairwise_cons.2 ⟨fun x c e=>h.1 x c (by rw[e]),iD h.2⟩
theorem gU:∀{ks:List ByteArray},ks.Pairwise (· ≠ ·)->noKeyTwice ks=true
 | [],_=>rfl
 | k::r,h=>by
  have c:=List.pairwise_cons.1 h;simp only[noKeyTwice,Bool.and_eq_true,Bool.not_eq_true',List.any_eq_false,decide_eq_true_eq];refine⟨fun x d e=>c.1 x d ?_,gU c.2⟩
  cases x;cases k
  simp only at e;rw[e]
def qF(l:List J)(i:Nat):J:=l.getD i J.zero
def DY(ks:List ByteArray)(l:List J)(L:List Nat):List (ByteArray×J):=L.map fun i=>(aM ks i,qF l i)
theorem EZ:∀(ks:List ByteArray) (l:List J),ks.length=l.length->DY ks l (List.range ks.length)=ks.zip l
 | ks,l,h=>by
  unfold DY
  apply List.ext_getElem
  ·simp;omega
  ·intro i h1 h2;have c:i<ks.length:=by simpa using h1
   simp only[List.getElem_map,List.getElem_range,List.getElem_zip,aM,qF];rw[List.getD_eq_getElem?_getD,List.getD_eq_getElem?_getD,List.getElem?_eq_getElem c,List.getElem?_eq_getElem (by omega)]
   rfl
theorem BR{α:Type}(f:α->ByteArray):∀(l:List α),l.Pairwise (fun x y=>pQ (f x) (f y)=true)->rises (l.map f)=true
 | [],_=>rfl
 | x::l,h=>by
  have c:=List.pairwise_cons.1 h;simp only[List.map_cons,rises,Bool.and_eq_true];refine⟨List.all_eq_true.2 fun z j=> ?_,BR f l c.2⟩;obtain⟨y,d,rfl⟩:=List.mem_map.1 j;exact c.1 y d
theorem I4{w:World}{g:Nat}{L:List Nat}{ks:List ByteArray}{l:List J}(I:kT w g L ks)(u:ks.Pairwise (· ≠ ·))(S:ks.length=l.length):DY ks l L=fT (ks.zip l):=by
 obtain⟨c,T,_⟩:=I;have U:L.length=ks.length:=by rw[c.length_eq];simp
 have K:(DY ks l L).Perm (ks.zip l):=by
  rw[<-EZ ks l S];exact c.map _
 have A:(ks.zip l).Pairwise fun x y=>x.1≠y.1:=by
  have:((ks.zip l).map (·.1)).Pairwise (· ≠ ·):=by rw[List.map_fst_zip (by omega)];exact u
  exact List.pairwise_map.1 this
 refine BQ _ _ ?_ (lK _ A) (K.trans (oG _).symm);unfold DY;rw[List.map_map];refine BR _ L ?_;rw[List.pairwise_iff_getElem];intro i j E f d;have h1:=T i j d f;have N:L.getD i 0=L[i]:=by rw[List.getD_eq_getElem?_getD,List.getElem?_eq_getElem E];rfl
 have G:L.getD j 0=L[j]:=by rw[List.getD_eq_getElem?_getD,List.getElem?_eq_getElem f];rfl
 rw[N,G]at h1;have F:L.Nodup:=c.nodup_iff.2 List.nodup_range;have H:L[i]≠L[j]:=List.pairwise_iff_getElem.1 F i j E f d;have k:L[i]<ks.length:=by have:=c.subset (List.getElem_mem E);simpa using this
 have z:L[j]<ks.length:=by have:=c.subset (List.getElem_mem f);simpa using this
 have m:aM ks L[i]≠aM ks L[j]:=by
  unfold aM;rw[List.getD_eq_getElem?_getD,List.getD_eq_getElem?_getD,List.getElem?_eq_getElem k,List.getElem?_eq_getElem z];simp only[Option.getD_some];intro e
  rcases Nat.lt_or_gt_of_ne H with h| h
  ·exact List.pairwise_iff_getElem.1 u _ _ k z h e
  ·exact List.pairwise_iff_getElem.1 u _ _ z k h e.symm
 rcases qB m with h| h
 ·exact h
 ·rw[h]at h1;cases h1
open Go
section
variable {P : Program} {dQ : Array Oper} {Q : Exit -> Act -> World -> Prop} {md : Region.Mode} {C : World -> Prop}
theorem Rq{x y:Oper}{v:Value}{a:Act}{K:Act->World->Prop}{r:Result Next}(j:∀d,x.dst=some d->y.dst≠some d)
    (E:∀c a w,Q (.panic c) (a.put x.dst v) w->Q (.panic c) a w) (R:Act->Prop) (m:∀u,R (a.put y.dst u)) (F:∀d u,R ({a with defers:=d::a.defers}.put y.dst u))
    (h:y.upon P (a.put x.dst v) K Q r):y.upon P a (fun A w'=>R A/\K (A.put x.dst v) w') Q r:=by
 match r with
 | .ok (.value u) w'=>exact⟨m u,(Act.put_comm a v u j) ▸ h⟩
 | .ok .skip w'=>exact⟨m _,(Act.put_comm a v undef j) ▸ h⟩
 | .ok (.defer d) w'=>
  refine⟨F d _, ?_⟩;rw[<-Act.put_comm _ v undef j,<-Act.put_defers];exact h
 | .ok (.enter f args) w'=>
  refine Calls.mono h fun e z k=> ?_
  match e with
  | .returned u=>exact⟨m u,(Act.put_comm a v u j) ▸ k⟩
  | .panicked c=>exact E _ _ _ k
  | .outgrown=>exact k
 | .ok (.row row args) w'=>exact Rows.mono h fun u z k=>⟨m u,(Act.put_comm a v u j) ▸ k⟩
 | .halt (.panic u) w'=>exact E _ _ _ h
 | .halt .blocked _=>exact h
 | .halt .waiting _=>exact h
 | .halt (.stuck _) _=>exact h
 | .halt (.unsupported _) _=>exact h
theorem Rs{j:Nat}{x y:Oper}{v:Value}(H:dQ[j]?=some y)(k:x.apart dQ y=true)(E:∀cs b,x.op≠ .select cs b)(G:∀cs b,y.op≠ .select cs b)
    (I:∀c a w,Q (.panic c) (a.put x.dst v) w->Q (.panic c) a w) {K:Act->World->Prop} {a:Act} {w:World} (h:wpOp P dQ Q j K (a.put x.dst v) w):
    wpOp P dQ Q j (fun f w'=>(execOp f.eval x=execOp a.eval x/\Region.wanted x (yielded dQ f.tmps)=Region.wanted x (yielded dQ a.tmps))/\K (f.put x.dst v) w') a w:=by
 obtain⟨h1,h2,h3⟩:=Oper.apart_spec k;have z:∀u,execOp (a.put y.dst u).eval x=execOp a.eval x/\Region.wanted x (yielded dQ (a.put y.dst u).tmps)=Region.wanted x (yielded dQ a.tmps):=
  fun u=>⟨execOp_put x E a y.dst u h3,wanted_put x a y.dst u h3⟩
 have T:∀(d:Deferred) u,execOp ({a with defers:=d::a.defers}.put y.dst u:Act).eval x=execOp a.eval x/\Region.wanted x (yielded dQ ({a with defers:=d::a.defers}.put y.dst u:Act).tmps)=Region.wanted x (yielded dQ a.tmps):=
  fun d u=>⟨execOp_put x E {a with defers:=d::a.defers} y.dst u h3,wanted_put x {a with defers:=d::a.defers} y.dst u h3⟩
 have N:=wanted_put y a x.dst v h1;have F:=execOp_put y G a x.dst v h1;unfold wpOp at h ⊢;simp only[H]at h ⊢;rw[N]at h
 by_cases A:Region.wanted y (yielded dQ a.tmps)=true
 ·rw[if_pos A]at h ⊢
  rcases h with h| ⟨m,S⟩
  ·left
   unfold Oper.wp at h ⊢;rw[F]at h;exact Rq h2 I (fun f=>execOp f.eval x=execOp a.eval x/\Region.wanted x (yielded dQ f.tmps)=Region.wanted x (yielded dQ a.tmps)) z T h
  ·right
   unfold Oper.asks at m ⊢;rw[F]at m;exact⟨m,S⟩
 ·rw[if_neg A]at h ⊢;exact⟨z _,(Act.put_comm a v undef h2) ▸ h⟩
def wpIn(P:Program)(md:Region.Mode)(dQ:Array Oper)(Q:Exit->Act->World->Prop)(C:World->Prop):Nat->Array Bool->Act->World->Prop
 | 0,listed,a,w=>C w/\Region.ready md dQ listed= []/\Q .normal a w
 | n+1,listed,a,w=>C w/\(Region.ready md dQ listed= []->Q .normal a w)/\∀i∈Region.ready md dQ listed,wpOp P dQ Q i (wpIn P md dQ Q C n (listed.setIfInBounds i true)) a w
theorem wpIn.any:∀{n:Nat} {listed:Array Bool} {a:Act} {w:World},wpIn P md dQ Q C n listed a w->wpAny P md dQ Q n listed a w
 | 0,_,_,_,h=>h.2
 | _+1,_,_,_,h=>⟨h.2.1,fun i d=>wpOp_mono (fun _ _ c=>wpIn.any c) (h.2.2 i d)⟩
def Quiet(P:Program)(dQ:Array Oper)(C:World->Prop)(o:Oper)(v:Value)(a:Act):Prop:=
 (Region.wanted o (yielded dQ a.tmps)=true/\∀w,C w->(execOp a.eval o).run P w=.ok (.value v) w)\/ (Region.wanted o (yielded dQ a.tmps)=false/\v=undef)
theorem Quiet.op{i:Nat}{o:Oper}{v:Value}{a:Act}(f:dQ[i]?=some o)(j:Quiet P dQ C o v a){K:Act->World->Prop}{w:World}(d:C w)(h:K (a.put o.dst v) w):wpOp P dQ Q i K a w:=by
 unfold wpOp;rw[f];simp only
 rcases j with⟨c,k⟩| ⟨c,rfl⟩
 ·rw[if_pos c]
  left
  unfold Oper.wp;rw[k w d];exact h
 ·rw[if_neg (by rw[c];exact Bool.false_ne_true)];exact h
theorem Mx{i:Nat}{o:Oper}{v:Value}(T:dQ[i]?=some o)(Z:Region.noSelect dQ=true)(hQ:∀c a w,Q (.panic c) (a.put o.dst v) w->Q (.panic c) a w):
    ∀(n:Nat) (listed:Array Bool) (a:Act) (w:World),
     (∀j y,dQ[j]?=some y->j≠i->listed.getD j true=false->(∀e∈y.after,Region.binds md e=true->e.on≠i)->o.apart dQ y=true)→
     i∈Region.ready md dQ listed->Quiet P dQ C o v a->wpIn P md dQ Q C n (listed.setIfInBounds i true) (a.put o.dst v) w->wpIn P md dQ Q C (n+1) listed a w:=by
 intro n
 induction n with
 | zero=>
  intro listed a w _ f E H;refine⟨H.1,fun h=>(by rw[h]at f;cases f),fun j I=> ?_⟩
  by_cases d:j=i
  ·subst d;exact E.op T H.1 H
  ·have V:=ready_mono I d;rw[H.2.1]at V
   cases V
 | succ n ih=>
  intro listed a w G f E H;refine⟨H.1,fun h=>(by rw[h]at f;cases f),fun j I=> ?_⟩
  by_cases d:j=i
  ·subst d;exact E.op T H.1 H
  ·obtain⟨u,y,m,eT⟩:=mem_ready.1 I;have S:∀e∈y.after,Region.binds md e=true->e.on≠i:=by
    intro e he hb N;have A:=eT e he hb;have Y:=(mem_ready.1 f).1;rw[N]at A
    by_cases X:i<listed.size
    ·simp[X]at Y A;rw[Y]at A
     cases A
    ·simp[X]at A
   have h2:=Rs m (G j y m d u S) (fun cs b=>Region.noSelect_spec Z i o cs b T) (fun cs b=>Region.noSelect_spec Z j y cs b m) hQ (H.2.2 j (ready_mono I d));refine wpOp_mono (fun a' w' h3=>ih (listed.setIfInBounds j true) a' w' ?_ (ready_mono f (Ne.symm d)) ?_ ?_) h2
   ·intro k z hk K x U;refine G k z hk K ?_ U
    by_cases F:j=k
    ·subst F;exact u
    ·rw[getD_set_ne true F]at x;exact x
   ·unfold Quiet at E ⊢;rw[h3.1.1,h3.1.2];exact E
   ·rw[Array.setIfInBounds_comm _ _ d];exact h3.2
theorem vg{i:Nat}{o:Oper}{v:Value}{d:Option Tmp}{n:Nat}{listed:Array Bool}{a f:Act}{w:World}(j:dQ[i]?=some o)(m:o.dst=d)
    (E:Region.noSelect dQ=true) (A:Region.free md dQ listed i=true) (k:(Region.ready md dQ listed).contains i=true)
    (x:∀c a w,Q (.panic c) (a.put d v) w->Q (.panic c) a w) (u:Quiet P dQ C o v a) (z:a.put d v=f)
    (h:wpIn P md dQ Q C n (listed.setIfInBounds i true) f w):wpIn P md dQ Q C (n+1) listed a w:=by
 subst m z;exact Mx j E x n listed a w (Region.free_spec j A) (by simpa using k) u h
theorem aa{i:Nat}{o:Oper}{v:Value}{d:Option Tmp}{n:Nat}{listed:Array Bool}{a f:Act}{w:World}(u:dQ[i]?=some o)
    (h:wpIn P md dQ Q C n (listed.setIfInBounds i true) f w) (k:o.dst=d:=by rfl) (x:Region.wanted o (yielded dQ a.tmps)=true:=by rfl) (m:∀w,C w->(execOp a.eval o).run P w=.ok (.value v) w:=by(intro G H;go_simp;first| done| with_reducible rfl)) (A:a.put d v=f:=by(go_frame;rfl))
    (F:Region.noSelect dQ=true:=by kernel_rfl) (E:Region.free md dQ listed i=true:=by kernel_rfl) (j:(Region.ready md dQ listed).contains i=true:=by kernel_rfl)
    (z:∀c a w,Q (.panic c) (a.put d v) w->Q (.panic c) a w:=by exact fun _ _ _ h=>h):wpIn P md dQ Q C (n+1) listed a w:=
 vg u k F E j z (Or.inl ⟨x,m⟩) A h
theorem ay{i:Nat}{o:Oper}{d:Option Tmp}{n:Nat}{listed:Array Bool}{a f:Act}{w:World}(m:dQ[i]?=some o)
    (h:wpIn P md dQ Q C n (listed.setIfInBounds i true) f w)
    (z:a.put d undef=f:=by(go_frame;rfl)) (k:o.dst=d:=by rfl) (u:Region.wanted o (yielded dQ a.tmps)=false:=by rfl)
    (E:Region.noSelect dQ=true:=by kernel_rfl) (A:Region.free md dQ listed i=true:=by kernel_rfl) (j:(Region.ready md dQ listed).contains i=true:=by kernel_rfl)
    (x:∀c a w,Q (.panic c) (a.put d undef) w->Q (.panic c) a w:=by exact fun _ _ _ h=>h):wpIn P md dQ Q C (n+1) listed a w:=
 vg m k E A j x (Or.inr ⟨u,rfl⟩) z h
theorem aC{i:Nat}{o:Oper}{v:Value}{d:Option Tmp}{n:Nat}{listed:Array Bool}{a f:Act}{w:World}(u:dQ[i]?=some o)
    (m:∀w,C w->(execOp a.eval o).run P w=.ok (.value v) w) (h:wpIn P md dQ Q C n (listed.setIfInBounds i true) f w)
    (A:a.put d v=f:=by(go_frame;rfl)) (k:o.dst=d:=by rfl) (x:Region.wanted o (yielded dQ a.tmps)=true:=by rfl)
    (F:Region.noSelect dQ=true:=by kernel_rfl) (E:Region.free md dQ listed i=true:=by kernel_rfl) (j:(Region.ready md dQ listed).contains i=true:=by kernel_rfl)
    (z:∀c a w,Q (.panic c) (a.put d v) w->Q (.panic c) a w:=by exact fun _ _ _ h=>h):wpIn P md dQ Q C (n+1) listed a w:=
 vg u k F E j z (Or.inl ⟨x,m⟩) A h
theorem Rt{i:Nat}{n:Nat}{listed:Array Bool}{a:Act}{w:World}(f:C w)(c:Region.ready md dQ listed= [i])
    (h:wpOp P dQ Q i (wpIn P md dQ Q C n (listed.setIfInBounds i true)) a w):wpIn P md dQ Q C (n+1) listed a w:=
 ⟨f,fun h0=>(by rw[c]at h0;cases h0),fun j d=>by rw[c]at d;rw[List.mem_singleton.1 d];exact h⟩
theorem Zi{i:Nat}{o:Oper}{n:Nat}{listed:Array Bool}{a:Act}{w:World}(j:C w)(d:Region.ready md dQ listed= [i])(k:dQ[i]?=some o)(m:Region.wanted o (yielded dQ a.tmps)=true)
    (h:∀c:Act->World->Prop,(∀a w,wpIn P md dQ Q C n (listed.setIfInBounds i true) a w->c a w)->Oper.wp P o a w c Q):wpIn P md dQ Q C (n+1) listed a w:=by
 refine Rt j d ?_;unfold wpOp;rw[k];simp only;rw[if_pos m];exact .inl (h _ fun _ _ f=>f)
theorem av{i:Nat}{o:Oper}{n:Nat}{listed:Array Bool}{a:Act}{w:World}(f:C w)(j:dQ[i]?=some o)
    (h:∀c:Act->World->Prop,(∀a w,wpIn P md dQ Q C n (listed.setIfInBounds i true) a w->c a w)->Oper.wp P o a w c Q) (d:Region.ready md dQ listed= [i]:=by kernel_rfl) (k:Region.wanted o (yielded dQ a.tmps)=true:=by rfl):wpIn P md dQ Q C (n+1) listed a w:=Zi f d j k h
theorem aB{listed:Array Bool}{a:Act}{w:World}(d:C w)(c:Region.ready md dQ listed= [])(h:Q .normal a w):∀n,wpIn P md dQ Q C n listed a w
 | 0=>⟨d,c,h⟩
 | _+1=>⟨d,fun _=>h,fun i f=>by rw[c]at f;cases f⟩
theorem aD{id:Nat}{a:Act}{w:World}(c:P.follows .mixedOrders=true)(C:World->Prop)
    (h:wpIn P .any dQ Q C dQ.size (Array.replicate dQ.size false) a {w with drawn:=w.drawn+1}):(Code.region id dQ true).wp P Q a w:=
 wp_region_any c h.any
end
open Go.RowKit
section
variable {P : Program} {dQ : Array Oper} {Q : Exit -> Act -> World -> Prop} {md : Region.Mode} {C : World -> Prop}
theorem bR{i j:Nat}{o u:Oper}{n:Nat}{listed:Array Bool}{a:Act}{w:World}(x:C w)(k:Region.ready md dQ listed= [i,j])(E:dQ[i]?=some o)(z:dQ[j]?=some u)
    (F:Region.wanted o (yielded dQ a.tmps)=true) (A:Region.wanted u (yielded dQ a.tmps)=true)
    (h:∀d:Act->World->Prop,(∀a w,wpIn P md dQ Q C n (listed.setIfInBounds i true) a w->d a w)->Oper.wp P o a w d Q)
    (c:∀d:Act->World->Prop,(∀a w,wpIn P md dQ Q C n (listed.setIfInBounds j true) a w->d a w)->Oper.wp P u a w d Q):wpIn P md dQ Q C (n+1) listed a w:=by
 refine⟨x,fun h0=>(by rw[k]at h0;cases h0),fun m f=> ?_⟩;rw[k]at f;unfold wpOp
 rcases List.mem_cons.1 f with rfl| f
 ·rw[E];simp only;rw[if_pos F];exact .inl (h _ fun _ _ c=>c)
 ·rw[List.mem_singleton.1 f,z];simp only;rw[if_pos A];exact .inl (c _ fun _ _ c=>c)
end
theorem aP{w:World}{o:Oper}{a:Act}{K:Act->World->Prop}{Q:Exit->Act->World->Prop}(s x:Operand)(t:TypeId)
    (H:o.op=.call {callee:=.builtin .append,args:=#[s,x],argTypes:=#[t,t]})
    (base:Nat) (e:TypeId) (z:Value) (size bytes:Nat) (m:Tryz.prog.underlying t=some (.slice e)) (I:(Tryz.prog.info? e).map (fun i=>(i.zero,i.size,i.bytes))=some (some z,size,bytes))
    (d:z.cells.size=size) (G:0<size) (N:bytes<=100)
    (v:Value) (n:Nat) (xs:List Value) (hs:a.eval s=v) (X:w.ownsRow base e size v n xs)
    (f:Addr) (news:List Value) (Y:a.eval x=.slice (some f) 1 1) (Z:news.length=size) (F:∀j u,news[j]?=some u->w.cell? (f.add j)=some u) (h1:∀u∈news,u.oneCell'=true)
    (hn:n<=1000000) (T:base<=w.heap.size)
    (h:∀c w',w'.ownsRow base e size c (n+1) (xs++news)->w.grownBy w' v.ownBlock->(c.ownBlock=v.ownBlock\/ c.ownBlock=some w.heap.size)->K (a.put o.dst c) w'):o.wp Tryz.prog a w K Q:=by
 obtain⟨i0,V,E,U,S⟩:=info_parts I;have A:(n+1)*bytes<=140737488355328:=by
  have:(n+1)*bytes<=(n+1)*100:=Nat.mul_le_mul_left _ N;omega
 obtain⟨c,w',k,h2,h3,h4,h5⟩:=run_append_own_at (P:=Tryz.prog) w base t o.type e i0 z size bytes m V E U S d G v n xs X f 1 1 news (by rw[Z,Nat.one_mul]) F h1 (by unfold maxLen;omega) A T;unfold Oper.wp execOp;simp only[H,resolve,invoke,builtin,Sem.run_bind,Sem.run_pure,Result.andThen_ok,List.map_toArray,List.map_cons,List.map_nil,hs,Y,k];exact h c w' h2 h3 h5
theorem Tryz.jM:(Tryz.prog.info? 9).map (fun i=>(i.zero,i.size,i.bytes))=some (some (.string ⟨#[]⟩),1,16):=by kernel_rfl
theorem Tryz.eB:(Tryz.prog.info? 25).map (fun i=>(i.zero,i.size,i.bytes))=some (some (.agg #[.int .i64 0,.int .i64 0,.string ⟨#[]⟩,.slice none 0 0,.slice none 0 0]),5,80):=by kernel_rfl
def One(R:Nat):Nat->Prop:=fun k=>k=R
def fw(w:World)(R:Nat)(s:ByteArray)(p:Nat)(e l:Int):Prop:=w.heap[R]?=some (.cells #[.string s,.int .i64 p,.int .i64 e,.int .i64 l] 84 (0,0))
section
variable {w w' : World} {R p : Nat} {s : ByteArray} {e l : Int}
theorem fw.c0(h:fw w R s p e l):w.cell? ⟨R,0,none⟩=some (.string s):=aQ (cur:= [_,_,_,_]) h 0 _ rfl
theorem fw.c1(h:fw w R s p e l):w.cell? ⟨R,1,none⟩=some (.int .i64 p):=aQ (cur:= [_,_,_,_]) h 1 _ rfl
theorem fw.c2(h:fw w R s p e l):w.cell? ⟨R,2,none⟩=some (.int .i64 e):=aQ (cur:= [_,_,_,_]) h 2 _ rfl
theorem fw.c3(h:fw w R s p e l):w.cell? ⟨R,3,none⟩=some (.int .i64 l):=aQ (cur:= [_,_,_,_]) h 3 _ rfl
theorem fw.fz(h:fw w R s p e l)(j:Nat):w.frozen? ⟨R,j,none⟩=false:=frozen_of_row w R j _ _ h
theorem fw.lt(h:fw w R s p e l):R<w.heap.size:=(Array.getElem?_eq_some_iff.1 h).1
theorem fw.bf{S:Nat->Prop}(h:fw w R s p e l)(c:ag S w w')(d:¬S R):fw w' R s p e l:=(c.block R h.lt d).trans h
theorem fw.at(h:fw w R s p e l)(q:Nat):fw (w.setCell ⟨R,1,none⟩ (.int .i64 q)) R s q e l:=by
 unfold fw at h ⊢;rw[heap_setCell_same w R 1 _ _ _ h];rfl
theorem fw.setAt(w:World)(R q:Nat):ag (One R) w (w.setCell ⟨R,1,none⟩ (.int .i64 q)):=ag.setCell (ag.refl _ _) (fun _=>(rfl:R=R)) _
theorem fw.bad(h:fw w R s p e l)(c d:Int):fw ((w.setCell ⟨R,2,none⟩ (.int .i64 c)).setCell ⟨R,3,none⟩ (.int .i64 d)) R s p c d:=by
 unfold fw at h ⊢;have h1:(w.setCell ⟨R,2,none⟩ (.int .i64 c)).heap[R]?=some (.cells #[.string s,.int .i64 p,.int .i64 c,.int .i64 l] 84 (0,0)):=by
  rw[heap_setCell_same w R 2 _ _ _ h];rfl
 rw[heap_setCell_same _ R 3 _ _ _ h1];rfl
theorem fw.MB(w:World)(R:Nat)(c d:Int):ag (One R) w ((w.setCell ⟨R,2,none⟩ (.int .i64 c)).setCell ⟨R,3,none⟩ (.int .i64 d)):=
 ag.setCell (ag.setCell (ag.refl _ _) (fun _=>(rfl:R=R)) _) (fun _=>(rfl:R=R)) _
end
def short(s:ByteArray):Prop:=s.size<=16384
theorem Bg(s:ByteArray)(i:Nat)(h:i<s.size):ah (ints s) i=(s[i].toNat:Int):=dS s i h
theorem iK{w:World}{R p:Nat}{s:ByteArray}{e l:Int}(d:fw w R s p e l)(i:Nat):
    Calls Tryz.prog 141 #[.pointer (some ⟨R,0,none⟩),.int .i64 i] w fun x w'=>x=.returned (.int .u8 (ah (ints s) i))/\w=w':=by
 have c0:=d.c0
 by_cases h:i<s.size
 ·have c:Hid (ah (ints s) i=(s[i].toNat:Int)):=Bg s i h;go_enter Tryz.func141,Tryz.ntmps141;go_wp2;go_ret;exact⟨mW c.out.symm,rfl⟩
 ·have c:Hid (ah (ints s) i=0):=mD s i (by omega);go_enter Tryz.func141,Tryz.ntmps141;go_wp2;go_ret;exact⟨mW c.out.symm,rfl⟩
theorem dZ{w:World}{R p:Nat}{s:ByteArray}{e l:Int}(c:fw w R s p e l):
    Calls Tryz.prog 119 #[.pointer (some ⟨R,0,none⟩)] w fun x w'=>x=.returned (.int .u8 (ah (ints s) p))/\w=w':=by
 have c1:=c.c1;go_enter Tryz.func119,Tryz.ntmps119;go_wp2_with(go_at_call 141;refine(iK c p).mono ?_;rintro x w' ⟨rfl,rfl⟩);go_ret;exact⟨rfl,rfl⟩
theorem gN{w:World}{R p:Nat}{s:ByteArray}{e l:Int}(c:fw w R s p e l)(d f:Int):
    Calls Tryz.prog 92 #[.pointer (some ⟨R,0,none⟩),.int .i64 d,.int .i64 f] w fun x w'=>x=.returned (.tuple #[])/\fw w' R s p d f/\ag (One R) w w':=by
 have c2:=c.c2;have c3:=c.c3;have h:=c.fz 2;have f3:=c.fz 3;go_enter Tryz.func92,Tryz.ntmps92;go_wp2
 go_end0
 exact⟨rfl,c.bad d f,fw.MB _ _ d f⟩
theorem eX(c:Int)(w:World):Calls Tryz.prog 142 #[.int .u8 c] w fun x w'=>x=.returned (.bool (df c))/\w=w':=by
 go_enter Tryz.func142,Tryz.ntmps142;go_wp2
 all_goals
  go_ret;refine⟨ak ?_,rfl⟩;unfold df;rw[Bool.eq_iff_iff];simp;omega
theorem xH{t:List Int}:∀(l:List Int) (p:Nat),(∀c∈l,c≠0)->l≠ []->p<=t.length->yJ t p (word t l p)
 | [],_,_,h,_=>absurd rfl h
 | [c],p,hc,_,hp=>by
  unfold word;refine jq (BK (hc c (by simp)) hp) fun _ q _ _=>.inr ⟨(), ?_⟩
  rfl
 | c::d::r,p,hc,_,hp=>by
  unfold word;refine jq (BK (hc c (by simp)) hp) fun _ q _ j=>.inl ?_;exact xH (d::r) q (fun x f=>hc x (by simp at f ⊢;exact .inr f)) (by simp) j
theorem MC{c:Int}(h:df c=true):c≠0:=by
 unfold df at h;simp at h;omega
theorem take_len(t:List Int)(p:Nat)(f:Int->Bool)(c:p<=t.length):p+((t.drop p).takeWhile f).length<=t.length:=by
 have:=(List.takeWhile_sublist f (l:=t.drop p)).length_le;simp at this;omega
theorem UY(t:List Int)(p:Nat)(f:Int->Bool)(c:p<t.length)(d:f (ah t p)=true):0<((t.drop p).takeWhile f).length:=by
 have e:t.drop p=t[p]::t.drop (p+1):=List.drop_eq_getElem_cons c;have g:ah t p=t[p]:=by unfold ah;rw[List.getD_eq_getElem?_getD,List.getElem?_eq_getElem c];rfl
 rw[e,List.takeWhile_cons,<-g,d];simp
theorem wT{t:List Int}{p:Nat}(h:df (ah t p)=true):p<(digits t p).2/\(digits t p).2<=t.length:=by
 have c:=bz (MC h);unfold digits
 split
 ·exact⟨by simp,c⟩
 ·have h1:=UY t p df c h;have h2:=take_len t p df (by omega);exact⟨by simp only;omega,h2⟩
theorem ME{t:List Int}{p:Nat}(d:p<=t.length):yJ t p (number t p):=by
 unfold number;have c:p<=(if ah t p=45 then p+1 else p)/\(if ah t p=45 then p+1 else p)<=t.length:=by
  split
  ·rename_i h;exact⟨by omega,bz (by rw[h];decide)⟩
  ·exact⟨Nat.le_refl _,d⟩
 generalize (if ah t p=45 then p+1 else p)=q at c ⊢
 by_cases h:df (ah t q)=true
 ·rw[if_pos h];have:=wT h;simp only
  split
  ·exact d
  ·exact⟨by omega,this.2⟩
 ·rw[if_neg h];exact c.2
theorem zbs{c d:Int}(h:iJ c=some d):c≠0:=by
 unfold iJ df at h;intro f;subst f;simp at h
theorem xI(t:List Int)(i:Nat):∀m k n,k<=(hexL t i m k n).2/\(hexL t i m k n).2<=k+m/\(i+k<=t.length->i+(hexL t i m k n).2<=t.length)
 | 0,k,n=>⟨Nat.le_refl _,Nat.le_refl _,id⟩
 | m+1,k,n=>by
  unfold hexL
  split
  ·exact⟨Nat.le_refl _,by simp,id⟩
  ·rename_i d hd;have:=xI t i m (k+1) (n*16+d);have c:=bz (zbs hd);exact⟨by omega,by omega,fun _=>this.2.2 (by omega)⟩
theorem Ru{t:List Int}{p:Nat}(f:p+2<=t.length):yJ t p (lg t p):=by
 unfold lg;have h:=xI t (p+2) 4 0 0;have h4:=h.2.2 f;have e:gY t (p+2)=hexL t (p+2) 4 0 0:=rfl
 split
 ·exact h4
 ·split
  ·exact⟨by omega,by rw[e]at*;omega⟩
  ·split
   ·show p<=t.length;omega
   ·split
    ·show p<=t.length;omega
    ·rename_i l hl;unfold oF at hl
     split at hl
     ·rename_i hc
      split at hl
      ·rename_i hk;have d:=xI t (p+6+2) 4 0 0;have j:p+6+1<t.length:=bz (by rw[hc.2];decide);have h5:=d.2.2 (by omega);have c:gY t (p+6+2)=hexL t (p+6+2) 4 0 0:=rfl;rw[c]at hk;exact⟨by omega,by omega⟩
      ·cases hl
     ·cases hl
theorem wU{t:List Int}{p:Nat}(c:p<t.length):yJ t p (escape t p):=by
 unfold escape;have key:ah t (p+1)≠0->p+2<=t.length:=fun h=>bz h;simp only
 split
 ·rename_i h;exact⟨by omega,key (by omega)⟩
 split
 ·rename_i h;exact⟨by omega,key (by omega)⟩
 split
 ·rename_i h;exact⟨by omega,key (by omega)⟩
 split
 ·rename_i h;exact⟨by omega,key (by omega)⟩
 split
 ·rename_i h;exact⟨by omega,key (by omega)⟩
 split
 ·rename_i h;exact⟨by omega,key (by omega)⟩
 split
 ·rename_i h;exact Ru (key (by omega))
 ·exact c
theorem yJ.GG{α:Type}{t:List Int}{p q:Nat}{r:Res α}(h:yJ t q r)(c:p<=q):yJ t p r:=by
 cases r with
 | ok v r=>exact⟨Nat.lt_of_le_of_lt c h.1,h.2⟩
 | bad e a=>exact h
theorem BS{t:List Int}:∀(m p:Nat) (out:List Int),p<=t.length->yJ t p (quoL t m p out)
 | 0,p,out,hp=>Nat.zero_le _
 | m+1,p,out,hp=>by
  unfold quoL
  split
  ·rename_i h;exact⟨by omega,bz (by rw[h];decide)⟩
  split
  ·rename_i h;refine jq (wU (bz (by rw[h];decide))) fun l q _ c=>.inl ?_;exact BS m q _ c
  split
  ·exact hp
  ·exact(BS m (p+1) _ (bz (by omega))).GG (by omega)
theorem wV{t:List Int}{p:Nat}(c:p<t.length):yJ t p (quoted t p):=
 (BS _ _ _ c).GG (by omega)
theorem E5{t:List Int}{ks:List ByteArray}{p:Nat}(c:p<=t.length):yJ t p (ku t ks p):=by
 unfold ku
 split
 ·rename_i h;refine jq (wV (bz (by rw[h];decide))) fun s q _ d=>.inl ?_
  split
  ·exact c
  ·have j:=iq t q;refine yJ.GG ?_ j;refine jq (BK (by decide) (fP d)) fun _ r h1 h2=> ?_
   rcases Nat.eq_or_lt_of_le (iq t r)with f| k
   ·exact .inr ⟨_,by rw[<-f]⟩
   ·exact .inl ⟨k,fP h2⟩
 ·exact c
theorem E8{t:List Int}{f:Nat->Res J}(c:∀p,p<=t.length->yJ t p (f p)):∀(m p:Nat) (dF:List J),p<=t.length->yJ t p (listL t f m p dF)
 | 0,p,dF,hp=>Nat.zero_le _
 | m+1,p,dF,hp=>by
  unfold listL;refine yJ.GG ?_ (iq t p);refine jq (c _ (fP hp)) fun v q h1 h2=>.inl ?_;have j:=iq t q;have d:=fP h2
  split
  ·rename_i h;exact⟨by omega,bz (by rw[h];decide)⟩
  split
  ·rename_i h;have:aF t q+1<=t.length:=bz (by rw[h];decide);exact(E8 c m _ _ this).GG (by omega)
  ·exact d
theorem BU{t:List Int}{f:Nat->Res J}(c:∀p,p<=t.length->yJ t p (f p)):∀(m p:Nat) (ks:List ByteArray) (dF:List J),p<=t.length->yJ t p (pairsL t f m p ks dF)
 | 0,p,ks,dF,hp=>Nat.zero_le _
 | m+1,p,ks,dF,hp=>by
  unfold pairsL;refine yJ.GG ?_ (iq t p);refine jq (E5 (fP hp)) fun s q h1 h2=>.inl ?_;refine jq (c q h2) fun v r h1 h2=>.inl ?_;have j:=iq t r;have d:=fP h2
  split
  ·rename_i h;exact⟨by omega,bz (by rw[h];decide)⟩
  split
  ·rename_i h;have:aF t r+1<=t.length:=bz (by rw[h];decide);exact(BU c m _ _ _ this).GG (by omega)
  ·exact d
theorem MF{t:List Int}{f:Nat->Res J}(d:∀p,p<=t.length->yJ t p (f p)){p:Nat}(j:p<t.length):yJ t p (lI t f p):=by
 unfold lI;have k:=iq t (p+1);have c:=fP (t:=t) (p:=p+1) j
 split
 ·rename_i h;exact⟨by omega,bz (by rw[h];decide)⟩
 ·exact(E8 d _ _ _ c).GG (by omega)
theorem I5{t:List Int}{f:Nat->Res J}(d:∀p,p<=t.length->yJ t p (f p)){p:Nat}(j:p<t.length):yJ t p (iT t f p):=by
 unfold iT;have k:=iq t (p+1);have c:=fP (t:=t) (p:=p+1) j
 split
 ·rename_i h;exact⟨by omega,bz (by rw[h];decide)⟩
 ·exact(BU d _ _ _ _ c).GG (by omega)
theorem qG(t:List Int):∀(d p:Nat),p<=t.length->yJ t p (value t d p)
 | 0,p,hp=>by
  unfold value
  split<;>exact hp
 | d+1,p,hp=>by
  unfold value
  split
  ·split
   ·exact jq (xH _ _ (by decide) (by simp) hp) fun _ q _ _=>.inr ⟨_,rfl⟩
   split
   ·exact jq (xH _ _ (by decide) (by simp) hp) fun _ q _ _=>.inr ⟨_,rfl⟩
   split
   ·exact jq (xH _ _ (by decide) (by simp) hp) fun _ q _ _=>.inr ⟨_,rfl⟩
   split
   ·rename_i h;exact jq (wV (bz (by rw[h];decide))) fun _ q _ _=>.inr ⟨_,rfl⟩
   split
   ·rename_i h;exact MF (fun q c=>qG t d q c) (bz (by rw[h];decide))
   split
   ·rename_i h;exact I5 (fun q c=>qG t d q c) (bz (by rw[h];decide))
   ·exact ME hp
  ·exact hp
theorem bG{t r:List Int}{p:Nat}{c:Int}(h:t.drop p=c::r):ah t p=c:=by
 unfold ah;have:t[p]?=some c:=by
  have h1:(t.drop p)[0]?=some c:=by rw[h];rfl
  rw[List.getElem?_drop]at h1;exact h1
 rw[List.getD_eq_getElem?_getD,this]
 rfl
theorem drop_tail{t r:List Int}{p:Nat}{c:Int}(h:t.drop p=c::r):t.drop (p+1)=r:=by
 rw[<-List.drop_drop,h];rfl
theorem jN{t x r:List Int}{p:Nat}(h:t.drop p=x++r):t.drop (p+x.length)=r:=by
 rw[<-List.drop_drop,h];simp
theorem UZ{t:List Int}{p:Nat}(h:t.drop p= []):ah t p=0:=by
 unfold ah;rw[List.getD_eq_getElem?_getD,List.getElem?_eq_none (List.drop_eq_nil_iff.1 h)]
 rfl
theorem I6(n:Int)(h0:0<=n)(h1:n<=15):iJ (Eh n)=some n:=by
 unfold Eh iJ df
 split
 ·rw[if_pos (by simp;omega)];congr 1;omega
 ·rw[if_neg (by simp;omega),if_pos (by omega)];congr 1;omega
theorem MG(c:Int)(h0:0<=c)(h1:c<=127):Lib.encodeRuneZ c= [c]:=Lib.encodeRuneZ_one h0 h1
theorem Rv{t r:List Int}{p:Nat}{c:Int}(h0:0<=c)(h1:c<32)(d:t.drop p=92::117::48::48::Eh (c / 16)::Eh (c % 16)::r):lg t p=.ok c (p+6):=by
 have d1:=drop_tail d;have d2:=drop_tail d1;have b0:=bG d2;have d3:=drop_tail d2;have b1:=bG d3;have d4:=drop_tail d3;have b2:=bG d4;have d5:=drop_tail d4;have b3:=bG d5;have z:iJ 48=some 0:=by decide
 have j:=I6 (c / 16) (by omega) (by omega);have h:=I6 (c % 16) (by omega) (by omega);have f:gY t (p+2)=(c,4):=by
  unfold gY hexL;rw[show p+2+0=p+1+1 from rfl,b0,z];simp only;unfold hexL;rw[show p+2+(0+1)=p+1+1+1 from rfl,b1,z];simp only;unfold hexL;rw[show p+2+(0+1+1)=p+1+1+1+1 from rfl,b2,j];simp only;unfold hexL;rw[show p+2+(0+1+1+1)=p+1+1+1+1+1 from rfl,b3,h];simp only;unfold hexL;refine Prod.ext ?_ rfl;simp only;omega
 unfold lg;rw[f];simp only;rw[if_neg (by omega),if_pos (by omega)]
theorem o8{t r:List Int}{p:Nat}{b:Int}(c:t.drop p=92::b::r):ah t p=92/\ah t (p+1)=b:=⟨bG c,bG (drop_tail c)⟩
theorem U0{t r:List Int}{p:Nat}{c:Int}(h0:0<=c)(A:c<32\/ c=34\/ c=92)(d:t.drop p=aG c++r):ah t p=92/\escape t p=.ok c (p+(aG c).length):=by
 by_cases h:c=34
 ·subst h;have e:aG 34= [92,34]:=by decide
  rw[e]at d ⊢;obtain⟨b0,b1⟩:=o8 d;refine⟨b0, ?_⟩;unfold escape;simp only[b1]
  rfl
 by_cases j:c=92
 ·subst j;have e:aG 92= [92,92]:=by decide
  rw[e]at d ⊢;obtain⟨b0,b1⟩:=o8 d;refine⟨b0, ?_⟩;unfold escape;simp only[b1]
  rfl
 by_cases m:c=8
 ·subst m;have e:aG 8= [92,98]:=by decide
  rw[e]at d ⊢;obtain⟨b0,b1⟩:=o8 d;refine⟨b0, ?_⟩;unfold escape;simp only[b1]
  rfl
 by_cases x:c=9
 ·subst x;have e:aG 9= [92,116]:=by decide
  rw[e]at d ⊢;obtain⟨b0,b1⟩:=o8 d;refine⟨b0, ?_⟩;unfold escape;simp only[b1]
  rfl
 by_cases z:c=10
 ·subst z;have e:aG 10= [92,110]:=by decide
  rw[e]at d ⊢;obtain⟨b0,b1⟩:=o8 d;refine⟨b0, ?_⟩;unfold escape;simp only[b1]
  rfl
 by_cases f:c=12
 ·subst f;have e:aG 12= [92,102]:=by decide
  rw[e]at d ⊢;obtain⟨b0,b1⟩:=o8 d;refine⟨b0, ?_⟩;unfold escape;simp only[b1]
  rfl
 by_cases k:c=13
 ·subst k;have e:aG 13= [92,114]:=by decide
  rw[e]at d ⊢;obtain⟨b0,b1⟩:=o8 d;refine⟨b0, ?_⟩;unfold escape;simp only[b1]
  rfl
 have u:c<32:=by omega
 have e:aG c= [92,117,48,48,Eh (c / 16),Eh (c % 16)]:=by
  unfold aG;rw[if_neg h,if_neg j,if_neg m,if_neg x,if_neg z,if_neg f,if_neg k,if_pos u]
 rw[e]at d ⊢;obtain⟨b0,b1⟩:=o8 d;refine⟨b0, ?_⟩;have:=Rv h0 u d;unfold escape;simp only[b1];exact this
theorem lh(t:List Int)(m p:Nat)(out:List Int):quoL t (m+1) p out=
    if ah t p=34 then .ok out (p+1)
    else if ah t p=92 then(escape t p).bind fun l q=>quoL t m q (out++Lib.encodeRuneZ l)
    else if ah t p<32 then .bad 11 p
    else quoL t m (p+1) (out++ [ah t p]):=rfl
theorem I7(t:List Int):∀(d:List Int) (m p:Nat) (out r:List Int),(∀c∈d,0<=c/\c<=255)->d.length<m->t.drop p=d.flatMap aG++34::r→
    quoL t m p out=.ok (out++d) (p+(d.flatMap aG).length+1)
 | [],m+1,p,out,r,_,_,hd=>by
  have k:=bG (c:=34) hd;rw[lh,if_pos k];simp
 | c::d,m+1,p,out,r,hz,hm,hd=>by
  have h:=hz c (by simp);have f:∀x∈d,0<=x/\x<=255:=fun x u=>hz x (by simp[u]);rw[List.flatMap_cons,List.append_assoc]at hd;have next:=jN hd;have j:=I7 t d m (p+(aG c).length) (out++ [c]) r f (by simpa using hm) next;have fin:Res.ok (out++ [c]++d) (p+(aG c).length+(d.flatMap aG).length+1)=Res.ok (out++c::d) (p+((c::d).flatMap aG).length+1):=by
   simp only[List.append_assoc,List.singleton_append,List.flatMap_cons,List.length_append,Nat.add_assoc]
  rw[<-fin,<-j,lh]
  by_cases A:c<32\/ c=34\/ c=92
  ·obtain⟨b0,z⟩:=U0 h.1 A hd;rw[if_neg (by rw[b0];decide),if_pos b0,z];simp only[Res.bind];rw[MG c h.1 (by omega)]
  ·have e:aG c= [c]:=by
     unfold aG;rw[if_neg (by omega),if_neg (by omega),if_neg (by omega),if_neg (by omega),if_neg (by omega),if_neg (by omega),if_neg (by omega),if_neg (by omega)]
   rw[e]at hd ⊢;have b0:=bG (c:=c) hd;rw[b0,if_neg (by omega),if_neg (by omega),if_neg (by omega)]
   rfl
theorem zX{t r d:List Int}{p:Nat}(j:∀c∈d,0<=c/\c<=255)(h:t.drop p=quote d++r):quoted t p=.ok d (p+(quote d).length)/\ah t p=34:=by
 unfold quote at h ⊢;have f:t.drop p=34::(d.flatMap aG++34::r):=by rw[h];simp
 have k:(d.flatMap aG).length<t.length:=by
  have:=congrArg List.length f;rw[List.length_drop,List.length_cons,List.length_append,List.length_cons]at this;omega
 have m:d.length<=(d.flatMap aG).length:=by
  clear h f k j
  induction d with
  | nil=>simp
  | cons c d ih=>
   have:1<=(aG c).length:=by unfold aG;(repeat' split);all_goals simp
   simp only[List.flatMap_cons,List.length_append,List.length_cons];omega
 have:=I7 t d (t.length+1) (p+1) [] r j (by omega) (drop_tail f);refine⟨?_,bG f⟩;unfold quoted;rw[this];simp only[List.nil_append,List.length_cons,List.length_append,List.length_nil]
 congr 1
 omega
open Go.RowKit
def oU(w w':World)(R:Nat)(s:ByteArray)(q:Nat):Prop:=(∃e l,fw w' R s q e l)/\ag (One R) w w'
def zY(w w':World)(R:Nat)(s:ByteArray)(e:Int)(l:Nat):Prop:=(∃q,fw w' R s q e l)/\ag (One R) w w'
theorem oU.then{w f c:World}{R:Nat}{s:ByteArray}{q j:Nat}(h:oU w f R s q)(d:oU f c R s j):oU w c R s j:=⟨d.1,h.2.then d.2⟩
theorem oU.bad{w f c:World}{R:Nat}{s:ByteArray}{q:Nat}{e:Int}{l:Nat}(h:oU w f R s q)(d:zY f c R s e l):zY w c R s e l:=⟨d.1,h.2.then d.2⟩
theorem oU.refl{w:World}{R p:Nat}{s:ByteArray}{e l:Int}(h:fw w R s p e l):oU w w R s p:=⟨⟨e,l,h⟩,ag.refl _ _⟩
theorem jO{w:World}{R p:Nat}{s:ByteArray}{e l:Int}(d:fw w R s p e l)(k:p<=20000)(c:Int)(h:ah (ints s) p=c):
    Calls Tryz.prog 146 #[.pointer (some ⟨R,0,none⟩),.int .u8 c] w fun x w'=>x=.returned (.bool true)/\oU w w' R s (p+1):=by
 have c1:=d.c1;have m:=d.fz 1;have j:=d.at (p+1);have f:=fw.setAt w R (p+1);subst h;go_enter Tryz.func146,Tryz.ntmps146;go_wp2_with(go_at_call 119;refine(dZ d).mono ?_;rintro x w' ⟨rfl,rfl⟩);go_ret;exact⟨rfl,⟨_,_,j⟩,f⟩
theorem jl{w:World}{R p:Nat}{s:ByteArray}{e l:Int}(d:fw w R s p e l)(c:Int)(h:ah (ints s) p≠c):
    Calls Tryz.prog 146 #[.pointer (some ⟨R,0,none⟩),.int .u8 c] w fun x w'=>x=.returned (.bool false)/\w=w':=by
 have f:(ah (ints s) p !=c)=true:=by simp[h]
 go_enter Tryz.func146,Tryz.ntmps146;go_wp2_with(go_at_call 119;refine(dZ d).mono ?_;rintro x w' ⟨rfl,rfl⟩);go_ret;exact⟨rfl,rfl⟩
theorem qH{w:World}{R p:Nat}{s:ByteArray}{e l:Int}(d:fw w R s p e l)(j:p<=20000)(c:Int)(h:ah (ints s) p=c):
    Calls Tryz.prog 143 #[.pointer (some ⟨R,0,none⟩),.int .u8 c] w fun x w'=>x=.returned (.bool true)/\oU w w' R s (p+1):=by
 go_enter Tryz.func143,Tryz.ntmps143;go_wp2_with(go_at_call 146;refine(jO d j c h).mono ?_;rintro x w' ⟨rfl,f⟩);go_ret;exact⟨rfl,f⟩
theorem vo{w:World}{R p:Nat}{s:ByteArray}{e l:Int}(d:fw w R s p e l)(c:Int)(h:ah (ints s) p≠c):
    Calls Tryz.prog 143 #[.pointer (some ⟨R,0,none⟩),.int .u8 c] w fun x w'=>x=.returned (.bool false)/\zY w w' R s 11 p:=by
 have c1:=d.c1;go_enter Tryz.func143,Tryz.ntmps143;go_wp2_with(first
  | (go_at_call 146;refine(jl d c h).mono ?_;rintro x w' ⟨rfl,rfl⟩)
  | (go_at_call 92;refine(gN d 11 p).mono ?_;rintro x k ⟨rfl,f,j⟩))
 go_ret;exact⟨rfl,⟨_,f⟩,j⟩
theorem I8(c:Int):jG c=((c==32) || (c==9) || (c==10) || (c==13)):=by
 unfold jG;rw[Bool.eq_iff_iff];simp
theorem I9{t:List Int}{p:Nat}(h:jG (ah t p)=true):aF t p=aF t (p+1):=by
 have c:=bz (t:=t) (p:=p) (by intro h0;rw[h0]at h;revert h;decide);have e:t.drop p=t[p]::t.drop (p+1):=List.drop_eq_getElem_cons c;have g:ah t p=t[p]:=by unfold ah;rw[List.getD_eq_getElem?_getD,List.getElem?_eq_getElem c];rfl
 unfold aF;rw[e,List.takeWhile_cons,<-g,h];simp;omega
theorem I_{t:List Int}{p:Nat}(h:jG (ah t p)=false):aF t p=p:=by
 unfold aF
 cases hd:t.drop p with
 | nil=>rfl
 | cons c r=>
  rw[bG hd]at h;rw[List.takeWhile_cons,h]
  rfl
def posOf(R:Nat)(w:World):Nat:=(intOf ((w.cell? ⟨R,1,none⟩).getD (.int .i64 0))).toNat
theorem h_{w:World}{R p:Nat}{s:ByteArray}{e l:Int}(h:fw w R s p e l):posOf R w=p:=by
 unfold posOf;rw[h.c1];simp[intOf]
theorem bD{w:World}{R p:Nat}{s:ByteArray}{e l:Int}(k:fw w R s p e l)(K:short s)(F:p<=s.size):
    Calls Tryz.prog 90 #[.pointer (some ⟨R,0,none⟩)] w fun x w'=>x=.returned (.tuple #[])/\oU w w' R s (aF (ints s) p):=by
 unfold short at K;go_enter Tryz.func90,Tryz.ntmps90;go_wp2_with(go_at_call 119;refine(dZ k).mono ?_;rintro x w' ⟨rfl,rfl⟩)
 go_loopw [2] (fun c wr=>∃q:Nat,c=.int .u8 (ah (ints s) q)/\q<=s.size/\aF (ints s) q=aF (ints s) p/\fw wr R s q e l/\ag (One R) w wr) (fun _ wr=>s.size - posOf R wr)
 case atStart=>exact⟨p,rfl,F,rfl,k,ag.refl _ _⟩
 case round=>
  obtain⟨q,rfl,N,z,h,A⟩:=hrel;have f:Hid (aF (ints s) q=aF (ints s) p):=z;clear z k
  by_cases d:jG (ah (ints s) q)=true
  ·have G:q<s.size:=by
     have:=bz (t:=ints s) (p:=q) (by intro h0;rw[h0]at d;revert d;decide);rw[ax]at this;exact this
   have u:Hid (aF (ints s) q=aF (ints s) (q+1)):=I9 d;rw[I8]at d;have c1:=h.c1;have S:=h.fz 1;have m:fw (wr.setCell ⟨R,1,none⟩ (.int .i64 ((q:Int)+1))) R s (q+1) e l:=h.at (q+1);have H:ag (One R) w (wr.setCell ⟨R,1,none⟩ (.int .i64 ((q:Int)+1))):=A.then (fw.setAt wr R (q+1));have E:=h_ m;have I:=h_ h;go_wp2_with(go_at_call 119;refine(dZ m).mono ?_;rintro x w' ⟨rfl,rfl⟩)
   all_goals first
    | (go_roundw
       case rel=>exact⟨q+1,rfl,G,by rw[<-u.out];exact f.out,m,H⟩
       case measure=>rw[E,I];omega)
    | (exfalso;simp_all;done)
  ·have j:jG (ah (ints s) q)=false:=by simpa using d
   have u:Hid (aF (ints s) q=q):=I_ j;rw[I8]at j;simp only[Bool.or_eq_false_iff]at j;obtain⟨⟨⟨b1,b2⟩,b3⟩,b4⟩:=j;go_wp2
   go_end0
   refine⟨rfl, ?_⟩;rw[<-f.out,u.out];exact⟨⟨_,_,h⟩,A⟩
theorem U1{a b:Int}{p q:Bool}(h:a=b)(c:p=q):Ending.returned (.tuple #[.int .i32 a,.bool p])=.returned (.tuple #[.int .i32 b,.bool q]):=by rw[h,c]
theorem PZ{a b c d:Int}(h:a=b)(f:c=d):Ending.returned (.tuple #[.int .i32 a,.int .i64 c])=.returned (.tuple #[.int .i32 b,.int .i64 d]):=by rw[h,f]
theorem E9{c d:Int}(h:iJ c=some d):0<=d/\d<=15:=by
 unfold iJ df at h
 split at h
 ·rename_i h1;simp at h1;cases h;omega
 split at h
 ·cases h;omega
 split at h
 ·cases h;omega
 ·cases h
theorem xJ(c:Int)(w:World)(h0:0<=c)(h1:c<=255):
    Calls Tryz.prog 196 #[.int .u8 c] w fun x w'=>x=.returned (.tuple #[.int .i32 ((iJ c).getD 0),.bool (iJ c).isSome])/\w=w':=by
 cases hd:df c with
 | true=>
  have d:iJ c=some (c - 48):=by unfold iJ;rw[if_pos hd]
  have j:48<=c/\c<=57:=by unfold df at hd;simpa using hd
  rw[d];go_enter Tryz.func196,Tryz.ntmps196;go_wp2_with(go_at_call 142;refine(eX c _).mono ?_;rw[hd];rintro x w' ⟨rfl,rfl⟩);go_ret2;exact⟨rfl,rfl⟩
 | false=>
  by_cases f:97<=c/\c<=102
  ·have d:iJ c=some (c - 97+10):=by unfold iJ;rw[if_neg (by simp[hd]),if_pos f]
   rw[d];go_enter Tryz.func196,Tryz.ntmps196;go_wp2_with(go_at_call 142;refine(eX c _).mono ?_;rw[hd];rintro x w' ⟨rfl,rfl⟩);go_ret2;exact⟨rfl,rfl⟩
  by_cases h:65<=c/\c<=70
  ·have d:iJ c=some (c - 65+10):=by unfold iJ;rw[if_neg (by simp[hd]),if_neg f,if_pos h]
   rw[d];go_enter Tryz.func196,Tryz.ntmps196;go_wp2_with(go_at_call 142;refine(eX c _).mono ?_;rw[hd];rintro x w' ⟨rfl,rfl⟩);go_ret2;exact⟨rfl,rfl⟩
  ·have d:iJ c=none:=by unfold iJ;rw[if_neg (by simp[hd]),if_neg f,if_neg h]
   rw[d];go_enter Tryz.func196,Tryz.ntmps196;go_wp2_with(go_at_call 142;refine(eX c _).mono ?_;rw[hd];rintro x w' ⟨rfl,rfl⟩)
   all_goals first
    | (exfalso;omega)
    | (go_ret2;exact⟨rfl,rfl⟩)
def capOf:Nat->Int
 | 0=>1
 | 1=>16
 | 2=>256
 | 3=>4096
 | _=>65536
theorem Ja(k:Nat):capOf k<=65536:=by
 unfold capOf;split<;>omega
theorem BV{k:Nat}{n d:Int}(c:k<4)(h0:0<=n)(h:n<capOf k)(f:0<=d/\d<=15):n*16+d<capOf (k+1)/\n<=4095:=by
 match k,c with
 | 0,_=>simp only[capOf]at h ⊢;omega
 | 1,_=>simp only[capOf]at h ⊢;omega
 | 2,_=>simp only[capOf]at h ⊢;omega
 | 3,_=>simp only[capOf]at h ⊢;omega
theorem P5(t:List Int)(i:Nat):∀(m k:Nat) (n:Int),0<=n->n<capOf k->k+m<=4->0<=(hexL t i m k n).1/\(hexL t i m k n).1<65536
 | 0,k,n,h0,h1,_=>⟨h0,by have:=Ja k;unfold hexL;simp only;omega⟩
 | m+1,k,n,h0,h1,hm=>by
  unfold hexL
  split
  ·have:=Ja k;exact⟨h0,by simp only;omega⟩
  ·rename_i d hd;have c:=E9 hd;exact P5 t i m (k+1) _ (by omega) (BV (by omega) h0 h1 c).1 (by omega)
theorem BX(t:List Int)(i:Nat):0<=(gY t i).1/\(gY t i).1<65536/\(gY t i).2<=4:=by
 have h:=P5 t i 4 0 0 (by omega) (by decide) (by omega);exact⟨h.1,h.2,by have:=(xI t i 4 0 0).2.1;unfold gY;omega⟩
theorem E_{w:World}{R p:Nat}{s:ByteArray}{e l:Int}(z:fw w R s p e l)(i:Nat)(I:i<=40000):
    Calls Tryz.prog 185 #[.pointer (some ⟨R,0,none⟩),.int .i64 i] w fun x w'=>x=.returned (.tuple #[.int .i32 (gY (ints s) i).1,.int .i64 ((gY (ints s) i).2:Nat)])/\w=w':=by
 go_enter Tryz.func185,Tryz.ntmps185;go_wp2
 go_loop [6,10] (fun a b=>∃(n:Int) (k m:Nat),a=.int .i32 n/\b=.int .i64 k/\k+m=4/\0<=n/\n<capOf k/\hexL (ints s) i m k n=gY (ints s) i) (fun _ b=>4 - (intOf b).toNat)
 case atStart=>exact⟨0,0,4,rfl,rfl,rfl,by omega,by decide,rfl⟩
 case round=>
  obtain⟨n,k,m,rfl,rfl,G,h0,E,A⟩:=hrel;have u:Hid (hexL (ints s) i m k n=gY (ints s) i):=A;clear A
  by_cases H:k<4
  ·have h:=j6 s (i+k);obtain⟨f,rfl⟩:∃f,m=f+1:=⟨m - 1,by omega⟩
   cases hd:iJ (ah (ints s) (i+k))with
   | none=>
    have c:Hid (gY (ints s) i=(n,k)):=by rw[<-u.out];unfold hexL;rw[hd];rfl
    go_wp2_with(first
     | (go_at_call 141;refine(iK z (i+k)).mono ?_;rintro x w' ⟨rfl,rfl⟩)
     | (go_at_call 196;refine(xJ _ _ h.1 h.2).mono ?_;rw[hd];rintro x w' ⟨rfl,rfl⟩))
    go_ret2;exact⟨PZ (by rw[c.out]) (by rw[c.out]),rfl⟩
   | some d=>
    have j:=E9 hd;have F:=BV H h0 E j;have c:Hid (hexL (ints s) i f (k+1) (n*16+d)=gY (ints s) i):=by rw[<-u.out];show _=hexL _ _ (f+1) _ _;conv=>rhs;unfold hexL;rw[hd]
    go_wp2_with(first
     | (go_at_call 141;refine(iK z (i+k)).mono ?_;rintro x w' ⟨rfl,rfl⟩)
     | (go_at_call 196;refine(xJ _ _ h.1 h.2).mono ?_;rw[hd];rintro x w' ⟨rfl,rfl⟩))
    go_round
    case rel=>exact⟨n*16+d,k+1,f,rfl,by go_num,by omega,by omega,F.1,c.out⟩
    case measure=>simp[intOf];omega
  ·obtain rfl:k=4:=by omega
   obtain rfl:m=0:=by omega
   have c:Hid (gY (ints s) i=(n,4)):=by rw[<-u.out];rfl
   go_wp2;go_ret2;exact⟨PZ (by rw[c.out]) (by rw[c.out];rfl),rfl⟩
theorem Rx{t:List Int}{i k:Nat}{n:Int}(d:ah t i=92)(f:ah t (i+1)=117)(c:gY t (i+2)=(n,k)):oF t i=if k=4/\56320<=n/\n<=57343 then some n else none:=by
 unfold oF;rw[if_pos ⟨d,f⟩,c]
theorem Fa{t:List Int}{i:Nat}(h:¬(ah t i=92/\ah t (i+1)=117)):oF t i=none:=by
 unfold oF;rw[if_neg h]
theorem Rz{w:World}{R p:Nat}{s:ByteArray}{e l:Int}(d:fw w R s p e l)(i:Nat)(I:i<=30000):
    Calls Tryz.prog 186 #[.pointer (some ⟨R,0,none⟩),.int .i64 i] w fun x w'=>(∃n,x=.returned (.tuple #[.int .i32 n,.bool (oF (ints s) i).isSome])/\∀m,oF (ints s) i=some m->n=m)/\w=w':=by
 have K:=j6 s i;have H:=j6 s (i+1);have E:=BX (ints s) (i+2)
 by_cases j:ah (ints s) i=92
 ·by_cases u:ah (ints s) (i+1)=117
  ·obtain⟨n,k,F⟩:∃n k,gY (ints s) (i+2)=(n,k):=⟨_,_,rfl⟩;have A:=E_ d (i+2) (by omega);have f:Hid (oF (ints s) i=if k=4/\56320<=n/\n<=57343 then some n else none):=Rx j u F;rw[F]at E A;simp only at E A;go_enter Tryz.func186,Tryz.ntmps186;go_wp2_with(first
    | (go_at_call 141;have _h:=z;refine(iK d (i+1)).mono ?_;rw[u];rintro x w' ⟨rfl,rfl⟩)
    | (go_at_call 141;refine(iK d i).mono ?_;rw[j];rintro x w' ⟨rfl,rfl⟩;have z:True:=trivial)
    | (go_at_call 185;refine A.mono ?_;rintro x w' ⟨rfl,rfl⟩))
   all_goals
    go_ret2;refine⟨⟨n,U1 rfl ?_,fun m c=> ?_⟩,rfl⟩
    ·rw[f.out]
     split
     ·rename_i h;simp;try omega
     ·rename_i h;simp;try omega
    ·rw[f.out]at c
     split at c
     ·cases c;rfl
     ·cases c
  ·have G:(ah (ints s) (i+1) !=117)=true:=by simp[u]
   have f:Hid (oF (ints s) i=none):=Fa fun h=>u h.2;go_enter Tryz.func186,Tryz.ntmps186;go_wp2_with(first
    | (go_at_call 141;have _h:=z;refine(iK d (i+1)).mono ?_;rintro x w' ⟨rfl,rfl⟩)
    | (go_at_call 141;refine(iK d i).mono ?_;rw[j];rintro x w' ⟨rfl,rfl⟩;have z:True:=trivial))
   go_ret2;rw[f.out];exact⟨⟨_,rfl,fun m c=>by cases c⟩,rfl⟩
 ·have G:(ah (ints s) i !=92)=true:=by simp[j]
  have f:Hid (oF (ints s) i=none):=Fa fun h=>j h.1;go_enter Tryz.func186,Tryz.ntmps186;go_wp2_with(go_at_call 141;refine(iK d i).mono ?_;rintro x w' ⟨rfl,rfl⟩);go_ret2;rw[f.out];exact⟨⟨_,rfl,fun m c=>by cases c⟩,rfl⟩
def BZ(w w':World)(R:Nat)(s:ByteArray)(r:Res Int)(x:Ending):Prop:=match r with
 | .ok c q=>x=.returned (.tuple #[.int .i32 c,.bool true])/\oU w w' R s q
 | .bad e l=>x=.returned (.tuple #[.int .i32 0,.bool false])/\zY w w' R s e l
theorem Jb{t:List Int}{i:Nat}{m:Int}(h:oF t i=some m):56320<=m/\m<=57343:=by
 unfold oF at h
 split at h
 ·split at h
  ·rename_i hh;cases h;exact hh.2
  ·cases h
 ·cases h
theorem RA{w:World}{R p:Nat}{s:ByteArray}{e l:Int}(c:fw w R s p e l)(N:p<=20000):
    Calls Tryz.prog 164 #[.pointer (some ⟨R,0,none⟩)] w fun x w'=>BZ w w' R s (lg (ints s) p) x:=by
 have c1:=c.c1;have U:=c.fz 1;have H:=BX (ints s) (p+2);obtain⟨n,k,h⟩:∃n k,gY (ints s) (p+2)=(n,k):=⟨_,_,rfl⟩;have f:=E_ c (p+2) (by omega);rw[h]at H f;simp only at H f
 by_cases z:k<4
 ·have d:Hid (lg (ints s) p=.bad 11 (p+2+k)):=by unfold lg;rw[h,if_pos z];rfl
  have K:(k:Int)<4:=by omega
  go_enter Tryz.func164,Tryz.ntmps164;go_wp2_with(first
   | (go_at_call 185;refine f.mono ?_;rintro x w' ⟨rfl,rfl⟩)
   | (go_at_call 92;refine(gN c 11 ((p+2+k:Nat):Int)).mono ?_;rintro x I ⟨rfl,u,j⟩))
  go_ret2;rw[d.out];exact⟨rfl,⟨_,u⟩,j⟩
 have K:¬(k:Int)<4:=by omega
 by_cases h1:n<55296\/ 57343<n
 ·have d:Hid (lg (ints s) p=.ok n (p+6)):=by unfold lg;rw[h,if_neg z,if_pos h1];rfl
  have F:fw (w.setCell ⟨R,1,none⟩ (.int .i64 ((p:Int)+6))) R s (p+6) e l:=c.at (p+6);have G:ag (One R) w (w.setCell ⟨R,1,none⟩ (.int .i64 ((p:Int)+6))):=fw.setAt w R (p+6);go_enter Tryz.func164,Tryz.ntmps164;go_wp2_with(go_at_call 185;refine f.mono ?_;rintro x w' ⟨rfl,rfl⟩)
  all_goals first
   | (exfalso;omega)
   | (go_ret2
      rw[d.out];exact⟨rfl,⟨_,_,F⟩,G⟩)
 have A:=Rz c (p+6) (by omega)
 by_cases h2:56320<=n
 ·have d:Hid (lg (ints s) p=.bad 11 p):=by unfold lg;rw[h,if_neg z,if_neg h1,if_pos h2];rfl
  go_enter Tryz.func164,Tryz.ntmps164;go_wp2_with(first
   | (go_at_call 185;refine f.mono ?_;rintro x w' ⟨rfl,rfl⟩)
   | (go_at_call 186;refine A.mono ?_;rintro x w' ⟨⟨m,rfl,_⟩,rfl⟩)
   | (go_at_call 92;refine(gN c 11 (p:Int)).mono ?_;rintro x I ⟨rfl,u,j⟩))
  all_goals first
   | (exfalso;omega)
   | (go_ret2
      rw[d.out];exact⟨rfl,⟨_,u⟩,j⟩)
 cases rW:oF (ints s) (p+6)with
 | none=>
  have d:Hid (lg (ints s) p=.bad 11 p):=by unfold lg;rw[h,if_neg z,if_neg h1,if_neg h2,rW];rfl
  rw[rW]at A;go_enter Tryz.func164,Tryz.ntmps164;go_wp2_with(first
   | (go_at_call 185;refine f.mono ?_;rintro x w' ⟨rfl,rfl⟩)
   | (go_at_call 186;refine A.mono ?_;rintro x w' ⟨⟨m,rfl,_⟩,rfl⟩)
   | (go_at_call 92;refine(gN c 11 (p:Int)).mono ?_;rintro x I ⟨rfl,u,j⟩))
  all_goals first
   | (exfalso;omega)
   | (go_ret2
      rw[d.out];exact⟨rfl,⟨_,u⟩,j⟩)
 | some m=>
  have T:=Jb rW;have d:Hid (lg (ints s) p=.ok (65536+(n - 55296)*1024+(m - 56320)) (p+12)):=by unfold lg;rw[h,if_neg z,if_neg h1,if_neg h2,rW];rfl
  have F:fw (w.setCell ⟨R,1,none⟩ (.int .i64 ((p:Int)+12))) R s (p+12) e l:=c.at (p+12);have G:ag (One R) w (w.setCell ⟨R,1,none⟩ (.int .i64 ((p:Int)+12))):=fw.setAt w R (p+12);rw[rW]at A;go_enter Tryz.func164,Tryz.ntmps164;go_wp2_with(first
   | (go_at_call 185;refine f.mono ?_;rintro x w' ⟨rfl,rfl⟩)
   | (go_at_call 186;refine A.mono ?_;rintro x w' ⟨⟨S,rfl,E⟩,rfl⟩;obtain rfl:=E m rfl))
  all_goals first
   | (exfalso;omega)
   | (go_ret2
      rw[d.out];exact⟨rfl,⟨_,_,F⟩,G⟩)
end Go.Proofs.YtldkblgclochjaaGreatDoor

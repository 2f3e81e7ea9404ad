/-
  What is written as JSON is read as it was.
  The document's letters, by contracts: Letter, and Bad given Rune.
  What stands under a key of a value, and of the value in order: the same, in order. Levels as the document reads them.
  The document's Get of a value, by a contract.
  Levels that are parsed are not too many.
-/
import Derived.Test.YtldegjjaknelgabGreatDoorAB01
import Derived.Shelf.Small.Bits
import Derived.Shelf.Small.Strs
import Derived.Shelf.Strconv.Itoa0
import Derived.Shelf.Strconv.Itoa1
import Derived.Shelf.LaysM
import Derived.Shelf.Strconv.Itoa2
import Derived.Shelf.Strconv.Itoa3
import Derived.Shelf.Strconv.Itoa4
import Derived.Shelf.Strings.Search1
import Derived.Shelf.Strings.Search2
import Derived.Shelf.Strings.Cut
import Derived.Shelf.Strings.Shaped
import Derived.Ground.SlsfProg
import Derived.Shelf.SlSortCmp.Insertion
import Derived.Shelf.SlSortCmp.SiftDown1
import Derived.Shelf.SlSortCmp.HeapSort1
import Derived.Shelf.SlSortCmp.Insertion1
import Derived.Shelf.SlSortCmp.Median1
import Derived.Shelf.SlSortCmp.Pivot1
import Derived.Shelf.SlSortCmp.ReverseRange1
import Derived.Shelf.SlSortCmp.PartialInsertion1
import Derived.Shelf.SlSortCmp.PartitionEqual1
import Derived.Shelf.SlSortCmp.Partition1
import Derived.Shelf.SlSortCmp.Pdq1
import Derived.Shelf.SlSortCmp.Whole1
import Derived.Shelf.SlSortCmp.NoneTotal
import Derived.Maps.AppendAt
import Derived.Maps.OwnSet
import Derived.Lib.AppendStr
import Derived.Stop.FmtQuoteTie
import Derived.Lib.OthersKept
import Derived.Lib.AppendIntMem
import Derived.Lib.ItoaLen
import Derived.Lib.SlBytesConst
import Derived.Deep.Cut
import Derived.RangeFuncNested
import Derived.Lib.AppendZeros
import Derived.RangeFuncBound
import Derived.RangeFuncCalls
import Derived.RangeFuncLeaves
import Derived.Shelf.Abstract
import Derived.Shelf.RegionOpen
import Derived.OwnWalkIn
import Derived.TacticsInMore
import Derived.LoopNIn
import Derived.LoopIn
import Derived.Laws.StructEq
import Derived.Deep.CutRange
import Derived.Deep.CutBlock
import Derived.Deep.MidRow
import Derived.Laws.Tables
import Derived.Laws.OwnMore
set_option maxRecDepth 100000
set_option maxHeartbeats 64000000
namespace Go.Proofs.YtldegjjaknelgabGreatDoor
theorem nix_of {t : ByteArray} (h : t.size = 0) : t = nix:=by
 cases t with
 | mk a =>
  have : a = #[]:=Array.eq_empty_of_size_eq_zero h
  rw [this];rfl
end Go.Proofs.YtldegjjaknelgabGreatDoor
namespace Go.Proofs.YtldegjjaknelgabGreatDoor
open Go.RowKit
theorem letter_any (n : Int) (h0 : 0 ≤ n) (w : World) : Calls Tryz.prog 158 #[.int .i64 n] w fun x w' => x = .returned (.bool (letterOk n)) ∧ w = w':=by
 by_cases h1 : n ≤ 1114111
 · by_cases h2 : n < 55296
   · have HL : Hid (letterOk n = true):=by show _ = _;unfold letterOk;simp [h1,h2]
     go_enter Tryz.func158,Tryz.ntmps158
     go_wp2
     go_ret
     refine ⟨ret_bool ?_,rfl⟩
     first | exact HL.out.symm | (rw [HL.out];simp;omega)
   · have HL : Hid (letterOk n = decide (57344 ≤ n)):=by show _ = _;unfold letterOk;simp [h1,h2]
     go_enter Tryz.func158,Tryz.ntmps158
     go_wp2
     go_ret
     refine ⟨ret_bool ?_,rfl⟩
     rw [HL.out,decide_eq_decide]
     omega
 · have HL : Hid (letterOk n = false):=by show _ = _;unfold letterOk;simp [h1]
   go_enter Tryz.func158,Tryz.ntmps158
   go_wp2
   go_ret
   refine ⟨ret_bool ?_,rfl⟩
   first | exact HL.out.symm | (rw [HL.out];simp;omega)
def Runes : Prop:=∀ (s : ByteArray) (p : Nat) (w : World),p < s.size → s.size ≤ 1000000000 →
 Calls Tryz.prog 142 #[.string s,.int .i64 p] w fun x w' => x = .returned (.tuple #[.int .i64 (runeAt (ints s) p).1,.int .i64 ((runeAt (ints s) p).2 : Nat)]) ∧ w = w'
def badAt (r : Option Nat) : Int:=match r with
 | none => -1
 | some p => p
theorem bad_any (V : Runes) (s : ByteArray) (w : World) (hs : s.size ≤ 1000000000) : Calls Tryz.prog 122 #[.string s] w fun x w' => x = .returned (.int .i64 (badAt (stray (ints s)))) ∧ w = w':=by
 go_enter Tryz.func122,Tryz.ntmps122
 go_wp2
 go_loopw [3] (fun i wr => ∃ (p m : Nat),i = .int .i64 p ∧ p ≤ s.size + 4 ∧ s.size ≤ p + m ∧ strayL (ints s) m p = stray (ints s) ∧ wr = w) (fun i _ => s.size - (intOf i).toNat)
 case atStart => exact ⟨0,s.size,rfl,by omega,by omega,by unfold stray;rw [ints_length],rfl⟩
 case round =>
  obtain ⟨p,m,rfl,hp4,hpm,hst,rfl⟩:=hrel
  have HS : Hid (strayL (ints s) m p = stray (ints s)):=hst
  clear hst
  by_cases hp : p < s.size
  · have hpc : (p : Int) < (s.size : Int):=by omega
    have hV:=V s p wr hp hs
    obtain ⟨m,rfl⟩ : ∃ m',m = m' + 1:=⟨m - 1,by omega⟩
    unfold strayL at HS
    rw [ints_length,if_pos hp] at HS
    have hw4:=rune_width (ints s) p
    obtain ⟨⟨c,wd⟩,hr⟩ : ∃ r,runeAt (ints s) p = r:=⟨_,rfl⟩
    rw [hr] at HS hV hw4
    simp only at HS hV hw4
    clear hr
    by_cases h0 : wd = 0
    · subst h0
      rw [if_pos rfl] at HS
      go_wp2_with (go_at_call 142;refine hV.mono ?_;rintro x w' ⟨rfl,rfl⟩)
      go_ret
      rw [← HS.out]
      exact ⟨rfl,rfl⟩
    · rw [if_neg h0] at HS
      have hwi : (wd : Int) ≠ 0:=by omega
      go_wp2_with (go_at_call 142;refine hV.mono ?_;rintro x w' ⟨rfl,rfl⟩)
      go_roundw
      case rel => exact ⟨p + wd,m,by go_num,by omega,by omega,HS.out,trivial⟩
      case measure => simp [intOf];omega
  · go_wp2
    go_ret
    have hn : strayL (ints s) m p = none:=by
     cases m with
     | zero => rfl
     | succ m => unfold strayL;rw [ints_length,if_neg hp]
    rw [← HS.out,hn]
    exact ⟨rfl,rfl⟩
theorem lookJ_find : ∀ (ks : List ByteArray) (l : List J) (s : ByteArray),lookV ks l s = ((ks.zip l).find? fun q => q.1.toList == s.toList).map (·.2)
 | [],_,_ => by simp [lookV]
 | _ :: _,[],_ => by simp [lookV]
 | k :: ks,v :: l,s => by
  unfold lookV
  rw [List.zip_cons_cons,List.find?_cons]
  cases k.toList == s.toList with
  | true => rfl
  | false => exact lookJ_find ks l s
theorem find_perm {q r : List (ByteArray × J)} (h : q.Perm r) (s : ByteArray) (hp : q.Pairwise fun a b => a.1 ≠ b.1) : q.find? (fun x => x.1.toList == s.toList) = r.find? (fun x => x.1.toList == s.toList):=by
 induction h with
 | nil => rfl
 | cons x _ ih => rw [List.find?_cons,List.find?_cons,ih (List.pairwise_cons.1 hp).2]
 | swap x y l =>
  simp only [List.find?_cons]
  cases hy : y.1.toList == s.toList <;> cases hx : x.1.toList == s.toList <;> try rfl
  exact absurd ((bytes_eq.1 hy).trans (bytes_eq.1 hx).symm) ((List.pairwise_cons.1 hp).1 x (by simp))
 | trans h1 _ ih1 ih2 => exact (ih1 hp).trans (ih2 (h1.pairwise hp fun h => h.symm))
theorem zip_parts : ∀ q : List (ByteArray × J),(q.map (·.1)).zip (q.map (·.2)) = q
 | [] => rfl
 | x :: q => by rw [List.map_cons,List.map_cons,List.zip_cons_cons,zip_parts q]
theorem look_ordL : ∀ (ks : List ByteArray) (l : List J) (s : ByteArray),lookV ks (ordL l) s = (lookV ks l s).map ord
 | [],_,_ => by unfold lookV;rfl
 | _ :: _,[],_ => by rw [ordL];unfold lookV;rfl
 | k :: ks,v :: l,s => by
  rw [ordL]
  unfold lookV
  split
  · rfl
  · exact look_ordL ks l s
theorem look_ord {d : Nat} {j : J} (hg : goodJ (d + 1) j = true) (s : ByteArray) : lookV (ord j).ks (ord j).ls s = (lookV j.ks j.ls s).map ord:=by
 obtain ⟨k,i,t,ks,l⟩:=j
 obtain ⟨_,hg5,hgn⟩:=good_sub hg
 rw [ord]
 by_cases k5 : k = 5
 · obtain ⟨hlen,hp⟩:=hg5 k5
   rw [if_pos k5]
   unfold mapOf
   simp only [J.ks,J.ls]
   have hpz : (ks.zip (ordL l)).Pairwise fun a b => a.1 ≠ b.1:=by
    have : ((ks.zip (ordL l)).map (·.1)).Pairwise (· ≠ ·):=by rw [List.map_fst_zip (by rw [ordL_length];omega)];exact hp
    exact List.pairwise_map.1 this
   rw [lookJ_find,zip_parts,← find_perm (sortK_perm (ks.zip (ordL l))).symm s hpz,← lookJ_find,look_ordL]
 · rw [if_neg k5,hgn k5]
   simp only [J.ks,J.ls]
   unfold lookV
   rfl
theorem kd_ord (v : J) : (ord v).kd = v.kd:=by
 obtain ⟨k,i,t,ks,l⟩:=v
 rw [ord]
 split
 · rename_i h;simp only [mapOf,J.kd,h]
 · rfl
theorem nm_ord {d : Nat} {v : J} (hg : goodJ (d + 1) v = true) : (ord v).nm = v.nm:=by
 obtain ⟨k,i,t,ks,l⟩:=v
 rw [ord]
 split
 · rename_i h
   rw [goodJ,Bool.and_eq_true] at hg
   have hb:=hg.1
   unfold bare at hb
   simp only [Bool.and_eq_true,Bool.or_eq_true,decide_eq_true_eq] at hb
   simp only [mapOf,J.nm]
   omega
 · rfl
theorem good_up : ∀ (d : Nat) (j : J),goodJ d j = true → goodJ (d + 1) j = true
 | 0,_,h => by unfold goodJ at h;cases h
 | d + 1,.mk k i t ks l,h => by
  have hl : l.all (goodJ d) = true → l.all (goodJ (d + 1)) = true:=fun h => List.all_eq_true.2 fun x hx => good_up d x (List.all_eq_true.1 h x hx)
  rw [goodJ,Bool.and_eq_true] at h
  rw [goodJ,Bool.and_eq_true]
  refine ⟨h.1,?_⟩
  have h2:=h.2
  by_cases k0 : k = 0
  · rw [if_pos k0]
  rw [if_neg k0] at h2 ⊢
  by_cases k1 : k = 1
  · rw [if_pos k1] at h2 ⊢;exact h2
  rw [if_neg k1] at h2 ⊢
  by_cases k2 : k = 2
  · rw [if_pos k2] at h2 ⊢;exact h2
  rw [if_neg k2] at h2 ⊢
  by_cases k3 : k = 3
  · rw [if_pos k3] at h2 ⊢;exact h2
  rw [if_neg k3] at h2 ⊢
  by_cases k4 : k = 4
  · rw [if_pos k4] at h2 ⊢;exact hl h2
  rw [if_neg k4] at h2 ⊢
  by_cases k5 : k = 5
  · rw [if_pos k5,Bool.and_eq_true] at h2 ⊢
    exact ⟨h2.1,hl h2.2⟩
  rw [if_neg k5] at h2
  cases h2
theorem good_in {d : Nat} {j v : J} (hg : goodJ (d + 1) j = true) (h : v ∈ j.ls) : goodJ d v = true:=by
 obtain ⟨k,i,t,ks,l⟩:=j
 exact List.all_eq_true.1 (good_sub hg).1 v h
theorem numT_ord {d : Nat} {j : J} (hg : goodJ (d + 2) j = true) (z : Int) (s : ByteArray) : numT z (lookV (ord j).ks (ord j).ls s) = numT z (lookV j.ks j.ls s):=by
 rw [look_ord hg]
 cases h : lookV j.ks j.ls s with
 | none => rfl
 | some v =>
  have hv:=good_in hg (lookJ_mem h)
  simp only [Option.map_some,numT,kd_ord,nm_ord hv]
def namT (fit : ByteArray → Bool) : Option J → Nms × Bool
 | none => ([],false)
 | some v => if v.kd = 5 then (if ((ordT v).ks.zip (ordT v).ls).any (badIn fit) then ([],true) else (rowsOf (ordT v),false)) else ([],true)
theorem namT_bad (fit : ByteArray → Bool) {j : J} (hg : goodJ 12 j = true) (s : ByteArray) : (namT fit (lookV j.ks j.ls s)).2 = (rowT fit (lookV (ord j).ks (ord j).ls s)).2 ∧ ((namT fit (lookV j.ks j.ls s)).2 = false → (namT fit (lookV j.ks j.ls s)).1 = (rowT fit (lookV (ord j).ks (ord j).ls s)).1):=by
 rw [look_ord hg]
 cases h : lookV j.ks j.ls s with
 | none => exact ⟨rfl,fun _ => rfl⟩
 | some v =>
  have hv : goodJ 12 v = true:=good_up 11 v (good_in hg (lookJ_mem h))
  have e : ordT v = ord v:=by unfold ordT;rw [if_pos hv]
  simp only [Option.map_some,namT,rowT,kd_ord,e]
  by_cases k5 : v.kd = 5
  · rw [if_pos k5]
    cases hb : ((ord v).ks.zip (ord v).ls).any (badIn fit) with
    | true => exact ⟨by simp,fun h => by simp at h⟩
    | false => exact ⟨by simp [k5],fun _ => by simp⟩
  · rw [if_neg k5]
    exact ⟨by simp [k5],fun h => by simp at h⟩
def rparB (c : J) : Bool:=((((((((numT 50 (getT c kBan)).2 || (numT 50 (getT c kKick)).2) || (numT 0 (getT c kInvite)).2) || (numT 50 (getT c kRedact)).2) || (numT 50 (getT c kState)).2) || (numT 0 (getT c kEvents)).2) || (numT 0 (getT c kUsers)).2) || (namT isU (getT c kByUser)).2) || (namT isT (getT c kByType)).2
def rparL (c : J) : Lv:=⟨(numT 50 (getT c kBan)).1,(numT 50 (getT c kKick)).1,(numT 0 (getT c kInvite)).1,(numT 50 (getT c kRedact)).1,(numT 50 (getT c kState)).1,(numT 0 (getT c kEvents)).1,(numT 0 (getT c kUsers)).1,(namT isU (getT c kByUser)).1,(namT isT (getT c kByType)).1⟩
def rparseT (c : J) : Lv × Int:=if (decide (c.kd = 5) && goodJ 12 c) = true then (if rparB c then (zeroL,1) else (rparL c,0)) else (zeroL,1)
theorem parse_zero : parseT J.zero = (zeroL,1):=by
 unfold parseT
 rw [show parseB J.zero = true from by kernel_rfl]
 rfl
theorem parse_off {j : J} (h : j.kd ≠ 5) : parseT j = (zeroL,1):=by
 unfold parseT
 rw [show parseB j = true from by simp [parseB,h]]
 rfl
theorem parse_same (c : J) : parseT (ordT c) = rparseT c:=by
 unfold rparseT ordT
 cases hg : goodJ 12 c with
 | false => simp [parse_zero]
 | true =>
  by_cases k5 : c.kd = 5
  · simp only [k5,decide_true,Bool.and_self,if_true]
    have gt : ∀ s,getT c s = lookV c.ks c.ls s:=fun s => by unfold getT;rw [if_pos k5]
    have hu:=namT_bad isU hg kByUser
    have hy:=namT_bad isT hg kByType
    have hk : (ord c).kd = 5:=by rw [kd_ord,k5]
    have eb : parseB (ord c) = rparB c:=by
     unfold parseB rparB
     simp only [gt,numT_ord (d:=10) hg,hk,decide_true,Bool.not_true,Bool.false_or,hu.1,hy.1]
    unfold parseT
    rw [eb]
    cases hb : rparB c with
    | true => rfl
    | false =>
     simp only [Bool.false_eq_true,if_false]
     unfold rparB at hb
     simp only [Bool.or_eq_false_iff,gt] at hb
     unfold parseL rparL
     simp only [gt,numT_ord (d:=10) hg,hu.2 hb.1.2,hy.2 hb.2]
  · simp only [k5,decide_false,Bool.false_and,if_true]
    exact parse_off (by rw [kd_ord];exact k5)
theorem get_any {O : Nat → Prop} {w : World} {j : J} {k i : Int} {t : ByteArray} {pk pl : Option Addr} {nk ck nl cl : Nat} (hj : isJ O w j [.int .i64 k, .int .i64 i, .string t, .slice pk nk ck, .slice pl nl cl]) (hO : ∀ b, O b → b < w.heap.size) (hz : j.ks.length ≤ 100000) (s : ByteArray) :
    Calls Tryz.prog 26 #[.agg #[.int .i64 k,.int .i64 i,.string t,.slice pk nk ck,.slice pl nl cl],.string s] w fun e w' => UnderT O w' (getT j s) e ∧ Below w.heap.size w w':=by
 obtain ⟨kx,ix,tx,ks,l⟩:=j
 obtain ⟨rfl,rfl,rfl,rfl,rfl,hk,hcl,hjs⟩:=isJP_parts hj
 clear hj
 obtain ⟨o,ho⟩ : ∃ o,getT (.mk k i t ks l) s = o:=⟨_,rfl⟩
 rw [ho]
 have HO5 : Hid (k = 5 → o = lookV ks l s):=fun h => by rw [← ho];unfold getT;exact if_pos h
 have HON : Hid (¬ k = 5 → o = none):=fun h => by rw [← ho];unfold getT;exact if_neg h
 clear ho
 simp only [J.ks] at hz
 obtain ⟨W0,hW0⟩ : ∃ W0,W0 = (w.alloc (.cells #[.int .i64 k,.int .i64 i,.string t,.slice pk ks.length ck,.slice pl l.length cl] 25)).alloc (.cells #[.int .i64 0,.int .i64 0,.string ⟨#[]⟩,.slice none 0 0,.slice none 0 0] 25):=⟨_,rfl⟩
 have hb0 : Below w.heap.size w W0:=by rw [hW0];exact ((Below.refl _ _).alloc (Nat.le_refl _) _).alloc (by simp) _
 have hx0 : W0.heap[w.heap.size]? = some (.cells #[.int .i64 k,.int .i64 i,.string t,.slice pk ks.length ck,.slice pl l.length cl] 25 (0,0)):=by rw [hW0,Below.heap_alloc _ _ _ (by simp)];exact newP _
 have hR : W0.heap[w.heap.size + 1]? = some (.cells #[.int .i64 0,.int .i64 0,.string ⟨#[]⟩,.slice none 0 0,.slice none 0 0] 25 (0,0)):=by
  rw [hW0]
  have:=newP (w:=w.alloc (.cells #[.int .i64 k,.int .i64 i,.string t,.slice pk ks.length ck,.slice pl l.length cl] 25)) (.cells #[.int .i64 0,.int .i64 0,.string ⟨#[]⟩,.slice none 0 0,.slice none 0 0] 25)
  rw [World.size_alloc] at this
  exact this
 obtain ⟨nk,hnk⟩ : ∃ n,ks.length = n:=⟨_,rfl⟩
 obtain ⟨nl,hnl⟩ : ∃ n,l.length = n:=⟨_,rfl⟩
 have HNK : Hid (ks.length = nk):=hnk
 have HNL : Hid (l.length = nl):=hnl
 have hck:=hk.1
 rw [hnk] at hz hck hx0 hW0 ⊢
 rw [hnl] at hcl hx0 hW0 ⊢
 clear hnk hnl
 have c0:=cellP hx0 0 _ rfl;have c3:=cellP hx0 3 _ rfl;have c4:=cellP hx0 4 _ rfl
 have i0:=cellP hR 0 _ rfl;have i1:=cellP hR 1 _ rfl;have i2:=cellP hR 2 _ rfl;have i3:=cellP hR 3 _ rfl;have i4:=cellP hR 4 _ rfl
 have z0:=fzP hR 0;have z1:=fzP hR 1;have z2:=fzP hR 2;have z3:=fzP hR 3;have z4:=fzP hR 4
 have HR : Hid (W0.heap[w.heap.size + 1]? = some (.cells #[.int .i64 0,.int .i64 0,.string ⟨#[]⟩,.slice none 0 0,.slice none 0 0] 25 (0,0))):=hR
 have HN : Hid (∀ X,Keep (OneP (w.heap.size + 1)) W0 X → Below w.heap.size w X):=fun X hX => hb0.trans (hX.below hb0.size fun q hq e => by unfold OneP at e;omega)
 clear hR hx0
 by_cases k5 : k = 5
 · subst k5
   have HOL:=(show Hid _ from HO5.out rfl)
   clear HO5 HON
   go_enter Tryz.func26,Tryz.ntmps26
   go_upto_region 1 with fail
   rw [← hW0]
   clear hW0
   go_wp2
   go_loopw [6] (fun v wr => ∃ m : Nat,v = .int .i64 m ∧ m ≤ nk ∧ m ≤ nl ∧ Hid (∀ y,y < m → ((ks.getD y nix).toList == s.toList) = false) ∧ wr = W0) (fun v _ => nk - (intOf v).toNat)
   case atStart => exact ⟨0,rfl,Nat.zero_le _,Nat.zero_le _,fun m hm => absurd hm (by omega),rfl⟩
   case round =>
    obtain ⟨m,rfl,hm,hml,HX,rfl⟩:=hrel
    by_cases hlt : m < nk
    · by_cases hlt2 : m < nl
      · have hmi : (m : Int) < (nk : Int):=by omega
        have hmi2 : (m : Int) < (nl : Int):=by omega
        obtain ⟨a,rfl,hOa,hca0⟩:=hk.2 m (by rw [HNK.out];exact hlt)
        have hca : wr.cell? (a.add m) = some (.string (ks.getD m nix)):=(World.cell?_of_block (by rw [add_block];exact hb0.block _ (hO _ hOa))).trans hca0
        obtain ⟨lb,lo,cs,hpl,hOb,hcells,hyj⟩:=isJs.at l 0 m hjs (by rw [HNL.out];exact hlt2)
        subst hpl
        obtain ⟨kv,iv,tv,pv,nv,cv,qv,mv,dv,rfl⟩:=isJ_shape hyj
        have cc : ∀ n v,[Value.int .i64 kv,.int .i64 iv,.string tv,.slice pv nv cv,.slice qv mv dv][n]? = some v → wr.cell? ⟨lb,lo + m * 5 + n,none⟩ = some v:=fun n v h => by
         have:=hcells n v h
         rw [Nat.zero_add] at this
         exact (World.cell?_of_block (a:=⟨lb,lo + m * 5 + n,none⟩) (hb0.block lb (hO lb hOb))).trans this
        have y0 : wr.cell? ⟨lb,lo + m * 5,none⟩ = some (.int .i64 kv):=cc 0 _ rfl
        have y1:=cc 1 _ rfl
        have y2:=cc 2 _ rfl
        have y3:=cc 3 _ rfl
        have y4:=cc 4 _ rfl
        have HYJ : Hid (isJ O w (l.getD m J.zero) [Value.int .i64 kv,.int .i64 iv,.string tv,.slice pv nv cv,.slice qv mv dv]):=hyj
        have hlb:=hO lb hOb
        have HLK : Hid (((ks.getD m nix).toList == s.toList) = true → lookV ks l s = some (l.getD m J.zero)):=fun h => lookJ_step (by rw [HNK.out];exact hlt) (by rw [HNL.out];exact hlt2) HX.out h
        have HST : Hid (((ks.getD m nix).toList == s.toList) = false → ∀ y,y < m + 1 → ((ks.getD y nix).toList == s.toList) = false):=fun h y hy => (Nat.lt_succ_iff_lt_or_eq.1 hy).elim (HX.out y) fun e => by rw [e];exact h
        clear cc hcells hyj hca0
        generalize ks.getD m nix = u at hca HLK HST
        cases he : (u.toList == s.toList) with
        | true =>
         have HL:=(show Hid _ from HLK.out he)
         clear HLK HST
         go_wp2
         have h5:=setL_all (b:=w.heap.size + 1) [.int .i64 kv,.int .i64 iv,.string tv,.slice pv nv cv,.slice qv mv dv] HR.out rfl
         have HK5:=setL_keep (w.heap.size + 1) [.int .i64 kv,.int .i64 iv,.string tv,.slice pv nv cv,.slice qv mv dv] wr 0
         simp only [setL,Nat.zero_add,Nat.reduceAdd] at h5 HK5
         refine bodyPost_ret (resultsP_cell_tmp rfl _ _ _ rfl (loadJP h5)) rfl ?_
         rw [HOL.out,HL.out]
         have hbE:=HN.out _ HK5
         exact ⟨⟨_,_,_,_,_,_,_,_,_,rfl,HYJ.out.carry fun x hx => ⟨hx,hbE.block x (hO x hx)⟩⟩,hbE⟩
        | false =>
         have HS:=(show Hid _ from HST.out he)
         clear HLK HST
         go_wp2
         go_roundw
         case rel => exact ⟨m + 1,by go_num,hlt,hlt2,HS,trivial⟩
         case measure => simp [intOf];omega
      · obtain rfl : m = nl:=by omega
        have HLK : Hid (lookV ks l s = none):=lookJ_miss fun y h1 h2 => HX.out y (by rw [← HNL.out];exact h2)
        have hmi : (m : Int) < (nk : Int):=by omega
        go_wp2
        have h5:=setL_all (b:=w.heap.size + 1) [.int .i64 0,.int .i64 0,.string ⟨#[]⟩,.slice none 0 0,.slice none 0 0] HR.out rfl
        have HK5:=setL_keep (w.heap.size + 1) [.int .i64 0,.int .i64 0,.string ⟨#[]⟩,.slice none 0 0,.slice none 0 0] wr 0
        simp only [setL,Nat.zero_add,Nat.reduceAdd] at h5 HK5
        refine bodyPost_ret (resultsP_cell_tmp rfl _ _ _ rfl (loadJP h5)) rfl ?_
        rw [HOL.out,HLK.out]
        exact ⟨rfl,HN.out _ HK5⟩
    · obtain rfl : m = nk:=by omega
      have HLK : Hid (lookV ks l s = none):=lookJ_miss fun y h1 h2 => HX.out y (by rw [← HNK.out];exact h1)
      go_wp2
      have h5:=setL_all (b:=w.heap.size + 1) [.int .i64 0,.int .i64 0,.string ⟨#[]⟩,.slice none 0 0,.slice none 0 0] HR.out rfl
      have HK5:=setL_keep (w.heap.size + 1) [.int .i64 0,.int .i64 0,.string ⟨#[]⟩,.slice none 0 0,.slice none 0 0] wr 0
      simp only [setL,Nat.zero_add,Nat.reduceAdd] at h5 HK5
      refine bodyPost_ret (resultsP_cell_tmp rfl _ _ _ rfl (loadJP h5)) rfl ?_
      rw [HOL.out,HLK.out]
      exact ⟨rfl,HN.out _ HK5⟩
 · have HOL:=(show Hid _ from HON.out k5)
   clear HO5 HON
   go_enter Tryz.func26,Tryz.ntmps26
   go_upto_region 1 with fail
   rw [← hW0]
   clear hW0
   go_wp2
   have h5:=setL_all (b:=w.heap.size + 1) [.int .i64 0,.int .i64 0,.string ⟨#[]⟩,.slice none 0 0,.slice none 0 0] HR.out rfl
   have HK5:=setL_keep (w.heap.size + 1) [.int .i64 0,.int .i64 0,.string ⟨#[]⟩,.slice none 0 0,.slice none 0 0] W0 0
   simp only [setL,Nat.zero_add,Nat.reduceAdd] at h5 HK5
   refine bodyPost_ret (resultsP_cell_tmp rfl _ _ _ rfl (loadJP h5)) rfl ?_
   rw [HOL.out]
   exact ⟨rfl,HN.out _ HK5⟩
theorem szP_in {d : Nat} {j v : J} (h : szJ (d + 1) j = true) (hv : v ∈ j.ls) : szJ d v = true:=by
 obtain ⟨k,i,t,ks,l⟩:=j
 unfold szJ at h
 simp only [Bool.and_eq_true] at h
 exact List.all_eq_true.1 h.2.2.2.2 v hv
theorem getT_mem {j v : J} {s : ByteArray} (h : getT j s = some v) : v ∈ j.ls:=by
 unfold getT at h
 split at h
 · exact lookJ_mem h
 · cases h
end Go.Proofs.YtldegjjaknelgabGreatDoor

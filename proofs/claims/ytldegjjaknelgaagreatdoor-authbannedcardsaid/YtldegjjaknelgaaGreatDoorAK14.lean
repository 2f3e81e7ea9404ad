/-
  What stands under a key of a value, and of the value in order: the same, in order. Levels as the document reads them.
  The document's Get of a value, by a contract.
  Levels that are parsed are not too many.
  Which events the rules allow: as plain functions.
  Events that are nowhere too long.
  States and what is heard, as they lie in memory.
  Structs of any size that are loaded, or stored, as one operation; rows that are loaded in a region that draws.
  Whether no two of a row are the same, by a set: a contract.
-/
import Derived.Test.YtldegjjaknelgaaGreatDoorAK13
import Derived.Deep.MidRow
import Derived.Laws.Tables
set_option maxRecDepth 100000
set_option maxHeartbeats 16000000
namespace Go.Proofs.YtldegjjaknelgaaGreatDoor
open Go.RowKit
theorem lookJ_find : ∀ (ks : List ByteArray) (l : List J) (s : ByteArray),lookV ks l s = ((ks.zip l).find? fun q => q.1.toList == s.toList).map (·.2)
 | [],_,_ => by simp [lookV]
 | _ :: _,[],_ => by simp [lookV]
 | k :: ks,v :: l,s => by
  unfold lookV
  rw [List.zip_cons_cons,List.find?_cons]
  cases k.toList == s.toList with
  | true => rfl
  | false => exact lookJ_find ks l s
theorem find_perm {q r : List (ByteArray × J)} (h : q.Perm r) (s : ByteArray) (hp : q.Pairwise fun a b => a.1 ≠ b.1) : q.find? (fun x => x.1.toList == s.toList) = r.find? (fun x => x.1.toList == s.toList):=by
 induction h with
 | nil => rfl
 | cons x _ ih => rw [List.find?_cons,List.find?_cons,ih (List.pairwise_cons.1 hp).2]
 | swap x y l =>
  simp only [List.find?_cons]
  cases hy : y.1.toList == s.toList <;> cases hx : x.1.toList == s.toList <;> try rfl
  exact absurd ((bytes_eq.1 hy).trans (bytes_eq.1 hx).symm) ((List.pairwise_cons.1 hp).1 x (by simp))
 | trans h1 _ ih1 ih2 => exact (ih1 hp).trans (ih2 (h1.pairwise hp fun h => h.symm))
theorem zip_parts : ∀ q : List (ByteArray × J),(q.map (·.1)).zip (q.map (·.2)) = q
 | [] => rfl
 | x :: q => by rw [List.map_cons,List.map_cons,List.zip_cons_cons,zip_parts q]
theorem look_ordL : ∀ (ks : List ByteArray) (l : List J) (s : ByteArray),lookV ks (ordL l) s = (lookV ks l s).map ord
 | [],_,_ => by unfold lookV;rfl
 | _ :: _,[],_ => by rw [ordL];unfold lookV;rfl
 | k :: ks,v :: l,s => by
  rw [ordL]
  unfold lookV
  split
  · rfl
  · exact look_ordL ks l s
theorem look_ord {d : Nat} {j : J} (hg : goodJ (d + 1) j = true) (s : ByteArray) : lookV (ord j).ks (ord j).ls s = (lookV j.ks j.ls s).map ord:=by
 obtain ⟨k,i,t,ks,l⟩:=j
 obtain ⟨_,hg5,hgn⟩:=good_sub hg
 rw [ord]
 by_cases k5 : k = 5
 · obtain ⟨hlen,hp⟩:=hg5 k5
   rw [if_pos k5]
   unfold mapOf
   simp only [J.ks,J.ls]
   have hpz : (ks.zip (ordL l)).Pairwise fun a b => a.1 ≠ b.1:=by
    have : ((ks.zip (ordL l)).map (·.1)).Pairwise (· ≠ ·):=by rw [List.map_fst_zip (by rw [ordL_length];omega)];exact hp
    exact List.pairwise_map.1 this
   rw [lookJ_find,zip_parts,← find_perm (sortK_perm (ks.zip (ordL l))).symm s hpz,← lookJ_find,look_ordL]
 · rw [if_neg k5,hgn k5]
   simp only [J.ks,J.ls]
   unfold lookV
   rfl
theorem kd_ord (v : J) : (ord v).kd = v.kd:=by
 obtain ⟨k,i,t,ks,l⟩:=v
 rw [ord]
 split
 · rename_i h;simp only [mapOf,J.kd,h]
 · rfl
theorem nm_ord {d : Nat} {v : J} (hg : goodJ (d + 1) v = true) : (ord v).nm = v.nm:=by
 obtain ⟨k,i,t,ks,l⟩:=v
 rw [ord]
 split
 · rename_i h
   rw [goodJ,Bool.and_eq_true] at hg
   have hb:=hg.1
   unfold bare at hb
   simp only [Bool.and_eq_true,Bool.or_eq_true,decide_eq_true_eq] at hb
   simp only [mapOf,J.nm]
   omega
 · rfl
theorem good_up : ∀ (d : Nat) (j : J),goodJ d j = true → goodJ (d + 1) j = true
 | 0,_,h => by unfold goodJ at h;cases h
 | d + 1,.mk k i t ks l,h => by
  have hl : l.all (goodJ d) = true → l.all (goodJ (d + 1)) = true:=fun h => List.all_eq_true.2 fun x hx => good_up d x (List.all_eq_true.1 h x hx)
  rw [goodJ,Bool.and_eq_true] at h
  rw [goodJ,Bool.and_eq_true]
  refine ⟨h.1,?_⟩
  have h2:=h.2
  by_cases k0 : k = 0
  · rw [if_pos k0]
  rw [if_neg k0] at h2 ⊢
  by_cases k1 : k = 1
  · rw [if_pos k1] at h2 ⊢;exact h2
  rw [if_neg k1] at h2 ⊢
  by_cases k2 : k = 2
  · rw [if_pos k2] at h2 ⊢;exact h2
  rw [if_neg k2] at h2 ⊢
  by_cases k3 : k = 3
  · rw [if_pos k3] at h2 ⊢;exact h2
  rw [if_neg k3] at h2 ⊢
  by_cases k4 : k = 4
  · rw [if_pos k4] at h2 ⊢;exact hl h2
  rw [if_neg k4] at h2 ⊢
  by_cases k5 : k = 5
  · rw [if_pos k5,Bool.and_eq_true] at h2 ⊢
    exact ⟨h2.1,hl h2.2⟩
  rw [if_neg k5] at h2
  cases h2
theorem good_in {d : Nat} {j v : J} (hg : goodJ (d + 1) j = true) (h : v ∈ j.ls) : goodJ d v = true:=by
 obtain ⟨k,i,t,ks,l⟩:=j
 exact List.all_eq_true.1 (good_sub hg).1 v h
theorem numT_ord {d : Nat} {j : J} (hg : goodJ (d + 2) j = true) (z : Int) (s : ByteArray) : numT z (lookV (ord j).ks (ord j).ls s) = numT z (lookV j.ks j.ls s):=by
 rw [look_ord hg]
 cases h : lookV j.ks j.ls s with
 | none => rfl
 | some v =>
  have hv:=good_in hg (lookJ_mem h)
  simp only [Option.map_some,numT,kd_ord,nm_ord hv]
def getT (j : J) (s : ByteArray) : Option J:=if j.kd = 5 then lookV j.ks j.ls s else none
def namT (fit : ByteArray → Bool) : Option J → Nms × Bool
 | none => ([],false)
 | some v => if v.kd = 5 then (if ((ordT v).ks.zip (ordT v).ls).any (badIn fit) then ([],true) else (rowsOf (ordT v),false)) else ([],true)
theorem namT_bad (fit : ByteArray → Bool) {j : J} (hg : goodJ 12 j = true) (s : ByteArray) : (namT fit (lookV j.ks j.ls s)).2 = (rowT fit (lookV (ord j).ks (ord j).ls s)).2 ∧ ((namT fit (lookV j.ks j.ls s)).2 = false → (namT fit (lookV j.ks j.ls s)).1 = (rowT fit (lookV (ord j).ks (ord j).ls s)).1):=by
 rw [look_ord hg]
 cases h : lookV j.ks j.ls s with
 | none => exact ⟨rfl,fun _ => rfl⟩
 | some v =>
  have hv : goodJ 12 v = true:=good_up 11 v (good_in hg (lookJ_mem h))
  have e : ordT v = ord v:=by unfold ordT;rw [if_pos hv]
  simp only [Option.map_some,namT,rowT,kd_ord,e]
  by_cases k5 : v.kd = 5
  · rw [if_pos k5]
    cases hb : ((ord v).ks.zip (ord v).ls).any (badIn fit) with
    | true => exact ⟨by simp,fun h => by simp at h⟩
    | false => exact ⟨by simp [k5],fun _ => by simp⟩
  · rw [if_neg k5]
    exact ⟨by simp [k5],fun h => by simp at h⟩
def rparB (c : J) : Bool:=((((((((numT 50 (getT c kBan)).2 || (numT 50 (getT c kKick)).2) || (numT 0 (getT c kInvite)).2) || (numT 50 (getT c kRedact)).2) || (numT 50 (getT c kState)).2) || (numT 0 (getT c kEvents)).2) || (numT 0 (getT c kUsers)).2) || (namT isU (getT c kByUser)).2) || (namT isT (getT c kByType)).2
def rparL (c : J) : Lv:=⟨(numT 50 (getT c kBan)).1,(numT 50 (getT c kKick)).1,(numT 0 (getT c kInvite)).1,(numT 50 (getT c kRedact)).1,(numT 50 (getT c kState)).1,(numT 0 (getT c kEvents)).1,(numT 0 (getT c kUsers)).1,(namT isU (getT c kByUser)).1,(namT isT (getT c kByType)).1⟩
def rparseT (c : J) : Lv × Int:=if (decide (c.kd = 5) && goodJ 12 c) = true then (if rparB c then (zeroL,1) else (rparL c,0)) else (zeroL,1)
theorem parse_zero : parseT J.zero = (zeroL,1):=by
 unfold parseT
 rw [show parseB J.zero = true from by kernel_rfl]
 rfl
theorem parse_off {j : J} (h : j.kd ≠ 5) : parseT j = (zeroL,1):=by
 unfold parseT
 rw [show parseB j = true from by simp [parseB,h]]
 rfl
theorem parse_same (c : J) : parseT (ordT c) = rparseT c:=by
 unfold rparseT ordT
 cases hg : goodJ 12 c with
 | false => simp [parse_zero]
 | true =>
  by_cases k5 : c.kd = 5
  · simp only [k5,decide_true,Bool.and_self,if_true]
    have gt : ∀ s,getT c s = lookV c.ks c.ls s:=fun s => by unfold getT;rw [if_pos k5]
    have hu:=namT_bad isU hg kByUser
    have hy:=namT_bad isT hg kByType
    have hk : (ord c).kd = 5:=by rw [kd_ord,k5]
    have eb : parseB (ord c) = rparB c:=by
     unfold parseB rparB
     simp only [gt,numT_ord (d:=10) hg,hk,decide_true,Bool.not_true,Bool.false_or,hu.1,hy.1]
    unfold parseT
    rw [eb]
    cases hb : rparB c with
    | true => rfl
    | false =>
     simp only [Bool.false_eq_true,if_false]
     unfold rparB at hb
     simp only [Bool.or_eq_false_iff,gt] at hb
     unfold parseL rparL
     simp only [gt,numT_ord (d:=10) hg,hu.2 hb.1.2,hy.2 hb.2]
  · simp only [k5,decide_false,Bool.false_and,if_true]
    exact parse_off (by rw [kd_ord];exact k5)
theorem lookJ_step : ∀ {ks : List ByteArray} {l : List J} {s : ByteArray} {n : Nat},n < ks.length → n < l.length → (∀ m,m < n → ((ks.getD m nix).toList == s.toList) = false) → ((ks.getD n nix).toList == s.toList) = true → lookV ks l s = some (l.getD n J.zero)
 | [],_,_,_,h,_,_,_ => absurd h (by simp)
 | _ :: _,[],_,_,_,h,_,_ => absurd h (by simp)
 | k :: ks,v :: l,s,0,_,_,_,he => by
  have he : (k.toList == s.toList) = true:=by simpa using he
  unfold lookV
  rw [if_pos he]
  simp
 | k :: ks,v :: l,s,n + 1,h1,h2,hm,he => by
  have h0 : (k.toList == s.toList) = false:=by have:=hm 0 (by omega);simpa using this
  unfold lookV
  rw [h0,if_neg (by decide),lookJ_step (n:=n) (by simpa using h1) (by simpa using h2) (fun m h => by have:=hm (m + 1) (by omega);simpa using this) (by simpa using he)]
  simp
theorem lookJ_miss : ∀ {ks : List ByteArray} {l : List J} {s : ByteArray},(∀ m,m < ks.length → m < l.length → ((ks.getD m nix).toList == s.toList) = false) → lookV ks l s = none
 | [],_,_,_ => by unfold lookV;rfl
 | _ :: _,[],_,_ => by unfold lookV;rfl
 | k :: ks,v :: l,s,h => by
  have h0 : (k.toList == s.toList) = false:=by have:=h 0 (by simp) (by simp);simpa using this
  unfold lookV
  rw [h0,if_neg (by decide)]
  exact lookJ_miss fun m h1 h2 => by have:=h (m + 1) (by simpa using h1) (by simpa using h2);simpa using this
theorem get_any {O : Nat → Prop} {w : World} {j : J} {k i : Int} {t : ByteArray} {pk pl : Option Addr} {nk ck nl cl : Nat} (hj : isJ O w j [.int .i64 k, .int .i64 i, .string t, .slice pk nk ck, .slice pl nl cl]) (hO : ∀ b, O b → b < w.heap.size) (hz : j.ks.length ≤ 100000) (s : ByteArray) :
    Calls Tryz.prog 43 #[.agg #[.int .i64 k,.int .i64 i,.string t,.slice pk nk ck,.slice pl nl cl],.string s] w fun e w' => UnderT O w' (getT j s) e ∧ Below w.heap.size w w':=by
 obtain ⟨kx,ix,tx,ks,l⟩:=j
 obtain ⟨rfl,rfl,rfl,rfl,rfl,hk,hcl,hjs⟩:=isJP_parts hj
 clear hj
 obtain ⟨o,ho⟩ : ∃ o,getT (.mk k i t ks l) s = o:=⟨_,rfl⟩
 rw [ho]
 have HO5 : Hid (k = 5 → o = lookV ks l s):=fun h => by rw [← ho];unfold getT;exact if_pos h
 have HON : Hid (¬ k = 5 → o = none):=fun h => by rw [← ho];unfold getT;exact if_neg h
 clear ho
 simp only [J.ks] at hz
 obtain ⟨W0,hW0⟩ : ∃ W0,W0 = (w.alloc (.cells #[.int .i64 k,.int .i64 i,.string t,.slice pk ks.length ck,.slice pl l.length cl] 25)).alloc (.cells #[.int .i64 0,.int .i64 0,.string ⟨#[]⟩,.slice none 0 0,.slice none 0 0] 25):=⟨_,rfl⟩
 have hb0 : Below w.heap.size w W0:=by rw [hW0];exact ((Below.refl _ _).alloc (Nat.le_refl _) _).alloc (by simp) _
 have hx0 : W0.heap[w.heap.size]? = some (.cells #[.int .i64 k,.int .i64 i,.string t,.slice pk ks.length ck,.slice pl l.length cl] 25 (0,0)):=by rw [hW0,Below.heap_alloc _ _ _ (by simp)];exact newP _
 have hR : W0.heap[w.heap.size + 1]? = some (.cells #[.int .i64 0,.int .i64 0,.string ⟨#[]⟩,.slice none 0 0,.slice none 0 0] 25 (0,0)):=by
  rw [hW0]
  have:=newP (w:=w.alloc (.cells #[.int .i64 k,.int .i64 i,.string t,.slice pk ks.length ck,.slice pl l.length cl] 25)) (.cells #[.int .i64 0,.int .i64 0,.string ⟨#[]⟩,.slice none 0 0,.slice none 0 0] 25)
  rw [World.size_alloc] at this
  exact this
 obtain ⟨nk,hnk⟩ : ∃ n,ks.length = n:=⟨_,rfl⟩
 obtain ⟨nl,hnl⟩ : ∃ n,l.length = n:=⟨_,rfl⟩
 have HNK : Hid (ks.length = nk):=hnk
 have HNL : Hid (l.length = nl):=hnl
 have hck:=hk.1
 rw [hnk] at hz hck hx0 hW0 ⊢
 rw [hnl] at hcl hx0 hW0 ⊢
 clear hnk hnl
 have c0:=cellP hx0 0 _ rfl;have c3:=cellP hx0 3 _ rfl;have c4:=cellP hx0 4 _ rfl
 have i0:=cellP hR 0 _ rfl;have i1:=cellP hR 1 _ rfl;have i2:=cellP hR 2 _ rfl;have i3:=cellP hR 3 _ rfl;have i4:=cellP hR 4 _ rfl
 have z0:=fzP hR 0;have z1:=fzP hR 1;have z2:=fzP hR 2;have z3:=fzP hR 3;have z4:=fzP hR 4
 have HR : Hid (W0.heap[w.heap.size + 1]? = some (.cells #[.int .i64 0,.int .i64 0,.string ⟨#[]⟩,.slice none 0 0,.slice none 0 0] 25 (0,0))):=hR
 have HN : Hid (∀ X,Keep (OneP (w.heap.size + 1)) W0 X → Below w.heap.size w X):=fun X hX => hb0.trans (hX.below hb0.size fun q hq e => by unfold OneP at e;omega)
 clear hR hx0
 by_cases k5 : k = 5
 · subst k5
   have HOL:=(show Hid _ from HO5.out rfl)
   clear HO5 HON
   go_enter Tryz.func43,Tryz.ntmps43
   go_upto_region 1 with fail
   rw [← hW0]
   clear hW0
   go_wp2
   go_loopw [6] (fun v wr => ∃ m : Nat,v = .int .i64 m ∧ m ≤ nk ∧ m ≤ nl ∧ Hid (∀ y,y < m → ((ks.getD y nix).toList == s.toList) = false) ∧ wr = W0) (fun v _ => nk - (intOf v).toNat)
   case atStart => exact ⟨0,rfl,Nat.zero_le _,Nat.zero_le _,fun m hm => absurd hm (by omega),rfl⟩
   case round =>
    obtain ⟨m,rfl,hm,hml,HX,rfl⟩:=hrel
    by_cases hlt : m < nk
    · by_cases hlt2 : m < nl
      · have hmi : (m : Int) < (nk : Int):=by omega
        have hmi2 : (m : Int) < (nl : Int):=by omega
        obtain ⟨a,rfl,hOa,hca0⟩:=hk.2 m (by rw [HNK.out];exact hlt)
        have hca : wr.cell? (a.add m) = some (.string (ks.getD m nix)):=(World.cell?_of_block (by rw [add_block];exact hb0.block _ (hO _ hOa))).trans hca0
        obtain ⟨lb,lo,cs,hpl,hOb,hcells,hyj⟩:=isJs.at l 0 m hjs (by rw [HNL.out];exact hlt2)
        subst hpl
        obtain ⟨kv,iv,tv,pv,nv,cv,qv,mv,dv,rfl⟩:=isJ_shape hyj
        have cc : ∀ n v,[Value.int .i64 kv,.int .i64 iv,.string tv,.slice pv nv cv,.slice qv mv dv][n]? = some v → wr.cell? ⟨lb,lo + m * 5 + n,none⟩ = some v:=fun n v h => by
         have:=hcells n v h
         rw [Nat.zero_add] at this
         exact (World.cell?_of_block (a:=⟨lb,lo + m * 5 + n,none⟩) (hb0.block lb (hO lb hOb))).trans this
        have y0 : wr.cell? ⟨lb,lo + m * 5,none⟩ = some (.int .i64 kv):=cc 0 _ rfl
        have y1:=cc 1 _ rfl
        have y2:=cc 2 _ rfl
        have y3:=cc 3 _ rfl
        have y4:=cc 4 _ rfl
        have HYJ : Hid (isJ O w (l.getD m J.zero) [Value.int .i64 kv,.int .i64 iv,.string tv,.slice pv nv cv,.slice qv mv dv]):=hyj
        have hlb:=hO lb hOb
        have HLK : Hid (((ks.getD m nix).toList == s.toList) = true → lookV ks l s = some (l.getD m J.zero)):=fun h => lookJ_step (by rw [HNK.out];exact hlt) (by rw [HNL.out];exact hlt2) HX.out h
        have HST : Hid (((ks.getD m nix).toList == s.toList) = false → ∀ y,y < m + 1 → ((ks.getD y nix).toList == s.toList) = false):=fun h y hy => (Nat.lt_succ_iff_lt_or_eq.1 hy).elim (HX.out y) fun e => by rw [e];exact h
        clear cc hcells hyj hca0
        generalize ks.getD m nix = u at hca HLK HST
        cases he : (u.toList == s.toList) with
        | true =>
         have HL:=(show Hid _ from HLK.out he)
         clear HLK HST
         go_wp2
         have h5:=setL_all (b:=w.heap.size + 1) [.int .i64 kv,.int .i64 iv,.string tv,.slice pv nv cv,.slice qv mv dv] HR.out rfl
         have HK5:=setL_keep (w.heap.size + 1) [.int .i64 kv,.int .i64 iv,.string tv,.slice pv nv cv,.slice qv mv dv] wr 0
         simp only [setL,Nat.zero_add,Nat.reduceAdd] at h5 HK5
         refine bodyPost_ret (resultsP_cell_tmp rfl _ _ _ rfl (loadJP h5)) rfl ?_
         rw [HOL.out,HL.out]
         have hbE:=HN.out _ HK5
         exact ⟨⟨_,_,_,_,_,_,_,_,_,rfl,HYJ.out.carry fun x hx => ⟨hx,hbE.block x (hO x hx)⟩⟩,hbE⟩
        | false =>
         have HS:=(show Hid _ from HST.out he)
         clear HLK HST
         go_wp2
         go_roundw
         case rel => exact ⟨m + 1,by go_num,hlt,hlt2,HS,trivial⟩
         case measure => simp [intOf];omega
      · obtain rfl : m = nl:=by omega
        have HLK : Hid (lookV ks l s = none):=lookJ_miss fun y h1 h2 => HX.out y (by rw [← HNL.out];exact h2)
        have hmi : (m : Int) < (nk : Int):=by omega
        go_wp2
        have h5:=setL_all (b:=w.heap.size + 1) [.int .i64 0,.int .i64 0,.string ⟨#[]⟩,.slice none 0 0,.slice none 0 0] HR.out rfl
        have HK5:=setL_keep (w.heap.size + 1) [.int .i64 0,.int .i64 0,.string ⟨#[]⟩,.slice none 0 0,.slice none 0 0] wr 0
        simp only [setL,Nat.zero_add,Nat.reduceAdd] at h5 HK5
        refine bodyPost_ret (resultsP_cell_tmp rfl _ _ _ rfl (loadJP h5)) rfl ?_
        rw [HOL.out,HLK.out]
        exact ⟨rfl,HN.out _ HK5⟩
    · obtain rfl : m = nk:=by omega
      have HLK : Hid (lookV ks l s = none):=lookJ_miss fun y h1 h2 => HX.out y (by rw [← HNK.out];exact h1)
      go_wp2
      have h5:=setL_all (b:=w.heap.size + 1) [.int .i64 0,.int .i64 0,.string ⟨#[]⟩,.slice none 0 0,.slice none 0 0] HR.out rfl
      have HK5:=setL_keep (w.heap.size + 1) [.int .i64 0,.int .i64 0,.string ⟨#[]⟩,.slice none 0 0,.slice none 0 0] wr 0
      simp only [setL,Nat.zero_add,Nat.reduceAdd] at h5 HK5
      refine bodyPost_ret (resultsP_cell_tmp rfl _ _ _ rfl (loadJP h5)) rfl ?_
      rw [HOL.out,HLK.out]
      exact ⟨rfl,HN.out _ HK5⟩
 · have HOL:=(show Hid _ from HON.out k5)
   clear HO5 HON
   go_enter Tryz.func43,Tryz.ntmps43
   go_upto_region 1 with fail
   rw [← hW0]
   clear hW0
   go_wp2
   have h5:=setL_all (b:=w.heap.size + 1) [.int .i64 0,.int .i64 0,.string ⟨#[]⟩,.slice none 0 0,.slice none 0 0] HR.out rfl
   have HK5:=setL_keep (w.heap.size + 1) [.int .i64 0,.int .i64 0,.string ⟨#[]⟩,.slice none 0 0,.slice none 0 0] W0 0
   simp only [setL,Nat.zero_add,Nat.reduceAdd] at h5 HK5
   refine bodyPost_ret (resultsP_cell_tmp rfl _ _ _ rfl (loadJP h5)) rfl ?_
   rw [HOL.out]
   exact ⟨rfl,HN.out _ HK5⟩
theorem szP_in {d : Nat} {j v : J} (h : szJ (d + 1) j = true) (hv : v ∈ j.ls) : szJ d v = true:=by
 obtain ⟨k,i,t,ks,l⟩:=j
 unfold szJ at h
 simp only [Bool.and_eq_true] at h
 exact List.all_eq_true.1 h.2.2.2.2 v hv
theorem szP_keys {d : Nat} {j : J} (h : szJ (d + 1) j = true) : j.ks.length ≤ 100000:=by
 obtain ⟨k,i,t,ks,l⟩:=j
 unfold szJ at h
 simp only [Bool.and_eq_true,decide_eq_true_eq] at h
 exact h.2.1
theorem getT_mem {j v : J} {s : ByteArray} (h : getT j s = some v) : v ∈ j.ls:=by
 unfold getT at h
 split at h
 · exact lookJ_mem h
 · cases h
theorem row_sz {d : Nat} {j : J} (hok : OkJ (d + 2) j) (fit : ByteArray → Bool) (s : ByteArray) : SzN (rowT fit (lookV j.ks j.ls s)).1:=by
 cases h : lookV j.ks j.ls s with
 | none => exact ⟨by simp [rowT],fun p hp => by simp [rowT] at hp⟩
 | some v =>
  have hv : OkJ (d + 1) v:=by
   obtain ⟨_,_,_,_,_⟩:=j
   exact hok.parts.2.2.2.2.2 v (lookJ_mem h)
  obtain ⟨k,i,t,ks,l⟩:=v
  have hp:=hv.parts
  simp only [rowT,rowsOf,J.ks,J.ls]
  refine ⟨by rw [List.length_map,List.length_zip];omega,fun p hm => ?_⟩
  obtain ⟨q,hq,rfl⟩:=List.mem_map.1 hm
  exact hp.2.2.2.2.1 q.1 (List.of_mem_zip hq).1
theorem parse_sz {c : J} (hs : szJ 12 c = true) : SzL (parseT (ordT c)).1:=by
 have hok:=ordT_okJ hs
 unfold parseT
 split
 · exact ⟨⟨by simp,fun p hp => by simp at hp⟩,⟨by simp,fun p hp => by simp at hp⟩⟩
 · exact ⟨row_sz (d:=10) hok isU kByUser,row_sz (d:=10) hok isT kByType⟩
theorem parse_err (j : J) : (parseT j).2 = 0 ∨ (parseT j).2 = 1:=by
 unfold parseT
 split
 · exact .inr rfl
 · exact .inl rfl
abbrev tCreate : ByteArray:=⟨#[109,46,114,111,111,109,46,99,114,101,97,116,101]⟩
abbrev tMember : ByteArray:=⟨#[109,46,114,111,111,109,46,109,101,109,98,101,114]⟩
abbrev tPower : ByteArray:=⟨#[109,46,114,111,111,109,46,112,111,119,101,114,95,108,101,118,101,108,115]⟩
abbrev tRules : ByteArray:=⟨#[109,46,114,111,111,109,46,106,111,105,110,95,114,117,108,101,115]⟩
abbrev nCreator : ByteArray:=⟨#[99,114,101,97,116,111,114]⟩
abbrev nMemb : ByteArray:=⟨#[109,101,109,98,101,114,115,104,105,112]⟩
abbrev nRule : ByteArray:=⟨#[106,111,105,110,95,114,117,108,101]⟩
abbrev vJoin : ByteArray:=⟨#[106,111,105,110]⟩
abbrev vInvite : ByteArray:=⟨#[105,110,118,105,116,101]⟩
abbrev vLeave : ByteArray:=⟨#[108,101,97,118,101]⟩
abbrev vBan : ByteArray:=⟨#[98,97,110]⟩
abbrev vPublic : ByteArray:=⟨#[112,117,98,108,105,99]⟩
abbrev eqT (a b : ByteArray) : Bool:=a.toList == b.toList
abbrev Kn:=ByteArray × Ev
abbrev zK : Kn:=(nix,Ev.zero)
def J.tx : J → ByteArray
 | .mk _ _ t _ _ => t
def txtT : Option J → ByteArray
 | some v => if v.kd = 3 then v.tx else nix
 | none => nix
def textT (c : J) (s : ByteArray) : ByteArray:=txtT (getT c s)
def isAt (kind key : ByteArray) (k : Kn) : Bool:=k.2.st && (eqT k.2.typ kind && eqT k.2.key key)
def findT (l : List Kn) (kind key : ByteArray) : Option Kn:=l.find? (isAt kind key)
def textOfT (l : List Kn) (kind key under : ByteArray) : ByteArray:=textT ((findT l kind key).getD zK).2.content under
def membT (l : List Kn) (u : ByteArray) : ByteArray:=textOfT l tMember u nMemb
def createT (e : Ev) : Bool:=e.st && (eqT e.key ⟨#[]⟩ && (decide (e.prev.length = 0) && (decide (e.auth.length = 0) && (eqT (Id.home e.room) (Id.home e.sender) && eqT (textT e.content nCreator) e.sender))))
def levT (l : List Kn) (creator : ByteArray) : Option Lv:=match findT l tPower ⟨#[]⟩ with
 | some k => if (parseT (ordT k.2.content)).2 = 0 then some (parseT (ordT k.2.content)).1 else none
 | none => some (startL creator)
structure Hr where
 e : Ev
 st : List Kn
 cn : ByteArray
 ce : Ev
 l : Lv
 told : Bool
def Hr.own (h : Hr) : Bool:=eqT h.e.key h.e.sender
def Hr.s (h : Hr) : Int:=usr h.l h.e.sender
def Hr.t (h : Hr) : Int:=usr h.l h.e.key
def Hr.joined (h : Hr) : Bool:=eqT (membT h.st h.e.sender) vJoin
def Hr.target (h : Hr) : ByteArray:=membT h.st h.e.key
def Hr.alone (h : Hr) : Bool:=decide (h.e.prev.length = 1) && eqT (h.e.prev.getD 0 nix) h.cn
def Hr.joins (h : Hr) : Bool:=h.own && ((h.alone && eqT h.ce.sender h.e.sender) || (!eqT h.target vBan && ((eqT h.target vJoin || eqT h.target vInvite) || eqT (textOfT h.st tRules ⟨#[]⟩ nRule) vPublic)))
def Hr.leaves (h : Hr) : Bool:=if h.own then eqT h.target vJoin || eqT h.target vInvite else h.joined && (!(eqT h.target vBan && decide (h.s < h.l.ban)) && (decide (h.l.kick ≤ h.s) && decide (h.t < h.s)))
def Hr.invites (h : Hr) : Bool:=h.joined && (!eqT h.target vJoin && (!eqT h.target vBan && decide (h.l.invite ≤ h.s)))
def Hr.bans (h : Hr) : Bool:=h.joined && (decide (h.l.ban ≤ h.s) && decide (h.t < h.s))
def Hr.member (h : Hr) : Bool:=(h.e.st && isU h.e.key) &&
 (if eqT (textT h.e.content nMemb) vJoin then h.joins else if eqT (textT h.e.content nMemb) vInvite then h.invites else if eqT (textT h.e.content nMemb) vLeave then h.leaves else if eqT (textT h.e.content nMemb) vBan then h.bans else false)
def Hr.changes (h : Hr) : Bool:=decide ((parseT (ordT h.e.content)).2 = 0) && (!h.told || mayL h.l (parseT (ordT h.e.content)).1 h.e.sender)
def atT (s : ByteArray) : Bool:=decide (1 ≤ s.size) && eqT (s.extract 0 1) ⟨#[64]⟩
def Hr.sends (h : Hr) : Bool:=h.joined && (decide (kindL h.l h.e.typ h.e.st ≤ h.s) && (!((h.e.st && atT h.e.key) && !h.own) && (if (h.e.st && eqT h.e.typ tPower) && eqT h.e.key ⟨#[]⟩ then h.changes else true)))
def Hr.ask (h : Hr) : Bool:=if eqT h.e.typ tMember then h.member else h.sends
def openT (e : Ev) (l : List Kn) : Option Hr:=match findT l tCreate ⟨#[]⟩ with
 | none => none
 | some c => if eqT c.2.room e.room then (match levT l c.2.sender with | none => none | some v => some ⟨e,l,c.1,c.2,v,(findT l tPower ⟨#[]⟩).isSome⟩) else none
def askT (e : Ev) (l : List Kn) : Bool:=if eqT e.typ tCreate then createT e else match openT e l with | none => false | some h => h.ask
def judgeT (e : Ev) (l : List Kn) : Int:=if shapedE e then (if askT e l then 0 else 110) else 50
structure SzE (e : Ev) : Prop where
 room : e.room.size ≤ 1000000000
 typ : e.typ.size ≤ 1000000000
 sender : e.sender.size ≤ 1000000000
 key : e.key.size ≤ 1000000000
 hash : e.hash.size ≤ 1000000000
 cont : szJ 12 e.content = true
 prev : e.prev.length ≤ 100000
 prevs : ∀ x ∈ e.prev,x.size ≤ 1000000000
 auth : e.auth.length ≤ 100000
 auths : ∀ x ∈ e.auth,x.size ≤ 1000000000
 sigs : e.sigs.length ≤ 100000
 sigss : ∀ x ∈ e.sigs,x.1.size ≤ 1000000000 ∧ x.2.size ≤ 1000000000
def cellsK (k : Kn) (p : Pt) : List Value:=.string k.1 :: cellsE k.2 p
def valK (k : Kn) (p : Pt) : Value:=.agg (cellsK k p).toArray
def RdE (O : Nat → Prop) (w : World) (p : Option Addr) (c : Nat) (l : List Kn) : Prop :=
 l.length ≤ c ∧ ∀ j,j < l.length → ∃ b o q,p = some ⟨b,o,none⟩ ∧ O b ∧ (∀ n v,(cellsK (l.getD j zK) q)[n]? = some v → w.cell? ⟨b,o + j * 17 + n,none⟩ = some v) ∧ IsE O w (l.getD j zK).2 q
theorem RdE.carry {O O' : Nat → Prop} {w w' : World} {p : Option Addr} {c : Nat} {l : List Kn} (h : RdE O w p c l) (hO : ∀ k,O k → O' k ∧ w'.heap[k]? = w.heap[k]?) : RdE O' w' p c l :=
 ⟨h.1,fun j hj => by
  obtain ⟨b,o,q,hp,hB,h1,h2⟩:=h.2 j hj
  exact ⟨b,o,q,hp,(hO _ hB).1,fun n v hv => (World.cell?_of_block (a:=⟨b,o + j * 17 + n,none⟩) (hO _ hB).2).trans (h1 n v hv),h2.carry hO⟩⟩
theorem RdE.nil (O : Nat → Prop) (w : World) (p : Option Addr) (c : Nat) : RdE O w p c []:=⟨Nat.zero_le _,fun j hj => absurd hj (by simp)⟩
structure SzK (l : List Kn) : Prop where
 len : l.length ≤ 100000
 cont : ∀ k ∈ l,szJ 13 k.2.content = true
 snd : ∀ k ∈ l,k.2.sender.size ≤ 1000000000
theorem getK_mem {l : List Kn} {j : Nat} (h : j < l.length) : l.getD j zK ∈ l:=by
 rw [List.getD_eq_getElem?_getD,List.getElem?_eq_getElem h];exact List.getElem_mem h
structure Ph where
 e : Pt
 ps : Option Addr
 cs : Nat
 ce : Pt
 l : Pl
def cellsH (h : Hr) (p : Ph) : List Value:=cellsE h.e p.e ++ (.slice p.ps h.st.length p.cs :: (cellsK (h.cn,h.ce) p.ce ++ (cellsL h.l p.l ++ [.bool h.told])))
structure IsH (w : World) (hb : Nat) (h : Hr) (p : Ph) : Prop where
 blk : w.heap[hb]? = some (.cells (cellsH h p).toArray 92 (0,0))
 ev : IsE (· < w.heap.size) w h.e p.e
 st : RdE (· < w.heap.size) w p.ps p.cs h.st
 lv : IsL (· < w.heap.size) w h.l p.l
theorem IsH.below {w w' : World} {hb : Nat} {h : Hr} {p : Ph} (x : IsH w hb h p) (b : Below w.heap.size w w') : IsH w' hb h p :=
 ⟨(b.block hb (objP_lt x.blk)).trans x.blk,x.ev.carry fun k hk => ⟨Nat.lt_of_lt_of_le hk b.size,b.block k hk⟩,x.st.carry fun k hk => ⟨Nat.lt_of_lt_of_le hk b.size,b.block k hk⟩,x.lv.carry fun k hk => ⟨Nat.lt_of_lt_of_le hk b.size,b.block k hk⟩⟩
structure SzH (h : Hr) : Prop where
 e : SzE h.e
 st : SzK h.st
 l : SzL h.l
section
variable {w : World} {hb : Nat} {h : Hr} {p : Ph}
theorem IsH.cell (x : IsH w hb h p) (n : Nat) (v : Value) (hv : (cellsH h p).toArray[n]? = some v) : w.cell? ⟨hb,n,none⟩ = some v:=cellP x.blk n v hv
theorem IsH.sender (x : IsH w hb h p) : w.cell? ⟨hb,2,none⟩ = some (.string h.e.sender):=x.cell 2 _ rfl
theorem IsH.isSt (x : IsH w hb h p) : w.cell? ⟨hb,3,none⟩ = some (.bool h.e.st):=x.cell 3 _ rfl
theorem IsH.key (x : IsH w hb h p) : w.cell? ⟨hb,4,none⟩ = some (.string h.e.key):=x.cell 4 _ rfl
theorem IsH.prev (x : IsH w hb h p) : w.cell? ⟨hb,10,none⟩ = some (.slice p.e.pp h.e.prev.length p.e.cp):=x.cell 10 _ rfl
theorem IsH.state (x : IsH w hb h p) : w.cell? ⟨hb,16,none⟩ = some (.slice p.ps h.st.length p.cs):=x.cell 16 _ rfl
theorem IsH.cname (x : IsH w hb h p) : w.cell? ⟨hb,17,none⟩ = some (.string h.cn):=x.cell 17 _ rfl
theorem IsH.csend (x : IsH w hb h p) : w.cell? ⟨hb,20,none⟩ = some (.string h.ce.sender):=x.cell 20 _ rfl
theorem IsH.ban (x : IsH w hb h p) : w.cell? ⟨hb,34,none⟩ = some (.int .i64 h.l.ban):=x.cell 34 _ rfl
theorem IsH.kick (x : IsH w hb h p) : w.cell? ⟨hb,35,none⟩ = some (.int .i64 h.l.kick):=x.cell 35 _ rfl
theorem IsH.invite (x : IsH w hb h p) : w.cell? ⟨hb,36,none⟩ = some (.int .i64 h.l.invite):=x.cell 36 _ rfl
theorem IsH.isTold (x : IsH w hb h p) : w.cell? ⟨hb,43,none⟩ = some (.bool h.told):=x.cell 43 _ rfl
end
theorem keep_setRow (w : World) (g : Nat) (cs : Array Value) : Keep (OneP g) w (w.setRow g cs):=by
 refine ⟨rfl,rfl,rfl,by simp [World.setRow],fun k _ hk => ?_⟩
 unfold World.setRow
 simp only [Array.getElem?_modify]
 rw [if_neg (fun e => hk (by unfold OneP;exact e.symm))]
theorem range_of {w : World} {b t : Nat} {fr : Nat × Nat} {cs : List Value} (h : w.heap[b]? = some (.cells cs.toArray t fr)) : w.rangeAt b 0 cs:=fun j v hv => by
 rw [Nat.zero_add]
 exact cellP h j v (by simpa using hv)
theorem range_sub {w : World} {b t : Nat} {fr : Nat × Nat} {cs ds : List Value} (h : w.heap[b]? = some (.cells cs.toArray t fr)) (o : Nat) (hd : (cs.drop o).take ds.length = ds) : w.rangeAt b o ds:=fun j v hv => by
 refine cellP h (o + j) v ?_
 rw [← hd,List.getElem?_take] at hv
 split at hv
 · rw [List.getElem?_drop] at hv
   simpa using hv
 · cases hv
theorem wpList_store_row {ops : Array Oper} {rest : List Oper} {op : Oper} {a : Act} {w : World} {Q : Exit → Act → World → Prop} (hgd : op.guard = none) (ty : TypeId) (x y : Operand) (ho : op.op = .store ty x y)
    (g t : Nat) (old cells : Array Value) (hx : a.eval x = .pointer (some ⟨g,0,none⟩)) (hy : a.eval y = .agg cells) (hg : w.heap[g]? = some (.cells old t (0,0)))
    (hi : (Tryz.prog.info? ty).map (·.size) = some cells.size) (hs : old.size = cells.size) (h1 : cells.all (·.oneCell') = true)
    (h : wpList Tryz.prog ops Q rest (a.put op.dst undef) (w.setRow g cells)) : wpList Tryz.prog ops Q (op :: rest) a w:=by
 refine wpList_plain hgd fun K' hK' => ?_
 unfold Oper.wp execOp
 simp only [ho,hx,hy,Instr.storeAt,Instr.sureAddr,Sem.run_bind,Sem.run_pure,Result.andThen_ok,run_storeVar_row w g t ty old cells hg hi hs h1]
 exact hK' _ _ h
theorem one_E (e : Ev) (p : Pt) : (cellsE e p).toArray.all (·.oneCell') = true:=all_oneCell_toArray fun v hv => by
 simp only [cellsE,List.mem_cons,List.not_mem_nil,or_false] at hv
 rcases hv with rfl | rfl | rfl | rfl | rfl | rfl | rfl | rfl | rfl | rfl | rfl | rfl | rfl | rfl | rfl | rfl <;> rfl
theorem one_K (k : Kn) (p : Pt) : (cellsK k p).toArray.all (·.oneCell') = true:=all_oneCell_toArray fun v hv => by
 simp only [cellsK,cellsE,List.mem_cons,List.not_mem_nil,or_false] at hv
 rcases hv with rfl | rfl | rfl | rfl | rfl | rfl | rfl | rfl | rfl | rfl | rfl | rfl | rfl | rfl | rfl | rfl | rfl <;> rfl
theorem infoK : (Tryz.prog.info? 41).map (·.size) = some 17:=by kernel_rfl
theorem infoE : (Tryz.prog.info? 28).map (·.size) = some 16:=by kernel_rfl
theorem infoL : (Tryz.prog.info? 47).map (·.size) = some 9:=by kernel_rfl
theorem loadK_at {w : World} {b o : Nat} {k : Kn} {q : Pt} (h : w.rangeAt b o (cellsK k q)) : (loadVar 41 ⟨b,o,none⟩).run Tryz.prog w = .ok (valK k q) w:=run_loadVar_mid w b o 41 (cellsK k q) _ h Tryz.underlying41 rfl infoK
theorem wpList_load_midg {ops : Array Oper} {rest : List Oper} {o : Oper} {a : Act} {w : World} {Q : Exit → Act → World → Prop} (hg : Region.wanted o (yielded ops a.tmps) = true) (ty : TypeId) (m : Operand) (hop : o.op = Op.load ty m) (b ofs : Nat) (hm : a.eval m = .pointer (some ⟨b, ofs, none⟩)) (cs : List Value)
    (hl : (Instr.loadAt ty (.pointer (some ⟨b,ofs,none⟩))).run Tryz.prog w = .ok (.agg cs.toArray) w)
    (hK : wpList Tryz.prog ops Q rest (a.put o.dst (.agg cs.toArray)) w) : wpList Tryz.prog ops Q (o :: rest) a w:=by
 simp only [wpList,hg,if_true]
 refine Or.inl ?_
 unfold Oper.wp
 simp [execOp,hop,hm,hl,Result.andThen]
 exact hK
end Go.Proofs.YtldegjjaknelgaaGreatDoor
namespace Go.Proofs.YtldegjjaknelgaaGreatDoor
open Go.RowKit Go.Maps
theorem run_makeMap_room {t k e : TypeId} (ht : Tryz.prog.underlying t = some (.map k e)) (n : Int) (w : World) : (Instr.makeMap t (some (.int .i64 n))).run Tryz.prog w = .ok (.map (some w.heap.size)) (w.alloc (.map #[] 0)):=by
 simp [Instr.makeMap,run_underlying ht,asInt,asIntOf,Result.andThen]
def SetOf (w : World) (M : Nat) (ks : List ByteArray) : Prop :=
 ∃ D : DataW Unit,w.ownsMap Tryz.prog 9 (unitElem (H:=Unit)) M ks.length D ∧ (∀ s,okS s → Maps.has D (klS s) = hasK ks s) ∧ Maps.size D ≤ ks.length ∧ (Maps.size D = ks.length ↔ noKeyTwice ks = true)
theorem SetOf.made (w : World) : SetOf (w.alloc (.map #[] 0)) w.heap.size [] :=
 ⟨.map [],World.ownsMap_made _ _ _ _,fun _ _ => rfl,Nat.le_refl _,⟨fun _ => rfl,fun _ => rfl⟩⟩
theorem hasK_mem {ks : List ByteArray} {s : ByteArray} : hasK ks s = true ↔ s ∈ ks:=by
 unfold hasK
 rw [List.any_eq_true]
 constructor
 · rintro ⟨x,hx,h⟩
   have : x = s:=by
    have h:=of_decide_eq_true h
    cases x;cases s
    simp only at h
    rw [h]
   exact this ▸ hx
 · exact fun h => ⟨s,h,by simp⟩
theorem noTwice_snoc (ks : List ByteArray) (s : ByteArray) : noKeyTwice (ks ++ [s]) = true ↔ noKeyTwice ks = true ∧ hasK ks s = false:=by
 constructor
 · intro h
   have h:=List.pairwise_append.1 (noTwice_pair h)
   refine ⟨pair_noTwice h.1,?_⟩
   cases e : hasK ks s with
   | false => rfl
   | true => exact absurd rfl (h.2.2 s (hasK_mem.1 e) s (by simp))
 · rintro ⟨h1,h2⟩
   refine pair_noTwice (List.pairwise_append.2 ⟨noTwice_pair h1,List.pairwise_singleton _ _,fun a ha b hb e => ?_⟩)
   rw [List.mem_singleton.1 hb] at e
   rw [hasK_mem.2 (e ▸ ha)] at h2
   cases h2
theorem SetOf.put {w w2 : World} {M : Nat} {ks : List ByteArray} {D : DataW Unit} {s : ByteArray} (h0 : w.ownsMap Tryz.prog 9 (unitElem (H := Unit)) M ks.length D) (hown : w2.ownsMap Tryz.prog 9 (unitElem (H := Unit)) M (ks.length + 1) (D.put (klS s) (.agg [])))
    (hh : ∀ s,okS s → Maps.has D (klS s) = hasK ks s) (h1 : Maps.size D ≤ ks.length) (h2 : Maps.size D = ks.length ↔ noKeyTwice ks = true) (hs : okS s) : SetOf w2 M (ks ++ [s]):=by
 have hm:=h0.isMap
 have hsz:=size_put (k:=klS s) (h0.tidy law9) (.agg [])
 rw [hh s hs] at hsz
 refine ⟨D.put (klS s) (.agg []),by rw [List.length_append];exact hown,fun x hx => ?_,?_,?_⟩
 · rw [hasK_snoc]
   by_cases e : x = s
   · subst e
     rw [has_put_same hm (show WideAt.IsKeyLit (klS x) from trivial)]
     simp
   · rw [has_put_other (fun h' => e (klS_inj h')),hh x hx]
     have : decide (s.data = x.data) = false:=by
      apply decide_eq_false
      intro h'
      apply e
      cases x;cases s
      simp only at h'
      rw [h']
     rw [this,Bool.or_false]
 · rw [hsz,List.length_append]
   split <;> simp <;> omega
 · rw [hsz,List.length_append,noTwice_snoc,← h2]
   cases e : hasK ks s with
   | true => simp;omega
   | false => simp
theorem once_any {O : Nat → Prop} {ks : List ByteArray} {p : Option Addr} {c : Nat} {w : World} (hrd : RdK O w p c ks) (hO : ∀ k, O k → k < w.heap.size) (hl : ks.length ≤ 100000) (hkz : ∀ k ∈ ks, k.size ≤ 1000000000) :
    Calls Tryz.prog 132 #[.slice p ks.length c] w fun x w' => x = .returned (.bool (noKeyTwice ks)) ∧ Below w.heap.size w w':=by
 obtain ⟨n,hn⟩ : ∃ n,ks.length = n:=⟨_,rfl⟩
 have HN : Hid (ks.length = n):=hn
 have hcc:=hrd.1
 rw [hn] at hl hcc ⊢
 clear hn
 have hmm:=run_makeMap_room Tryz.underlying171
 go_enter Tryz.func132,Tryz.ntmps132
 go_wp2
 clear hmm
 go_loopw [11] (fun i wr => ∃ k : Nat,i = .int .i64 k ∧ k ≤ n ∧ Below w.heap.size w wr ∧ SetOf wr w.heap.size (ks.take k)) (fun i _ => n - (intOf i).toNat)
 case atStart => exact ⟨0,rfl,Nat.zero_le _,(Below.refl _ _).alloc (Nat.le_refl _) _,SetOf.made w⟩
 case round =>
  obtain ⟨k,rfl,hk,hb,D,hown,hhas,hs1,hs2⟩:=hrel
  have HH : Hid (∀ s,okS s → Maps.has D (klS s) = hasK (ks.take k) s):=hhas
  have HS2 : Hid (Maps.size D = (ks.take k).length ↔ noKeyTwice (ks.take k) = true):=hs2
  have HS1 : Hid (Maps.size D ≤ (ks.take k).length):=hs1
  have HTL : Hid ((ks.take k).length = k):=by show _ = _;rw [List.length_take,HN.out];omega
  clear hhas hs1 hs2
  by_cases hlt : k < n
  · have hki : (k : Int) < (n : Int):=by omega
    obtain ⟨a,hpa,hOa,hca⟩:=hrd.2 k (by rw [HN.out];exact hlt)
    subst hpa
    have hcell : wr.cell? (a.add k) = some (.string (ks.getD k nix)):=(World.cell?_of_block (by rw [add_block];exact hb.block _ (hO _ hOa))).trans hca
    have hTS : ks.take (k + 1) = ks.take k ++ [ks.getD k nix]:=by
     have hkl : k < ks.length:=by rw [HN.out];exact hlt
     rw [List.take_add_one,List.getElem?_eq_getElem hkl,List.getD_eq_getElem?_getD,List.getElem?_eq_getElem hkl];rfl
    have hus : (ks.getD k nix).size ≤ 1000000000:=hkz _ (by
     have hkl : k < ks.length:=by rw [HN.out];exact hlt
     rw [List.getD_eq_getElem?_getD,List.getElem?_eq_getElem hkl];exact List.getElem_mem _)
    obtain ⟨u,hu⟩ : ∃ u,ks.getD k nix = u:=⟨_,rfl⟩
    rw [hu] at hcell hTS hus
    have HTS : Hid (ks.take (k + 1) = ks.take k ++ [u]):=hTS
    clear hTS hu hca
    have hok : okS u:=by unfold okS maxLen;omega
    have hkey:=keyS hok
    have HML : Hid ((ks.take k).length < maxLen):=by show _ < _;rw [HTL.out];unfold maxLen;omega
    have HV : Hid (unitElem (H:=Unit) (.agg #[]) = some (.agg [],[])):=unitElem_mk
    go_wp2_with (at_mapUpdate;refine wpList_mapUpdate_own _ rfl _ _ _ 171 rfl 9 172 law9 Tryz.underlying171 _ w.heap.size (ks.take k).length D rfl hown HML.out _ _ _ rfl rfl hkey (.agg []) [] HV.out ?_;intro w2 hown2 hg2)
    go_roundw
    case rel => exact ⟨k + 1,by go_num,hlt,hb.trans ((Keep.of_grown (S:=fun k => k = w.heap.size) hg2 fun _ _ e => (Option.some.inj e).symm).below hb.size fun k hk => by omega),by rw [HTS.out];exact SetOf.put hown hown2 HH.out HS1.out HS2.out hok⟩
    case measure => simp [intOf];omega
  · obtain rfl : k = n:=by omega
    have hTA : ks.take k = ks:=List.take_of_length_le (by rw [HN.out];omega)
    have hr : decide ((Maps.size D : Int) = (k : Int)) = noKeyTwice ks:=by
     have h:=HS2.out
     rw [hTA,HN.out] at h
     rw [Bool.eq_iff_iff,← h,decide_eq_true_eq]
     omega
    have HR : Hid (decide ((Maps.size D : Int) = (k : Int)) = noKeyTwice ks):=hr
    clear hr hTA
    go_wp2_with (at_len;refine wpList_len_own _ rfl _ 171 rfl 9 172 Tryz.underlying171 _ w.heap.size (ks.take k).length D rfl hown ?_)
    go_ret
    exact ⟨ret_bool (by first | exact HR.out | simpa using HR.out),hb⟩
end Go.Proofs.YtldegjjaknelgaaGreatDoor

/-
  What stands under a key of a value, and of the value in order: the same, in order. Levels as the document reads them.
  The document's Get of a value, by a contract.
  Levels that are parsed are not too many.
  Which events the rules allow: as plain functions.
  Events that are nowhere too long.
  States and what is heard, as they lie in memory.
  Structs of any size that are loaded, or stored, as one operation; rows that are loaded in a region that draws.
  Whether no two of a row are the same, by a set: a contract.
  A map or list that is being made, a key and a value after another: what lies in memory.
  A key and a value more, by a contract: what told's own function does.
  The small parts of an event's shape and JSON, by contracts: within, digest, text, number.
  Lists of texts, and maps of signatures, as JSON: by contracts.
  A map of names to values of JSON, as the reader of events has it.
  The reader of events: what it has left, and how it takes a value: by contracts.
-/
import Derived.Test.YtnngalkdjgjmbaaGreatPR08
import Derived.Deep.MidRow
import Derived.Laws.Tables
import Derived.Laws.OwnMore
set_option maxRecDepth 100000
set_option maxHeartbeats 16000000
namespace Go.Proofs.YtnngalkdjgjmbaaGreat
open Go.RowKit
theorem lookJ_find : ∀ (ks : List ByteArray) (l : List J) (s : ByteArray), lookV ks l s = ((ks.zip l).find? fun q => q.1.toList == s.toList).map (·.2)
 | [], _, _ => by simp [lookV]
 | _ :: _, [], _ => by simp [lookV]
 | k :: ks, v :: l, s => by
  unfold lookV
  rw [List.zip_cons_cons, List.find?_cons]
  cases k.toList == s.toList with
  | true => rfl
  | false => exact lookJ_find ks l s
theorem find_perm {q r : List (ByteArray × J)} (h : q.Perm r) (s : ByteArray) (hp : q.Pairwise fun a b => a.1 ≠ b.1) : q.find? (fun x => x.1.toList == s.toList) = r.find? (fun x => x.1.toList == s.toList) := by
 induction h with
 | nil => rfl
 | cons x _ ih => rw [List.find?_cons, List.find?_cons, ih (List.pairwise_cons.1 hp).2]
 | swap x y l =>
  simp only [List.find?_cons]
  cases hy : y.1.toList == s.toList <;> cases hx : x.1.toList == s.toList <;> try rfl
  exact absurd ((bytes_eq.1 hy).trans (bytes_eq.1 hx).symm) ((List.pairwise_cons.1 hp).1 x (by simp))
 | trans h1 _ ih1 ih2 => exact (ih1 hp).trans (ih2 (h1.pairwise hp fun h => h.symm))
theorem zip_parts : ∀ q : List (ByteArray × J), (q.map (·.1)).zip (q.map (·.2)) = q
 | [] => rfl
 | x :: q => by rw [List.map_cons, List.map_cons, List.zip_cons_cons, zip_parts q]
theorem look_ordL : ∀ (ks : List ByteArray) (l : List J) (s : ByteArray), lookV ks (ordL l) s = (lookV ks l s).map ord
 | [], _, _ => by unfold lookV; rfl
 | _ :: _, [], _ => by rw [ordL]; unfold lookV; rfl
 | k :: ks, v :: l, s => by
  rw [ordL]
  unfold lookV
  split
  · rfl
  · exact look_ordL ks l s
theorem look_ord {d : Nat} {j : J} (hg : goodJ (d + 1) j = true) (s : ByteArray) : lookV (ord j).ks (ord j).ls s = (lookV j.ks j.ls s).map ord := by
 obtain ⟨k, i, t, ks, l⟩ := j
 obtain ⟨_, hg5, hgn⟩ := good_sub hg
 rw [ord]
 by_cases k5 : k = 5
 · obtain ⟨hlen, hp⟩ := hg5 k5
   rw [if_pos k5]
   unfold mapOf
   simp only [J.ks, J.ls]
   have hpz : (ks.zip (ordL l)).Pairwise fun a b => a.1 ≠ b.1 := by
    have : ((ks.zip (ordL l)).map (·.1)).Pairwise (· ≠ ·) := by rw [List.map_fst_zip (by rw [ordL_length]; omega)]; exact hp
    exact List.pairwise_map.1 this
   rw [lookJ_find, zip_parts, ← find_perm (sortK_perm (ks.zip (ordL l))).symm s hpz, ← lookJ_find, look_ordL]
 · rw [if_neg k5, hgn k5]
   simp only [J.ks, J.ls]
   unfold lookV
   rfl
theorem kd_ord (v : J) : (ord v).kd = v.kd := by
 obtain ⟨k, i, t, ks, l⟩ := v
 rw [ord]
 split
 · rename_i h; simp only [mapOf, J.kd, h]
 · rfl
theorem nm_ord {d : Nat} {v : J} (hg : goodJ (d + 1) v = true) : (ord v).nm = v.nm := by
 obtain ⟨k, i, t, ks, l⟩ := v
 rw [ord]
 split
 · rename_i h
   rw [goodJ, Bool.and_eq_true] at hg
   have hb := hg.1
   unfold bare at hb
   simp only [Bool.and_eq_true, Bool.or_eq_true, decide_eq_true_eq] at hb
   simp only [mapOf, J.nm]
   omega
 · rfl
theorem good_up : ∀ (d : Nat) (j : J), goodJ d j = true → goodJ (d + 1) j = true
 | 0, _, h => by unfold goodJ at h; cases h
 | d + 1, .mk k i t ks l, h => by
  have hl : l.all (goodJ d) = true → l.all (goodJ (d + 1)) = true := fun h => List.all_eq_true.2 fun x hx => good_up d x (List.all_eq_true.1 h x hx)
  rw [goodJ, Bool.and_eq_true] at h
  rw [goodJ, Bool.and_eq_true]
  refine ⟨h.1, ?_⟩
  have h2 := h.2
  by_cases k0 : k = 0
  · rw [if_pos k0]
  rw [if_neg k0] at h2 ⊢
  by_cases k1 : k = 1
  · rw [if_pos k1] at h2 ⊢; exact h2
  rw [if_neg k1] at h2 ⊢
  by_cases k2 : k = 2
  · rw [if_pos k2] at h2 ⊢; exact h2
  rw [if_neg k2] at h2 ⊢
  by_cases k3 : k = 3
  · rw [if_pos k3] at h2 ⊢; exact h2
  rw [if_neg k3] at h2 ⊢
  by_cases k4 : k = 4
  · rw [if_pos k4] at h2 ⊢; exact hl h2
  rw [if_neg k4] at h2 ⊢
  by_cases k5 : k = 5
  · rw [if_pos k5, Bool.and_eq_true] at h2 ⊢
    exact ⟨h2.1, hl h2.2⟩
  rw [if_neg k5] at h2
  cases h2
theorem good_in {d : Nat} {j v : J} (hg : goodJ (d + 1) j = true) (h : v ∈ j.ls) : goodJ d v = true := by
 obtain ⟨k, i, t, ks, l⟩ := j
 exact List.all_eq_true.1 (good_sub hg).1 v h
theorem numT_ord {d : Nat} {j : J} (hg : goodJ (d + 2) j = true) (z : Int) (s : ByteArray) : numT z (lookV (ord j).ks (ord j).ls s) = numT z (lookV j.ks j.ls s) := by
 rw [look_ord hg]
 cases h : lookV j.ks j.ls s with
 | none => rfl
 | some v =>
  have hv := good_in hg (lookJ_mem h)
  simp only [Option.map_some, numT, kd_ord, nm_ord hv]
def getT (j : J) (s : ByteArray) : Option J := if j.kd = 5 then lookV j.ks j.ls s else none
def namT (fit : ByteArray → Bool) : Option J → Nms × Bool
 | none => ([], false)
 | some v => if v.kd = 5 then (if ((ordT v).ks.zip (ordT v).ls).any (badIn fit) then ([], true) else (rowsOf (ordT v), false)) else ([], true)
theorem namT_bad (fit : ByteArray → Bool) {j : J} (hg : goodJ 12 j = true) (s : ByteArray) : (namT fit (lookV j.ks j.ls s)).2 = (rowT fit (lookV (ord j).ks (ord j).ls s)).2 ∧ ((namT fit (lookV j.ks j.ls s)).2 = false → (namT fit (lookV j.ks j.ls s)).1 = (rowT fit (lookV (ord j).ks (ord j).ls s)).1) := by
 rw [look_ord hg]
 cases h : lookV j.ks j.ls s with
 | none => exact ⟨rfl, fun _ => rfl⟩
 | some v =>
  have hv : goodJ 12 v = true := good_up 11 v (good_in hg (lookJ_mem h))
  have e : ordT v = ord v := by unfold ordT; rw [if_pos hv]
  simp only [Option.map_some, namT, rowT, kd_ord, e]
  by_cases k5 : v.kd = 5
  · rw [if_pos k5]
    cases hb : ((ord v).ks.zip (ord v).ls).any (badIn fit) with
    | true => exact ⟨by simp, fun h => by simp at h⟩
    | false => exact ⟨by simp [k5], fun _ => by simp⟩
  · rw [if_neg k5]
    exact ⟨by simp [k5], fun h => by simp at h⟩
def rparB (c : J) : Bool := ((((((((numT 50 (getT c kBan)).2 || (numT 50 (getT c kKick)).2) || (numT 0 (getT c kInvite)).2) || (numT 50 (getT c kRedact)).2) || (numT 50 (getT c kState)).2) || (numT 0 (getT c kEvents)).2) || (numT 0 (getT c kUsers)).2) || (namT isU (getT c kByUser)).2) || (namT isT (getT c kByType)).2
def rparL (c : J) : Lv := ⟨(numT 50 (getT c kBan)).1, (numT 50 (getT c kKick)).1, (numT 0 (getT c kInvite)).1, (numT 50 (getT c kRedact)).1, (numT 50 (getT c kState)).1, (numT 0 (getT c kEvents)).1, (numT 0 (getT c kUsers)).1, (namT isU (getT c kByUser)).1, (namT isT (getT c kByType)).1⟩
def rparseT (c : J) : Lv × Int := if (decide (c.kd = 5) && goodJ 12 c) = true then (if rparB c then (zeroL, 1) else (rparL c, 0)) else (zeroL, 1)
theorem parse_zero : parseT J.zero = (zeroL, 1) := by
 unfold parseT
 rw [show parseB J.zero = true from by kernel_rfl]
 rfl
theorem parse_off {j : J} (h : j.kd ≠ 5) : parseT j = (zeroL, 1) := by
 unfold parseT
 rw [show parseB j = true from by simp [parseB, h]]
 rfl
theorem parse_same (c : J) : parseT (ordT c) = rparseT c := by
 unfold rparseT ordT
 cases hg : goodJ 12 c with
 | false => simp [parse_zero]
 | true =>
  by_cases k5 : c.kd = 5
  · simp only [k5, decide_true, Bool.and_self, if_true]
    have gt : ∀ s, getT c s = lookV c.ks c.ls s := fun s => by unfold getT; rw [if_pos k5]
    have hu := namT_bad isU hg kByUser
    have hy := namT_bad isT hg kByType
    have hk : (ord c).kd = 5 := by rw [kd_ord, k5]
    have eb : parseB (ord c) = rparB c := by
     unfold parseB rparB
     simp only [gt, numT_ord (d := 10) hg, hk, decide_true, Bool.not_true, Bool.false_or, hu.1, hy.1]
    unfold parseT
    rw [eb]
    cases hb : rparB c with
    | true => rfl
    | false =>
     simp only [Bool.false_eq_true, if_false]
     unfold rparB at hb
     simp only [Bool.or_eq_false_iff, gt] at hb
     unfold parseL rparL
     simp only [gt, numT_ord (d := 10) hg, hu.2 hb.1.2, hy.2 hb.2]
  · simp only [k5, decide_false, Bool.false_and, if_true]
    exact parse_off (by rw [kd_ord]; exact k5)
theorem lookJ_step : ∀ {ks : List ByteArray} {l : List J} {s : ByteArray} {n : Nat}, n < ks.length → n < l.length → (∀ m, m < n → ((ks.getD m nix).toList == s.toList) = false) → ((ks.getD n nix).toList == s.toList) = true → lookV ks l s = some (l.getD n J.zero)
 | [], _, _, _, h, _, _, _ => absurd h (by simp)
 | _ :: _, [], _, _, _, h, _, _ => absurd h (by simp)
 | k :: ks, v :: l, s, 0, _, _, _, he => by
  have he : (k.toList == s.toList) = true := by simpa using he
  unfold lookV
  rw [if_pos he]
  simp
 | k :: ks, v :: l, s, n + 1, h1, h2, hm, he => by
  have h0 : (k.toList == s.toList) = false := by have := hm 0 (by omega); simpa using this
  unfold lookV
  rw [h0, if_neg (by decide), lookJ_step (n := n) (by simpa using h1) (by simpa using h2) (fun m h => by have := hm (m + 1) (by omega); simpa using this) (by simpa using he)]
  simp
theorem lookJ_miss : ∀ {ks : List ByteArray} {l : List J} {s : ByteArray}, (∀ m, m < ks.length → m < l.length → ((ks.getD m nix).toList == s.toList) = false) → lookV ks l s = none
 | [], _, _, _ => by unfold lookV; rfl
 | _ :: _, [], _, _ => by unfold lookV; rfl
 | k :: ks, v :: l, s, h => by
  have h0 : (k.toList == s.toList) = false := by have := h 0 (by simp) (by simp); simpa using this
  unfold lookV
  rw [h0, if_neg (by decide)]
  exact lookJ_miss fun m h1 h2 => by have := h (m + 1) (by simpa using h1) (by simpa using h2); simpa using this
theorem get_any {O : Nat → Prop} {w : World} {j : J} {k i : Int} {t : ByteArray} {pk pl : Option Addr} {nk ck nl cl : Nat} (hj : isJ O w j [.int .i64 k, .int .i64 i, .string t, .slice pk nk ck, .slice pl nl cl]) (hO : ∀ b, O b → b < w.heap.size) (hz : j.ks.length ≤ 100000) (s : ByteArray) :
    Calls Tryz.prog 29 #[.agg #[.int .i64 k, .int .i64 i, .string t, .slice pk nk ck, .slice pl nl cl], .string s] w fun e w' => UnderT O w' (getT j s) e ∧ Below w.heap.size w w' := by
 obtain ⟨kx, ix, tx, ks, l⟩ := j
 obtain ⟨rfl, rfl, rfl, rfl, rfl, hk, hcl, hjs⟩ := isJP_parts hj
 clear hj
 obtain ⟨o, ho⟩ : ∃ o, getT (.mk k i t ks l) s = o := ⟨_, rfl⟩
 rw [ho]
 have HO5 : Hid (k = 5 → o = lookV ks l s) := fun h => by rw [← ho]; unfold getT; exact if_pos h
 have HON : Hid (¬ k = 5 → o = none) := fun h => by rw [← ho]; unfold getT; exact if_neg h
 clear ho
 simp only [J.ks] at hz
 obtain ⟨W0, hW0⟩ : ∃ W0, W0 = (w.alloc (.cells #[.int .i64 k, .int .i64 i, .string t, .slice pk ks.length ck, .slice pl l.length cl] 25)).alloc (.cells #[.int .i64 0, .int .i64 0, .string ⟨#[]⟩, .slice none 0 0, .slice none 0 0] 25) := ⟨_, rfl⟩
 have hb0 : Below w.heap.size w W0 := by rw [hW0]; exact ((Below.refl _ _).alloc (Nat.le_refl _) _).alloc (by simp) _
 have hx0 : W0.heap[w.heap.size]? = some (.cells #[.int .i64 k, .int .i64 i, .string t, .slice pk ks.length ck, .slice pl l.length cl] 25 (0, 0)) := by rw [hW0, Below.heap_alloc _ _ _ (by simp)]; exact newP _
 have hR : W0.heap[w.heap.size + 1]? = some (.cells #[.int .i64 0, .int .i64 0, .string ⟨#[]⟩, .slice none 0 0, .slice none 0 0] 25 (0, 0)) := by
  rw [hW0]
  have := newP (w := w.alloc (.cells #[.int .i64 k, .int .i64 i, .string t, .slice pk ks.length ck, .slice pl l.length cl] 25)) (.cells #[.int .i64 0, .int .i64 0, .string ⟨#[]⟩, .slice none 0 0, .slice none 0 0] 25)
  rw [World.size_alloc] at this
  exact this
 obtain ⟨nk, hnk⟩ : ∃ n, ks.length = n := ⟨_, rfl⟩
 obtain ⟨nl, hnl⟩ : ∃ n, l.length = n := ⟨_, rfl⟩
 have HNK : Hid (ks.length = nk) := hnk
 have HNL : Hid (l.length = nl) := hnl
 have hck := hk.1
 rw [hnk] at hz hck hx0 hW0 ⊢
 rw [hnl] at hcl hx0 hW0 ⊢
 clear hnk hnl
 have c0 := cellP hx0 0 _ rfl; have c3 := cellP hx0 3 _ rfl; have c4 := cellP hx0 4 _ rfl
 have i0 := cellP hR 0 _ rfl; have i1 := cellP hR 1 _ rfl; have i2 := cellP hR 2 _ rfl; have i3 := cellP hR 3 _ rfl; have i4 := cellP hR 4 _ rfl
 have z0 := fzP hR 0; have z1 := fzP hR 1; have z2 := fzP hR 2; have z3 := fzP hR 3; have z4 := fzP hR 4
 have HR : Hid (W0.heap[w.heap.size + 1]? = some (.cells #[.int .i64 0, .int .i64 0, .string ⟨#[]⟩, .slice none 0 0, .slice none 0 0] 25 (0, 0))) := hR
 have HN : Hid (∀ X, Keep (OneP (w.heap.size + 1)) W0 X → Below w.heap.size w X) := fun X hX => hb0.trans (hX.below hb0.size fun q hq e => by unfold OneP at e; omega)
 clear hR hx0
 by_cases k5 : k = 5
 · subst k5
   have HOL := (show Hid _ from HO5.out rfl)
   clear HO5 HON
   go_enter Tryz.func29, Tryz.ntmps29
   go_upto_region 1 with fail
   rw [← hW0]
   clear hW0
   go_wp2
   go_loopw [6] (fun v wr => ∃ m : Nat, v = .int .i64 m ∧ m ≤ nk ∧ m ≤ nl ∧ Hid (∀ y, y < m → ((ks.getD y nix).toList == s.toList) = false) ∧ wr = W0) (fun v _ => nk - (intOf v).toNat)
   case atStart => exact ⟨0, rfl, Nat.zero_le _, Nat.zero_le _, fun m hm => absurd hm (by omega), rfl⟩
   case round =>
    obtain ⟨m, rfl, hm, hml, HX, rfl⟩ := hrel
    by_cases hlt : m < nk
    · by_cases hlt2 : m < nl
      · have hmi : (m : Int) < (nk : Int) := by omega
        have hmi2 : (m : Int) < (nl : Int) := by omega
        obtain ⟨a, rfl, hOa, hca0⟩ := hk.2 m (by rw [HNK.out]; exact hlt)
        have hca : wr.cell? (a.add m) = some (.string (ks.getD m nix)) := (World.cell?_of_block (by rw [add_block]; exact hb0.block _ (hO _ hOa))).trans hca0
        obtain ⟨lb, lo, cs, hpl, hOb, hcells, hyj⟩ := isJs.at l 0 m hjs (by rw [HNL.out]; exact hlt2)
        subst hpl
        obtain ⟨kv, iv, tv, pv, nv, cv, qv, mv, dv, rfl⟩ := isJ_shape hyj
        have cc : ∀ n v, [Value.int .i64 kv, .int .i64 iv, .string tv, .slice pv nv cv, .slice qv mv dv][n]? = some v → wr.cell? ⟨lb, lo + m * 5 + n, none⟩ = some v := fun n v h => by
         have := hcells n v h
         rw [Nat.zero_add] at this
         exact (World.cell?_of_block (a := ⟨lb, lo + m * 5 + n, none⟩) (hb0.block lb (hO lb hOb))).trans this
        have y0 : wr.cell? ⟨lb, lo + m * 5, none⟩ = some (.int .i64 kv) := cc 0 _ rfl
        have y1 := cc 1 _ rfl
        have y2 := cc 2 _ rfl
        have y3 := cc 3 _ rfl
        have y4 := cc 4 _ rfl
        have HYJ : Hid (isJ O w (l.getD m J.zero) [Value.int .i64 kv, .int .i64 iv, .string tv, .slice pv nv cv, .slice qv mv dv]) := hyj
        have hlb := hO lb hOb
        have HLK : Hid (((ks.getD m nix).toList == s.toList) = true → lookV ks l s = some (l.getD m J.zero)) := fun h => lookJ_step (by rw [HNK.out]; exact hlt) (by rw [HNL.out]; exact hlt2) HX.out h
        have HST : Hid (((ks.getD m nix).toList == s.toList) = false → ∀ y, y < m + 1 → ((ks.getD y nix).toList == s.toList) = false) := fun h y hy => (Nat.lt_succ_iff_lt_or_eq.1 hy).elim (HX.out y) fun e => by rw [e]; exact h
        clear cc hcells hyj hca0
        generalize ks.getD m nix = u at hca HLK HST
        cases he : (u.toList == s.toList) with
        | true =>
         have HL := (show Hid _ from HLK.out he)
         clear HLK HST
         go_wp2
         have h5 := setL_all (b := w.heap.size + 1) [.int .i64 kv, .int .i64 iv, .string tv, .slice pv nv cv, .slice qv mv dv] HR.out rfl
         have HK5 := setL_keep (w.heap.size + 1) [.int .i64 kv, .int .i64 iv, .string tv, .slice pv nv cv, .slice qv mv dv] wr 0
         simp only [setL, Nat.zero_add, Nat.reduceAdd] at h5 HK5
         refine bodyPost_ret (resultsP_cell_tmp rfl _ _ _ rfl (loadJP h5)) rfl ?_
         rw [HOL.out, HL.out]
         have hbE := HN.out _ HK5
         exact ⟨⟨_, _, _, _, _, _, _, _, _, rfl, HYJ.out.carry fun x hx => ⟨hx, hbE.block x (hO x hx)⟩⟩, hbE⟩
        | false =>
         have HS := (show Hid _ from HST.out he)
         clear HLK HST
         go_wp2
         go_roundw
         case rel => exact ⟨m + 1, by go_num, hlt, hlt2, HS, trivial⟩
         case measure => simp [intOf]; omega
      · obtain rfl : m = nl := by omega
        have HLK : Hid (lookV ks l s = none) := lookJ_miss fun y h1 h2 => HX.out y (by rw [← HNL.out]; exact h2)
        have hmi : (m : Int) < (nk : Int) := by omega
        go_wp2
        have h5 := setL_all (b := w.heap.size + 1) [.int .i64 0, .int .i64 0, .string ⟨#[]⟩, .slice none 0 0, .slice none 0 0] HR.out rfl
        have HK5 := setL_keep (w.heap.size + 1) [.int .i64 0, .int .i64 0, .string ⟨#[]⟩, .slice none 0 0, .slice none 0 0] wr 0
        simp only [setL, Nat.zero_add, Nat.reduceAdd] at h5 HK5
        refine bodyPost_ret (resultsP_cell_tmp rfl _ _ _ rfl (loadJP h5)) rfl ?_
        rw [HOL.out, HLK.out]
        exact ⟨rfl, HN.out _ HK5⟩
    · obtain rfl : m = nk := by omega
      have HLK : Hid (lookV ks l s = none) := lookJ_miss fun y h1 h2 => HX.out y (by rw [← HNK.out]; exact h1)
      go_wp2
      have h5 := setL_all (b := w.heap.size + 1) [.int .i64 0, .int .i64 0, .string ⟨#[]⟩, .slice none 0 0, .slice none 0 0] HR.out rfl
      have HK5 := setL_keep (w.heap.size + 1) [.int .i64 0, .int .i64 0, .string ⟨#[]⟩, .slice none 0 0, .slice none 0 0] wr 0
      simp only [setL, Nat.zero_add, Nat.reduceAdd] at h5 HK5
      refine bodyPost_ret (resultsP_cell_tmp rfl _ _ _ rfl (loadJP h5)) rfl ?_
      rw [HOL.out, HLK.out]
      exact ⟨rfl, HN.out _ HK5⟩
 · have HOL := (show Hid _ from HON.out k5)
   clear HO5 HON
   go_enter Tryz.func29, Tryz.ntmps29
   go_upto_region 1 with fail
   rw [← hW0]
   clear hW0
   go_wp2
   have h5 := setL_all (b := w.heap.size + 1) [.int .i64 0, .int .i64 0, .string ⟨#[]⟩, .slice none 0 0, .slice none 0 0] HR.out rfl
   have HK5 := setL_keep (w.heap.size + 1) [.int .i64 0, .int .i64 0, .string ⟨#[]⟩, .slice none 0 0, .slice none 0 0] W0 0
   simp only [setL, Nat.zero_add, Nat.reduceAdd] at h5 HK5
   refine bodyPost_ret (resultsP_cell_tmp rfl _ _ _ rfl (loadJP h5)) rfl ?_
   rw [HOL.out]
   exact ⟨rfl, HN.out _ HK5⟩
theorem szP_keys {d : Nat} {j : J} (h : szJ (d + 1) j = true) : j.ks.length ≤ 100000 := by
 obtain ⟨k, i, t, ks, l⟩ := j
 unfold szJ at h
 simp only [Bool.and_eq_true, decide_eq_true_eq] at h
 exact h.2.1
theorem row_sz {d : Nat} {j : J} (hok : OkJ (d + 2) j) (fit : ByteArray → Bool) (s : ByteArray) : SzN (rowT fit (lookV j.ks j.ls s)).1 := by
 cases h : lookV j.ks j.ls s with
 | none => exact ⟨by simp [rowT], fun p hp => by simp [rowT] at hp⟩
 | some v =>
  have hv : OkJ (d + 1) v := by
   obtain ⟨_, _, _, _, _⟩ := j
   exact hok.parts.2.2.2.2.2 v (lookJ_mem h)
  obtain ⟨k, i, t, ks, l⟩ := v
  have hp := hv.parts
  simp only [rowT, rowsOf, J.ks, J.ls]
  refine ⟨by rw [List.length_map, List.length_zip]; omega, fun p hm => ?_⟩
  obtain ⟨q, hq, rfl⟩ := List.mem_map.1 hm
  exact hp.2.2.2.2.1 q.1 (List.of_mem_zip hq).1
theorem parse_sz {c : J} (hs : szJ 12 c = true) : SzL (parseT (ordT c)).1 := by
 have hok := ordT_okJ hs
 unfold parseT
 split
 · exact ⟨⟨by simp, fun p hp => by simp at hp⟩, ⟨by simp, fun p hp => by simp at hp⟩⟩
 · exact ⟨row_sz (d := 10) hok isU kByUser, row_sz (d := 10) hok isT kByType⟩
abbrev tCreate : ByteArray := ⟨#[109, 46, 114, 111, 111, 109, 46, 99, 114, 101, 97, 116, 101]⟩
abbrev tMember : ByteArray := ⟨#[109, 46, 114, 111, 111, 109, 46, 109, 101, 109, 98, 101, 114]⟩
abbrev tPower : ByteArray := ⟨#[109, 46, 114, 111, 111, 109, 46, 112, 111, 119, 101, 114, 95, 108, 101, 118, 101, 108, 115]⟩
abbrev tRules : ByteArray := ⟨#[109, 46, 114, 111, 111, 109, 46, 106, 111, 105, 110, 95, 114, 117, 108, 101, 115]⟩
abbrev nCreator : ByteArray := ⟨#[99, 114, 101, 97, 116, 111, 114]⟩
abbrev nMemb : ByteArray := ⟨#[109, 101, 109, 98, 101, 114, 115, 104, 105, 112]⟩
abbrev nRule : ByteArray := ⟨#[106, 111, 105, 110, 95, 114, 117, 108, 101]⟩
abbrev eqT (a b : ByteArray) : Bool := a.toList == b.toList
structure SzE (e : Ev) : Prop where
 room : e.room.size ≤ 1000000000
 typ : e.typ.size ≤ 1000000000
 sender : e.sender.size ≤ 1000000000
 key : e.key.size ≤ 1000000000
 hash : e.hash.size ≤ 1000000000
 cont : szJ 12 e.content = true
 prev : e.prev.length ≤ 100000
 prevs : ∀ x ∈ e.prev, x.size ≤ 1000000000
 auth : e.auth.length ≤ 100000
 auths : ∀ x ∈ e.auth, x.size ≤ 1000000000
 sigs : e.sigs.length ≤ 100000
 sigss : ∀ x ∈ e.sigs, x.1.size ≤ 1000000000 ∧ x.2.size ≤ 1000000000
theorem keep_setRow (w : World) (g : Nat) (cs : Array Value) : Keep (OneP g) w (w.setRow g cs) := by
 refine ⟨rfl, rfl, rfl, by simp [World.setRow], fun k _ hk => ?_⟩
 unfold World.setRow
 simp only [Array.getElem?_modify]
 rw [if_neg (fun e => hk (by unfold OneP; exact e.symm))]
theorem range_of {w : World} {b t : Nat} {fr : Nat × Nat} {cs : List Value} (h : w.heap[b]? = some (.cells cs.toArray t fr)) : w.rangeAt b 0 cs := fun j v hv => by
 rw [Nat.zero_add]
 exact cellP h j v (by simpa using hv)
theorem range_sub {w : World} {b t : Nat} {fr : Nat × Nat} {cs ds : List Value} (h : w.heap[b]? = some (.cells cs.toArray t fr)) (o : Nat) (hd : (cs.drop o).take ds.length = ds) : w.rangeAt b o ds := fun j v hv => by
 refine cellP h (o + j) v ?_
 rw [← hd, List.getElem?_take] at hv
 split at hv
 · rw [List.getElem?_drop] at hv
   simpa using hv
 · cases hv
theorem wpList_store_row {ops : Array Oper} {rest : List Oper} {op : Oper} {a : Act} {w : World} {Q : Exit → Act → World → Prop} (hgd : op.guard = none) (ty : TypeId) (x y : Operand) (ho : op.op = .store ty x y)
    (g t : Nat) (old cells : Array Value) (hx : a.eval x = .pointer (some ⟨g, 0, none⟩)) (hy : a.eval y = .agg cells) (hg : w.heap[g]? = some (.cells old t (0, 0)))
    (hi : (Tryz.prog.info? ty).map (·.size) = some cells.size) (hs : old.size = cells.size) (h1 : cells.all (·.oneCell') = true)
    (h : wpList Tryz.prog ops Q rest (a.put op.dst undef) (w.setRow g cells)) : wpList Tryz.prog ops Q (op :: rest) a w := by
 refine wpList_plain hgd fun K' hK' => ?_
 unfold Oper.wp execOp
 simp only [ho, hx, hy, Instr.storeAt, Instr.sureAddr, Sem.run_bind, Sem.run_pure, Result.andThen_ok, run_storeVar_row w g t ty old cells hg hi hs h1]
 exact hK' _ _ h
theorem one_E (e : Ev) (p : Pt) : (cellsE e p).toArray.all (·.oneCell') = true := all_oneCell_toArray fun v hv => by
 simp only [cellsE, List.mem_cons, List.not_mem_nil, or_false] at hv
 rcases hv with rfl | rfl | rfl | rfl | rfl | rfl | rfl | rfl | rfl | rfl | rfl | rfl | rfl | rfl | rfl | rfl <;> rfl
theorem infoE : (Tryz.prog.info? 29).map (·.size) = some 16 := by kernel_rfl
theorem wpList_load_midg {ops : Array Oper} {rest : List Oper} {o : Oper} {a : Act} {w : World} {Q : Exit → Act → World → Prop} (hg : Region.wanted o (yielded ops a.tmps) = true) (ty : TypeId) (m : Operand) (hop : o.op = Op.load ty m) (b ofs : Nat) (hm : a.eval m = .pointer (some ⟨b, ofs, none⟩)) (cs : List Value)
    (hl : (Instr.loadAt ty (.pointer (some ⟨b, ofs, none⟩))).run Tryz.prog w = .ok (.agg cs.toArray) w)
    (hK : wpList Tryz.prog ops Q rest (a.put o.dst (.agg cs.toArray)) w) : wpList Tryz.prog ops Q (o :: rest) a w := by
 simp only [wpList, hg, if_true]
 refine Or.inl ?_
 unfold Oper.wp
 simp [execOp, hop, hm, hl, Result.andThen]
 exact hK
theorem own_sl {w : World} {B e size n : Nat} {v : Value} {xs : List Value} (h : w.ownsRow B e size v n xs) : ∃ q c, v = .slice q n c := by
 rcases h.2 with ⟨h', h0⟩ | ⟨g', cap', cur, h', _⟩
 · exact ⟨none, 0, by rw [h', h0]⟩
 · exact ⟨_, _, h'⟩
section
variable {O : Nat → Prop} {B g : Nat} {kd : Int} {WB W W2 W5 : World} {ks : List ByteArray} {js : List J} {vk vl vk' vl' : Value}
end
theorem own_some {w : World} {B e size n : Nat} {v : Value} {xs : List Value} (h : w.ownsRow B e size v (n + 1) xs) : ∃ b c, v = .slice (some ⟨b, 0, none⟩) (n + 1) c := by
 rcases h.2 with ⟨h', h0⟩ | ⟨g', cap', cur, h', _⟩
 · omega
 · exact ⟨_, _, h'⟩
theorem two_at {w : World} (o1 o2 : Obj) : ((w.alloc o1).alloc o2).heap[w.heap.size + 1]? = some o2 := by
 have := heap_alloc_new (w.alloc o1) o2
 simpa using this
theorem one_of {w : World} (o1 o2 : Obj) : ((w.alloc o1).alloc o2).heap[w.heap.size]? = some o1 := by
 rw [Below.heap_alloc _ _ _ (by simp)]
 exact heap_alloc_new _ _
end Go.Proofs.YtnngalkdjgjmbaaGreat

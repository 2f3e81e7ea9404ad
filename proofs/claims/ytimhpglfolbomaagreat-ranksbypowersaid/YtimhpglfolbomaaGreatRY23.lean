/-
  The document's levels of a content, by a contract.
  The document's Level: by a contract.
-/
import Derived.Test.YtimhpglfolbomaaGreatRY22
set_option maxRecDepth 100000
set_option maxHeartbeats 16000000
namespace Go.Proofs.YtimhpglfolbomaaGreat
open Go.RowKit
theorem rpar_off {c : J} (h : (decide (c.kd = 5) && goodJ 12 c) = false) : rparseT c = (zeroL, 1) := by
 unfold rparseT
 rw [if_neg (by rw [h]; decide)]
theorem rpar_bad {c : J} (h : (decide (c.kd = 5) && goodJ 12 c) = true) (hb : rparB c = true) : rparseT c = (zeroL, 1) := by
 unfold rparseT
 rw [if_pos h, if_pos hb]
theorem rpar_ok {c : J} (h : (decide (c.kd = 5) && goodJ 12 c) = true) (hb : rparB c = false) : rparseT c = (rparL c, 0) := by
 unfold rparseT
 rw [if_pos h, if_neg (by rw [hb]; decide)]
def ParP (w w' : World) (r : Lv × Int) (e : Ending) : Prop := (∃ p, e = .returned (.tuple #[valL r.1 p, .int .i64 r.2]) ∧ IsL (fun b => w.heap.size ≤ b ∧ b < w'.heap.size) w' r.1 p) ∧ Below w.heap.size w w'
theorem ParP.off {w w' : World} {r : Lv × Int} (h : r = (zeroL, 1)) (hb : Below w.heap.size w w') : ParP w w' r (.returned (.tuple #[.agg #[.int .i64 0, .int .i64 0, .int .i64 0, .int .i64 0, .int .i64 0, .int .i64 0, .int .i64 0, .slice none 0 0, .slice none 0 0], .int .i64 1])) := by
 subst h
 exact ⟨⟨⟨none, 0, none, 0⟩, rfl, RdN.nil _ _ _ _ fun _ => rfl, RdN.nil _ _ _ _ fun _ => rfl⟩, hb⟩
theorem rParse_any {O : Nat → Prop} {w : World} {c : J} {k i : Int} {t : ByteArray} {pk pl : Option Addr} {nk ck nl cl : Nat} (hj : isJ O w c [.int .i64 k, .int .i64 i, .string t, .slice pk nk ck, .slice pl nl cl]) (hO : ∀ b, O b → b < w.heap.size) (hz : szJ 13 c = true) :
    Calls Tryz.prog 41 #[.agg #[.int .i64 k, .int .i64 i, .string t, .slice pk nk ck, .slice pl nl cl]] w fun e w' => ParP w w' (rparseT c) e := by
 obtain ⟨W0, hW0⟩ : ∃ W0, W0 = (w.alloc (.cells #[.int .i64 k, .int .i64 i, .string t, .slice pk nk ck, .slice pl nl cl] 36)).alloc (.cells #[.int .i64 0, .int .i64 0, .int .i64 0, .int .i64 0, .int .i64 0, .int .i64 0, .int .i64 0, .slice none 0 0, .slice none 0 0] 60) := ⟨_, rfl⟩
 have hb0 : Below w.heap.size w W0 := by rw [hW0]; exact ((Below.refl _ _).alloc (Nat.le_refl _) _).alloc (by simp) _
 have hs0 : W0.heap.size = w.heap.size + 2 := by rw [hW0]; simp
 have hX0 : W0.heap[w.heap.size]? = some (.cells #[.int .i64 k, .int .i64 i, .string t, .slice pk nk ck, .slice pl nl cl] 36 (0, 0)) := by rw [hW0, Below.heap_alloc _ _ _ (by simp)]; exact newP _
 have hR0 : W0.heap[w.heap.size + 1]? = some (.cells #[.int .i64 0, .int .i64 0, .int .i64 0, .int .i64 0, .int .i64 0, .int .i64 0, .int .i64 0, .slice none 0 0, .slice none 0 0] 60 (0, 0)) := by
  rw [hW0]
  have := newP (w := w.alloc (.cells #[.int .i64 k, .int .i64 i, .string t, .slice pk nk ck, .slice pl nl cl] 36)) (.cells #[.int .i64 0, .int .i64 0, .int .i64 0, .int .i64 0, .int .i64 0, .int .i64 0, .int .i64 0, .slice none 0 0, .slice none 0 0] 60)
  rw [World.size_alloc] at this
  exact this
 have HX : Hid (∀ X, Below W0.heap.size W0 X → X.heap[w.heap.size]? = some (.cells #[.int .i64 k, .int .i64 i, .string t, .slice pk nk ck, .slice pl nl cl] 36 (0, 0)) ∧ X.heap[w.heap.size + 1]? = some (.cells #[.int .i64 0, .int .i64 0, .int .i64 0, .int .i64 0, .int .i64 0, .int .i64 0, .int .i64 0, .slice none 0 0, .slice none 0 0] 60 (0, 0))) := fun X hX => ⟨(hX.block _ (objP_lt hX0)).trans hX0, (hX.block _ (objP_lt hR0)).trans hR0⟩
 have HJ : Hid (∀ X, (∀ b, b < w.heap.size → X.heap[b]? = w.heap[b]?) → isJ O X c [.int .i64 k, .int .i64 i, .string t, .slice pk nk ck, .slice pl nl cl]) := fun X hX => hj.carry fun b hb => ⟨hb, hX b (hO b hb)⟩
 have hz12 : szJ 12 c = true := sz_less 12 13 c (by decide) hz
 have hG := rGood_any (w := W0) (fun b hb => Nat.lt_of_lt_of_le (hO b hb) hb0.size) hz12 (HJ.out W0 fun b hb => hb0.block b hb)
 have HKD : Hid (c.kd = k) := by
  obtain ⟨_, _, _, _, _⟩ := c
  obtain ⟨rfl, _⟩ := isJP_parts hj
  rfl
 have HW0 := (show Hid _ from hs0)
 clear hj hX0 hR0 hs0
 obtain ⟨q0, hZ0⟩ := HX.out W0 (Below.refl _ _)
 by_cases k5 : k = 5
 case neg =>
  have HT : Hid (rparseT c = (zeroL, 1)) := rpar_off (by rw [HKD.out]; simp [k5])
  have r0 := cellP hZ0 0 _ rfl; have r1 := cellP hZ0 1 _ rfl; have r2 := cellP hZ0 2 _ rfl; have r3 := cellP hZ0 3 _ rfl; have r4 := cellP hZ0 4 _ rfl; have r5 := cellP hZ0 5 _ rfl; have r6 := cellP hZ0 6 _ rfl; have r7 := cellP hZ0 7 _ rfl; have r8 := cellP hZ0 8 _ rfl
  have z0 := fzP hZ0 0; have z1 := fzP hZ0 1; have z2 := fzP hZ0 2; have z3 := fzP hZ0 3; have z4 := fzP hZ0 4; have z5 := fzP hZ0 5; have z6 := fzP hZ0 6; have z7 := fzP hZ0 7; have z8 := fzP hZ0 8
  have c0 := cellP q0 0 _ rfl
  have HZ := (show Hid _ from hZ0)
  clear q0 hZ0
  go_enter Tryz.func41, Tryz.ntmps41
  go_upto_region 1 with fail
  rw [← hW0]
  clear hW0
  go_wp2
  have hZ0 := HZ.out
  have h9 := setL_all (b := w.heap.size + 1) [.int .i64 0, .int .i64 0, .int .i64 0, .int .i64 0, .int .i64 0, .int .i64 0, .int .i64 0, .slice none 0 0, .slice none 0 0] hZ0 rfl
  have HK := setL_keep (w.heap.size + 1) [.int .i64 0, .int .i64 0, .int .i64 0, .int .i64 0, .int .i64 0, .int .i64 0, .int .i64 0, .slice none 0 0, .slice none 0 0] W0 0
  simp only [setL, Nat.zero_add, Nat.reduceAdd] at h9 HK
  refine bodyPost_ret (resultsP_cell_tmp rfl _ _ _ rfl (loadL9 h9)) rfl ?_
  exact ParP.off HT.out (hb0.trans (HK.below hb0.size fun q hq e => by unfold OneP at e; omega))
 subst k5
 have c0 := cellP q0 0 _ rfl; have c1 := cellP q0 1 _ rfl; have c2 := cellP q0 2 _ rfl; have c3 := cellP q0 3 _ rfl; have c4 := cellP q0 4 _ rfl
 cases hg : goodJ 12 c with
 | false =>
  have HT : Hid (rparseT c = (zeroL, 1)) := rpar_off (by rw [hg, Bool.and_false])
  rw [hg] at hG
  clear q0 hZ0
  go_enter Tryz.func41, Tryz.ntmps41
  go_upto_region 1 with fail
  rw [← hW0]
  clear hW0
  go_wp2_with (go_at_call 66; refine hG.mono ?_; rintro e w1 ⟨rfl, hb1⟩
               obtain ⟨q1, hZ1⟩ := HX.out w1 hb1
               have r0 := cellP hZ1 0 _ rfl; have r1 := cellP hZ1 1 _ rfl; have r2 := cellP hZ1 2 _ rfl; have r3 := cellP hZ1 3 _ rfl; have r4 := cellP hZ1 4 _ rfl; have r5 := cellP hZ1 5 _ rfl; have r6 := cellP hZ1 6 _ rfl; have r7 := cellP hZ1 7 _ rfl; have r8 := cellP hZ1 8 _ rfl
               have z0 := fzP hZ1 0; have z1 := fzP hZ1 1; have z2 := fzP hZ1 2; have z3 := fzP hZ1 3; have z4 := fzP hZ1 4; have z5 := fzP hZ1 5; have z6 := fzP hZ1 6; have z7 := fzP hZ1 7; have z8 := fzP hZ1 8
               have HZ := (show Hid _ from hZ1)
               clear q1 hZ1)
  have hZ1 := HZ.out
  have h9 := setL_all (b := w.heap.size + 1) [.int .i64 0, .int .i64 0, .int .i64 0, .int .i64 0, .int .i64 0, .int .i64 0, .int .i64 0, .slice none 0 0, .slice none 0 0] hZ1 rfl
  have HK := setL_keep (w.heap.size + 1) [.int .i64 0, .int .i64 0, .int .i64 0, .int .i64 0, .int .i64 0, .int .i64 0, .int .i64 0, .slice none 0 0, .slice none 0 0] w1 0
  simp only [setL, Nat.zero_add, Nat.reduceAdd] at h9 HK
  refine bodyPost_ret (resultsP_cell_tmp rfl _ _ _ rfl (loadL9 h9)) rfl ?_
  have hbE := belowP hb0 hb1
  exact ParP.off HT.out (hbE.trans (HK.below hbE.size fun q hq e => by unfold OneP at e; omega))
 | true =>
  rw [hg] at hG
  have HGD : Hid ((decide (c.kd = 5) && goodJ 12 c) = true) := by show _ = _; rw [HKD.out, hg]; rfl
  clear q0 hZ0
  go_enter Tryz.func41, Tryz.ntmps41
  go_upto_region 1 with fail
  rw [← hW0]
  clear hW0
  go_upto_region 3 with (go_at_call 66; refine hG.mono ?_; rintro e w1 ⟨rfl, hb1⟩)
  clear c0 c1 c2 c3 c4 hG
  go_upto_region 5 with fail
  obtain ⟨W1, hW1⟩ : ∃ W1, W1 = w1.alloc (.cells #[.int .i64 0, .int .i64 0, .int .i64 0, .int .i64 0, .int .i64 0, .int .i64 0, .int .i64 0, .slice none 0 0, .slice none 0 0] 60) := ⟨_, rfl⟩
  have hbW : Below w1.heap.size w1 W1 := by rw [hW1]; exact (Below.refl _ _).alloc (Nat.le_refl _) _
  have hB0 : W1.heap[w1.heap.size]? = some (.cells #[.int .i64 0, .int .i64 0, .int .i64 0, .int .i64 0, .int .i64 0, .int .i64 0, .int .i64 0, .slice none 0 0, .slice none 0 0] 60 (0, 0)) := by rw [hW1]; exact newP _
  have hb1' : Below w.heap.size w W1 := belowP hb0 (belowP hb1 hbW)
  have hs1 : w.heap.size + 2 ≤ w1.heap.size := by have := hb1.size; have := HW0.out; omega
  have HX1 : Hid (∀ X, Keep (OneP w1.heap.size) W1 X → X.heap[w.heap.size]? = some (.cells #[.int .i64 5, .int .i64 i, .string t, .slice pk nk ck, .slice pl nl cl] 36 (0, 0)) ∧ X.heap[w.heap.size + 1]? = some (.cells #[.int .i64 0, .int .i64 0, .int .i64 0, .int .i64 0, .int .i64 0, .int .i64 0, .int .i64 0, .slice none 0 0, .slice none 0 0] 60 (0, 0))) := fun X hX => by
   have s1 := hbW.size
   obtain ⟨a, b⟩ := HX.out W1 (belowP hb1 hbW)
   exact ⟨(hX.block _ (by omega) (by unfold OneP; omega)).trans a, (hX.block _ (by omega) (by unfold OneP; omega)).trans b⟩
  have HJX : Hid (∀ X, Keep (OneP w1.heap.size) W1 X → isJ O X c [.int .i64 5, .int .i64 i, .string t, .slice pk nk ck, .slice pl nl cl] ∧ ∀ b, O b → b < X.heap.size) := fun X hX => ⟨HJ.out X fun b hb => (hX.block b (by have := hbW.size; omega) (by unfold OneP; omega)).trans (hb1'.block b hb), fun b hb => by have := hO b hb; have := hbW.size; have := hX.size; omega⟩
  have HBX : Hid (∀ X, Keep (OneP w1.heap.size) W1 X → Below w.heap.size w X) := fun X hX => hb1'.trans (hX.below hb1'.size fun q hq e => by unfold OneP at e; omega)
  rw [← hW1]
  clear hW1 HX HJ hbW hb1' hb1
  have HT0 : Hid (∀ X, Keep (OneP w1.heap.size) W1 X → Calls Tryz.prog 67 #[.agg #[.int .i64 5, .int .i64 i, .string t, .slice pk nk ck, .slice pl nl cl], .string kBan, .int .i64 50] X fun e w' => e = .returned (.tuple #[.int .i64 (numT 50 (getT c kBan)).1, .bool (!(numT 50 (getT c kBan)).2)]) ∧ Below X.heap.size X w') := fun X hX => rTold_any (HJX.out X hX).1 (HJX.out X hX).2 (szP_keys hz) kBan 50
  have HT1 : Hid (∀ X, Keep (OneP w1.heap.size) W1 X → Calls Tryz.prog 67 #[.agg #[.int .i64 5, .int .i64 i, .string t, .slice pk nk ck, .slice pl nl cl], .string kKick, .int .i64 50] X fun e w' => e = .returned (.tuple #[.int .i64 (numT 50 (getT c kKick)).1, .bool (!(numT 50 (getT c kKick)).2)]) ∧ Below X.heap.size X w') := fun X hX => rTold_any (HJX.out X hX).1 (HJX.out X hX).2 (szP_keys hz) kKick 50
  have HT2 : Hid (∀ X, Keep (OneP w1.heap.size) W1 X → Calls Tryz.prog 67 #[.agg #[.int .i64 5, .int .i64 i, .string t, .slice pk nk ck, .slice pl nl cl], .string kInvite, .int .i64 0] X fun e w' => e = .returned (.tuple #[.int .i64 (numT 0 (getT c kInvite)).1, .bool (!(numT 0 (getT c kInvite)).2)]) ∧ Below X.heap.size X w') := fun X hX => rTold_any (HJX.out X hX).1 (HJX.out X hX).2 (szP_keys hz) kInvite 0
  have HT3 : Hid (∀ X, Keep (OneP w1.heap.size) W1 X → Calls Tryz.prog 67 #[.agg #[.int .i64 5, .int .i64 i, .string t, .slice pk nk ck, .slice pl nl cl], .string kRedact, .int .i64 50] X fun e w' => e = .returned (.tuple #[.int .i64 (numT 50 (getT c kRedact)).1, .bool (!(numT 50 (getT c kRedact)).2)]) ∧ Below X.heap.size X w') := fun X hX => rTold_any (HJX.out X hX).1 (HJX.out X hX).2 (szP_keys hz) kRedact 50
  have HT4 : Hid (∀ X, Keep (OneP w1.heap.size) W1 X → Calls Tryz.prog 67 #[.agg #[.int .i64 5, .int .i64 i, .string t, .slice pk nk ck, .slice pl nl cl], .string kState, .int .i64 50] X fun e w' => e = .returned (.tuple #[.int .i64 (numT 50 (getT c kState)).1, .bool (!(numT 50 (getT c kState)).2)]) ∧ Below X.heap.size X w') := fun X hX => rTold_any (HJX.out X hX).1 (HJX.out X hX).2 (szP_keys hz) kState 50
  have HT5 : Hid (∀ X, Keep (OneP w1.heap.size) W1 X → Calls Tryz.prog 67 #[.agg #[.int .i64 5, .int .i64 i, .string t, .slice pk nk ck, .slice pl nl cl], .string kEvents, .int .i64 0] X fun e w' => e = .returned (.tuple #[.int .i64 (numT 0 (getT c kEvents)).1, .bool (!(numT 0 (getT c kEvents)).2)]) ∧ Below X.heap.size X w') := fun X hX => rTold_any (HJX.out X hX).1 (HJX.out X hX).2 (szP_keys hz) kEvents 0
  have HT6 : Hid (∀ X, Keep (OneP w1.heap.size) W1 X → Calls Tryz.prog 67 #[.agg #[.int .i64 5, .int .i64 i, .string t, .slice pk nk ck, .slice pl nl cl], .string kUsers, .int .i64 0] X fun e w' => e = .returned (.tuple #[.int .i64 (numT 0 (getT c kUsers)).1, .bool (!(numT 0 (getT c kUsers)).2)]) ∧ Below X.heap.size X w') := fun X hX => rTold_any (HJX.out X hX).1 (HJX.out X hX).2 (szP_keys hz) kUsers 0
  have HT7 : Hid (∀ X, Keep (OneP w1.heap.size) W1 X → Calls Tryz.prog 68 #[.agg #[.int .i64 5, .int .i64 i, .string t, .slice pk nk ck, .slice pl nl cl], .string kByUser, .bool true] X fun e w' => NamP isU X w' (getT c kByUser) e) := fun X hX => rNamed_users (HJX.out X hX).1 (HJX.out X hX).2 hz kByUser
  have HT8 : Hid (∀ X, Keep (OneP w1.heap.size) W1 X → Calls Tryz.prog 68 #[.agg #[.int .i64 5, .int .i64 i, .string t, .slice pk nk ck, .slice pl nl cl], .string kByType, .bool false] X fun e w' => NamP isT X w' (getT c kByType) e) := fun X hX => rNamed_types (HJX.out X hX).1 (HJX.out X hX).2 hz kByType
  have HPB := (show Hid _ from fun h => rpar_bad (c := c) HGD.out h)
  have HPO := (show Hid _ from fun h => rpar_ok (c := c) HGD.out h)
  unfold rparB at HPB HPO
  unfold rparL at HPO
  unfold NamP at HT7 HT8
  clear HGD HJX hO hz hz12 HKD
  generalize numT 50 (getT c kBan) = q0 at HT0 HPB HPO
  generalize numT 50 (getT c kKick) = q1 at HT1 HPB HPO
  generalize numT 0 (getT c kInvite) = q2 at HT2 HPB HPO
  generalize numT 50 (getT c kRedact) = q3 at HT3 HPB HPO
  generalize numT 50 (getT c kState) = q4 at HT4 HPB HPO
  generalize numT 0 (getT c kEvents) = q5 at HT5 HPB HPO
  generalize numT 0 (getT c kUsers) = q6 at HT6 HPB HPO
  generalize namT isU (getT c kByUser) = q7 at HT7 HPB HPO
  generalize namT isT (getT c kByType) = q8 at HT8 HPB HPO
  obtain ⟨v0, b0⟩ := q0
  obtain ⟨v1, b1⟩ := q1
  obtain ⟨v2, b2⟩ := q2
  obtain ⟨v3, b3⟩ := q3
  obtain ⟨v4, b4⟩ := q4
  obtain ⟨v5, b5⟩ := q5
  obtain ⟨v6, b6⟩ := q6
  obtain ⟨v7, b7⟩ := q7
  obtain ⟨v8, b8⟩ := q8
  simp only at HT0 HT1 HT2 HT3 HT4 HT5 HT6 HT7 HT8 HPB HPO
  have hK0 : Keep (OneP w1.heap.size) W1 W1 := Keep.refl _ _
  have hlB : w1.heap.size < W1.heap.size := objP_lt hB0
  have HBB0 := (show Hid _ from hB0)
  clear hB0
  obtain ⟨qx, _⟩ := HX1.out W1 hK0
  have c0 := cellP qx 0 _ rfl; have c1 := cellP qx 1 _ rfl; have c2 := cellP qx 2 _ rfl; have c3 := cellP qx 3 _ rfl; have c4 := cellP qx 4 _ rfl
  have hT := HT0.out W1 hK0
  clear qx
  go_upto_region 6 with (go_at_call 67; refine hT.mono ?_; rintro e y0 ⟨rfl, hb0⟩
                         have hBy : y0.heap[w1.heap.size]? = some (.cells #[.int .i64 0, .int .i64 0, .int .i64 0, .int .i64 0, .int .i64 0, .int .i64 0, .int .i64 0, .slice none 0 0, .slice none 0 0] 60 (0, 0)) := (hb0.block _ (Nat.lt_of_lt_of_le hlB hK0.size)).trans HBB0.out
                         have g0 := cellP hBy 0 _ rfl
                         have gz := fzP hBy 0
                         have HBy := (show Hid _ from hBy)
                         clear hBy)
  obtain ⟨X1, hX⟩ : ∃ X, X = y0.setCell ⟨w1.heap.size, 0, none⟩ (.int .i64 v0) := ⟨_, rfl⟩
  have hKy : Keep (OneP w1.heap.size) W1 y0 := hK0.then (Keep.of_below hb0)
  have hK1 : Keep (OneP w1.heap.size) W1 X1 := by rw [hX]; exact Keep.setCell (S := OneP w1.heap.size) (p := ⟨w1.heap.size, 0, none⟩) hKy (fun _ => (rfl : w1.heap.size = w1.heap.size)) _
  have HBB1 : Hid (X1.heap[w1.heap.size]? = some (.cells #[.int .i64 v0, .int .i64 0, .int .i64 0, .int .i64 0, .int .i64 0, .int .i64 0, .int .i64 0, .slice none 0 0, .slice none 0 0] 60 (0, 0))) := by
   show _ = _
   rw [hX, heap_setCell_same _ w1.heap.size 0 _ _ _ HBy.out]
   rfl
  rw [← hX]
  clear hX hT g0 gz HBy c0 c1 c2 c3 c4 hKy
  obtain ⟨qx, _⟩ := HX1.out X1 hK1
  have c0 := cellP qx 0 _ rfl; have c1 := cellP qx 1 _ rfl; have c2 := cellP qx 2 _ rfl; have c3 := cellP qx 3 _ rfl; have c4 := cellP qx 4 _ rfl
  have hT := HT1.out X1 hK1
  clear qx
  go_upto_region 7 with (go_at_call 67; refine hT.mono ?_; rintro e y1 ⟨rfl, hb1⟩
                         have hBy : y1.heap[w1.heap.size]? = some (.cells #[.int .i64 v0, .int .i64 0, .int .i64 0, .int .i64 0, .int .i64 0, .int .i64 0, .int .i64 0, .slice none 0 0, .slice none 0 0] 60 (0, 0)) := (hb1.block _ (Nat.lt_of_lt_of_le hlB hK1.size)).trans HBB1.out
                         have g0 := cellP hBy 1 _ rfl
                         have gz := fzP hBy 1
                         have HBy := (show Hid _ from hBy)
                         clear hBy)
  obtain ⟨X2, hX⟩ : ∃ X, X = y1.setCell ⟨w1.heap.size, 1, none⟩ (.int .i64 v1) := ⟨_, rfl⟩
  have hKy : Keep (OneP w1.heap.size) W1 y1 := hK1.then (Keep.of_below hb1)
  have hK2 : Keep (OneP w1.heap.size) W1 X2 := by rw [hX]; exact Keep.setCell (S := OneP w1.heap.size) (p := ⟨w1.heap.size, 1, none⟩) hKy (fun _ => (rfl : w1.heap.size = w1.heap.size)) _
  have HBB2 : Hid (X2.heap[w1.heap.size]? = some (.cells #[.int .i64 v0, .int .i64 v1, .int .i64 0, .int .i64 0, .int .i64 0, .int .i64 0, .int .i64 0, .slice none 0 0, .slice none 0 0] 60 (0, 0))) := by
   show _ = _
   rw [hX, heap_setCell_same _ w1.heap.size 1 _ _ _ HBy.out]
   rfl
  rw [← hX]
  clear hX hT g0 gz HBy c0 c1 c2 c3 c4 hKy
  obtain ⟨qx, _⟩ := HX1.out X2 hK2
  have c0 := cellP qx 0 _ rfl; have c1 := cellP qx 1 _ rfl; have c2 := cellP qx 2 _ rfl; have c3 := cellP qx 3 _ rfl; have c4 := cellP qx 4 _ rfl
  have hT := HT2.out X2 hK2
  clear qx
  go_upto_region 8 with (go_at_call 67; refine hT.mono ?_; rintro e y2 ⟨rfl, hb2⟩
                         have hBy : y2.heap[w1.heap.size]? = some (.cells #[.int .i64 v0, .int .i64 v1, .int .i64 0, .int .i64 0, .int .i64 0, .int .i64 0, .int .i64 0, .slice none 0 0, .slice none 0 0] 60 (0, 0)) := (hb2.block _ (Nat.lt_of_lt_of_le hlB hK2.size)).trans HBB2.out
                         have g0 := cellP hBy 2 _ rfl
                         have gz := fzP hBy 2
                         have HBy := (show Hid _ from hBy)
                         clear hBy)
  obtain ⟨X3, hX⟩ : ∃ X, X = y2.setCell ⟨w1.heap.size, 2, none⟩ (.int .i64 v2) := ⟨_, rfl⟩
  have hKy : Keep (OneP w1.heap.size) W1 y2 := hK2.then (Keep.of_below hb2)
  have hK3 : Keep (OneP w1.heap.size) W1 X3 := by rw [hX]; exact Keep.setCell (S := OneP w1.heap.size) (p := ⟨w1.heap.size, 2, none⟩) hKy (fun _ => (rfl : w1.heap.size = w1.heap.size)) _
  have HBB3 : Hid (X3.heap[w1.heap.size]? = some (.cells #[.int .i64 v0, .int .i64 v1, .int .i64 v2, .int .i64 0, .int .i64 0, .int .i64 0, .int .i64 0, .slice none 0 0, .slice none 0 0] 60 (0, 0))) := by
   show _ = _
   rw [hX, heap_setCell_same _ w1.heap.size 2 _ _ _ HBy.out]
   rfl
  rw [← hX]
  clear hX hT g0 gz HBy c0 c1 c2 c3 c4 hKy
  obtain ⟨qx, _⟩ := HX1.out X3 hK3
  have c0 := cellP qx 0 _ rfl; have c1 := cellP qx 1 _ rfl; have c2 := cellP qx 2 _ rfl; have c3 := cellP qx 3 _ rfl; have c4 := cellP qx 4 _ rfl
  have hT := HT3.out X3 hK3
  clear qx
  go_upto_region 9 with (go_at_call 67; refine hT.mono ?_; rintro e y3 ⟨rfl, hb3⟩
                         have hBy : y3.heap[w1.heap.size]? = some (.cells #[.int .i64 v0, .int .i64 v1, .int .i64 v2, .int .i64 0, .int .i64 0, .int .i64 0, .int .i64 0, .slice none 0 0, .slice none 0 0] 60 (0, 0)) := (hb3.block _ (Nat.lt_of_lt_of_le hlB hK3.size)).trans HBB3.out
                         have g0 := cellP hBy 3 _ rfl
                         have gz := fzP hBy 3
                         have HBy := (show Hid _ from hBy)
                         clear hBy)
  obtain ⟨X4, hX⟩ : ∃ X, X = y3.setCell ⟨w1.heap.size, 3, none⟩ (.int .i64 v3) := ⟨_, rfl⟩
  have hKy : Keep (OneP w1.heap.size) W1 y3 := hK3.then (Keep.of_below hb3)
  have hK4 : Keep (OneP w1.heap.size) W1 X4 := by rw [hX]; exact Keep.setCell (S := OneP w1.heap.size) (p := ⟨w1.heap.size, 3, none⟩) hKy (fun _ => (rfl : w1.heap.size = w1.heap.size)) _
  have HBB4 : Hid (X4.heap[w1.heap.size]? = some (.cells #[.int .i64 v0, .int .i64 v1, .int .i64 v2, .int .i64 v3, .int .i64 0, .int .i64 0, .int .i64 0, .slice none 0 0, .slice none 0 0] 60 (0, 0))) := by
   show _ = _
   rw [hX, heap_setCell_same _ w1.heap.size 3 _ _ _ HBy.out]
   rfl
  rw [← hX]
  clear hX hT g0 gz HBy c0 c1 c2 c3 c4 hKy
  obtain ⟨qx, _⟩ := HX1.out X4 hK4
  have c0 := cellP qx 0 _ rfl; have c1 := cellP qx 1 _ rfl; have c2 := cellP qx 2 _ rfl; have c3 := cellP qx 3 _ rfl; have c4 := cellP qx 4 _ rfl
  have hT := HT4.out X4 hK4
  clear qx
  go_upto_region 10 with (go_at_call 67; refine hT.mono ?_; rintro e y4 ⟨rfl, hb4⟩
                          have hBy : y4.heap[w1.heap.size]? = some (.cells #[.int .i64 v0, .int .i64 v1, .int .i64 v2, .int .i64 v3, .int .i64 0, .int .i64 0, .int .i64 0, .slice none 0 0, .slice none 0 0] 60 (0, 0)) := (hb4.block _ (Nat.lt_of_lt_of_le hlB hK4.size)).trans HBB4.out
                          have g0 := cellP hBy 4 _ rfl
                          have gz := fzP hBy 4
                          have HBy := (show Hid _ from hBy)
                          clear hBy)
  obtain ⟨X5, hX⟩ : ∃ X, X = y4.setCell ⟨w1.heap.size, 4, none⟩ (.int .i64 v4) := ⟨_, rfl⟩
  have hKy : Keep (OneP w1.heap.size) W1 y4 := hK4.then (Keep.of_below hb4)
  have hK5 : Keep (OneP w1.heap.size) W1 X5 := by rw [hX]; exact Keep.setCell (S := OneP w1.heap.size) (p := ⟨w1.heap.size, 4, none⟩) hKy (fun _ => (rfl : w1.heap.size = w1.heap.size)) _
  have HBB5 : Hid (X5.heap[w1.heap.size]? = some (.cells #[.int .i64 v0, .int .i64 v1, .int .i64 v2, .int .i64 v3, .int .i64 v4, .int .i64 0, .int .i64 0, .slice none 0 0, .slice none 0 0] 60 (0, 0))) := by
   show _ = _
   rw [hX, heap_setCell_same _ w1.heap.size 4 _ _ _ HBy.out]
   rfl
  rw [← hX]
  clear hX hT g0 gz HBy c0 c1 c2 c3 c4 hKy
  obtain ⟨qx, _⟩ := HX1.out X5 hK5
  have c0 := cellP qx 0 _ rfl; have c1 := cellP qx 1 _ rfl; have c2 := cellP qx 2 _ rfl; have c3 := cellP qx 3 _ rfl; have c4 := cellP qx 4 _ rfl
  have hT := HT5.out X5 hK5
  clear qx
  go_upto_region 11 with (go_at_call 67; refine hT.mono ?_; rintro e y5 ⟨rfl, hb5⟩
                          have hBy : y5.heap[w1.heap.size]? = some (.cells #[.int .i64 v0, .int .i64 v1, .int .i64 v2, .int .i64 v3, .int .i64 v4, .int .i64 0, .int .i64 0, .slice none 0 0, .slice none 0 0] 60 (0, 0)) := (hb5.block _ (Nat.lt_of_lt_of_le hlB hK5.size)).trans HBB5.out
                          have g0 := cellP hBy 5 _ rfl
                          have gz := fzP hBy 5
                          have HBy := (show Hid _ from hBy)
                          clear hBy)
  obtain ⟨X6, hX⟩ : ∃ X, X = y5.setCell ⟨w1.heap.size, 5, none⟩ (.int .i64 v5) := ⟨_, rfl⟩
  have hKy : Keep (OneP w1.heap.size) W1 y5 := hK5.then (Keep.of_below hb5)
  have hK6 : Keep (OneP w1.heap.size) W1 X6 := by rw [hX]; exact Keep.setCell (S := OneP w1.heap.size) (p := ⟨w1.heap.size, 5, none⟩) hKy (fun _ => (rfl : w1.heap.size = w1.heap.size)) _
  have HBB6 : Hid (X6.heap[w1.heap.size]? = some (.cells #[.int .i64 v0, .int .i64 v1, .int .i64 v2, .int .i64 v3, .int .i64 v4, .int .i64 v5, .int .i64 0, .slice none 0 0, .slice none 0 0] 60 (0, 0))) := by
   show _ = _
   rw [hX, heap_setCell_same _ w1.heap.size 5 _ _ _ HBy.out]
   rfl
  rw [← hX]
  clear hX hT g0 gz HBy c0 c1 c2 c3 c4 hKy
  obtain ⟨qx, _⟩ := HX1.out X6 hK6
  have c0 := cellP qx 0 _ rfl; have c1 := cellP qx 1 _ rfl; have c2 := cellP qx 2 _ rfl; have c3 := cellP qx 3 _ rfl; have c4 := cellP qx 4 _ rfl
  have hT := HT6.out X6 hK6
  clear qx
  go_upto_region 12 with (go_at_call 67; refine hT.mono ?_; rintro e y6 ⟨rfl, hb6⟩
                          have hBy : y6.heap[w1.heap.size]? = some (.cells #[.int .i64 v0, .int .i64 v1, .int .i64 v2, .int .i64 v3, .int .i64 v4, .int .i64 v5, .int .i64 0, .slice none 0 0, .slice none 0 0] 60 (0, 0)) := (hb6.block _ (Nat.lt_of_lt_of_le hlB hK6.size)).trans HBB6.out
                          have g0 := cellP hBy 6 _ rfl
                          have gz := fzP hBy 6
                          have HBy := (show Hid _ from hBy)
                          clear hBy)
  obtain ⟨X7, hX⟩ : ∃ X, X = y6.setCell ⟨w1.heap.size, 6, none⟩ (.int .i64 v6) := ⟨_, rfl⟩
  have hKy : Keep (OneP w1.heap.size) W1 y6 := hK6.then (Keep.of_below hb6)
  have hK7 : Keep (OneP w1.heap.size) W1 X7 := by rw [hX]; exact Keep.setCell (S := OneP w1.heap.size) (p := ⟨w1.heap.size, 6, none⟩) hKy (fun _ => (rfl : w1.heap.size = w1.heap.size)) _
  have HBB7 : Hid (X7.heap[w1.heap.size]? = some (.cells #[.int .i64 v0, .int .i64 v1, .int .i64 v2, .int .i64 v3, .int .i64 v4, .int .i64 v5, .int .i64 v6, .slice none 0 0, .slice none 0 0] 60 (0, 0))) := by
   show _ = _
   rw [hX, heap_setCell_same _ w1.heap.size 6 _ _ _ HBy.out]
   rfl
  rw [← hX]
  clear hX hT g0 gz HBy c0 c1 c2 c3 c4 hKy
  obtain ⟨qx, _⟩ := HX1.out X7 hK7
  have c0 := cellP qx 0 _ rfl; have c1 := cellP qx 1 _ rfl; have c2 := cellP qx 2 _ rfl; have c3 := cellP qx 3 _ rfl; have c4 := cellP qx 4 _ rfl
  have hT := HT7.out X7 hK7
  clear qx
  go_upto_region 13 with (go_at_call 68; refine hT.mono ?_; rintro e y7 ⟨⟨p7, d7, rfl, hr7⟩, hb7⟩
                          have hBy : y7.heap[w1.heap.size]? = some (.cells #[.int .i64 v0, .int .i64 v1, .int .i64 v2, .int .i64 v3, .int .i64 v4, .int .i64 v5, .int .i64 v6, .slice none 0 0, .slice none 0 0] 60 (0, 0)) := (hb7.block _ (Nat.lt_of_lt_of_le hlB hK7.size)).trans HBB7.out
                          have g0 := cellP hBy 7 _ rfl
                          have gz := fzP hBy 7
                          have HBy := (show Hid _ from hBy)
                          clear hBy)
  obtain ⟨X8, hX⟩ : ∃ X, X = y7.setCell ⟨w1.heap.size, 7, none⟩ (.slice p7 v7.length d7) := ⟨_, rfl⟩
  have hKy : Keep (OneP w1.heap.size) W1 y7 := hK7.then (Keep.of_below hb7)
  have hK8 : Keep (OneP w1.heap.size) W1 X8 := by rw [hX]; exact Keep.setCell (S := OneP w1.heap.size) (p := ⟨w1.heap.size, 7, none⟩) hKy (fun _ => (rfl : w1.heap.size = w1.heap.size)) _
  have HBB8 : Hid (X8.heap[w1.heap.size]? = some (.cells #[.int .i64 v0, .int .i64 v1, .int .i64 v2, .int .i64 v3, .int .i64 v4, .int .i64 v5, .int .i64 v6, .slice p7 v7.length d7, .slice none 0 0] 60 (0, 0))) := by
   show _ = _
   rw [hX, heap_setCell_same _ w1.heap.size 7 _ _ _ HBy.out]
   rfl
  have HR7 : Hid (∀ X, Keep (OneP w1.heap.size) X8 X → RdN (fun b => w1.heap.size ≤ b ∧ b < X.heap.size) X p7 d7 v7) := fun X hX' => hr7.carry fun b hb => by
   have s1 := hK7.size; have s2 := hX'.size; have e0 : X8.heap.size = y7.heap.size := by rw [hX]; simp
   have hne : b ≠ w1.heap.size := by have := hb.1; omega
   refine ⟨⟨by have := hb.1; omega, by have := hb.2; omega⟩, (hX'.block b (by have := hb.2; omega) (by unfold OneP; exact hne)).trans ?_⟩
   rw [hX]
   exact (Keep.setCell (S := OneP w1.heap.size) (p := ⟨w1.heap.size, 7, none⟩) (Keep.refl _ y7) (fun _ => (rfl : w1.heap.size = w1.heap.size)) _).block b hb.2 (by unfold OneP; exact hne)
  rw [← hX]
  clear hX hT g0 gz HBy c0 c1 c2 c3 c4 hKy hr7
  obtain ⟨qx, _⟩ := HX1.out X8 hK8
  have c0 := cellP qx 0 _ rfl; have c1 := cellP qx 1 _ rfl; have c2 := cellP qx 2 _ rfl; have c3 := cellP qx 3 _ rfl; have c4 := cellP qx 4 _ rfl
  have hT := HT8.out X8 hK8
  clear qx
  go_upto_region 14 with (go_at_call 68; refine hT.mono ?_; rintro e y8 ⟨⟨p8, d8, rfl, hr8⟩, hb8⟩
                          have hBy : y8.heap[w1.heap.size]? = some (.cells #[.int .i64 v0, .int .i64 v1, .int .i64 v2, .int .i64 v3, .int .i64 v4, .int .i64 v5, .int .i64 v6, .slice p7 v7.length d7, .slice none 0 0] 60 (0, 0)) := (hb8.block _ (Nat.lt_of_lt_of_le hlB hK8.size)).trans HBB8.out
                          have g0 := cellP hBy 8 _ rfl
                          have gz := fzP hBy 8
                          have HBy := (show Hid _ from hBy)
                          clear hBy)
  obtain ⟨X9, hX⟩ : ∃ X, X = y8.setCell ⟨w1.heap.size, 8, none⟩ (.slice p8 v8.length d8) := ⟨_, rfl⟩
  have hKy : Keep (OneP w1.heap.size) W1 y8 := hK8.then (Keep.of_below hb8)
  have hK9 : Keep (OneP w1.heap.size) W1 X9 := by rw [hX]; exact Keep.setCell (S := OneP w1.heap.size) (p := ⟨w1.heap.size, 8, none⟩) hKy (fun _ => (rfl : w1.heap.size = w1.heap.size)) _
  have HBB9 : Hid (X9.heap[w1.heap.size]? = some (.cells #[.int .i64 v0, .int .i64 v1, .int .i64 v2, .int .i64 v3, .int .i64 v4, .int .i64 v5, .int .i64 v6, .slice p7 v7.length d7, .slice p8 v8.length d8] 60 (0, 0))) := by
   show _ = _
   rw [hX, heap_setCell_same _ w1.heap.size 8 _ _ _ HBy.out]
   rfl
  have HR8 : Hid (∀ X, Keep (OneP w1.heap.size) X9 X → RdN (fun b => w1.heap.size ≤ b ∧ b < X.heap.size) X p8 d8 v8 ∧ RdN (fun b => w1.heap.size ≤ b ∧ b < X.heap.size) X p7 d7 v7) := fun X hX' => ⟨hr8.carry fun b hb => (by
   have s1 := hK8.size; have s2 := hX'.size; have e0 : X9.heap.size = y8.heap.size := by rw [hX]; simp
   have hne : b ≠ w1.heap.size := by have := hb.1; omega
   refine ⟨⟨by have := hb.1; omega, by have := hb.2; omega⟩, (hX'.block b (by have := hb.2; omega) (by unfold OneP; exact hne)).trans ?_⟩
   rw [hX]
   exact (Keep.setCell (S := OneP w1.heap.size) (p := ⟨w1.heap.size, 8, none⟩) (Keep.refl _ y8) (fun _ => (rfl : w1.heap.size = w1.heap.size)) _).block b hb.2 (by unfold OneP; exact hne)), HR7.out X ((Keep.of_below hb8).then (by
    have : Keep (OneP w1.heap.size) y8 X9 := by rw [hX]; exact Keep.setCell (S := OneP w1.heap.size) (p := ⟨w1.heap.size, 8, none⟩) (Keep.refl _ y8) (fun _ => (rfl : w1.heap.size = w1.heap.size)) _
    exact this.then hX'))⟩
  rw [← hX]
  clear hX hT g0 gz HBy c0 c1 c2 c3 c4 hKy hr8
  obtain ⟨_, hZ9⟩ := HX1.out X9 hK9
  have r0 := cellP hZ9 0 _ rfl; have r1 := cellP hZ9 1 _ rfl; have r2 := cellP hZ9 2 _ rfl; have r3 := cellP hZ9 3 _ rfl; have r4 := cellP hZ9 4 _ rfl; have r5 := cellP hZ9 5 _ rfl; have r6 := cellP hZ9 6 _ rfl; have r7 := cellP hZ9 7 _ rfl; have r8 := cellP hZ9 8 _ rfl
  have z0 := fzP hZ9 0; have z1 := fzP hZ9 1; have z2 := fzP hZ9 2; have z3 := fzP hZ9 3; have z4 := fzP hZ9 4; have z5 := fzP hZ9 5; have z6 := fzP hZ9 6; have z7 := fzP hZ9 7; have z8 := fzP hZ9 8
  have HZ := (show Hid _ from hZ9)
  have hBB := HBB9.out
  have f0 := cellP hBB 0 _ rfl; have f1 := cellP hBB 1 _ rfl; have f2 := cellP hBB 2 _ rfl; have f3 := cellP hBB 3 _ rfl; have f4 := cellP hBB 4 _ rfl; have f5 := cellP hBB 5 _ rfl; have f6 := cellP hBB 6 _ rfl; have f7 := cellP hBB 7 _ rfl; have f8 := cellP hBB 8 _ rfl
  clear hZ9 hBB HT0 HT1 HT2 HT3 HT4 HT5 HT6 HT7 HT8
  cases b0 with
  | true =>
   have HT := (show Hid _ from HPB.out (by simp))
   go_wp2
   have hZ9 := HZ.out
   have h9 := setL_all (b := w.heap.size + 1) [.int .i64 0, .int .i64 0, .int .i64 0, .int .i64 0, .int .i64 0, .int .i64 0, .int .i64 0, .slice none 0 0, .slice none 0 0] hZ9 rfl
   have HK := setL_keep (w.heap.size + 1) [.int .i64 0, .int .i64 0, .int .i64 0, .int .i64 0, .int .i64 0, .int .i64 0, .int .i64 0, .slice none 0 0, .slice none 0 0] X9 0
   simp only [setL, Nat.zero_add, Nat.reduceAdd] at h9 HK
   refine bodyPost_ret (resultsP_cell_tmp rfl _ _ _ rfl (loadL9 h9)) rfl ?_
   have hbE := HBX.out X9 hK9
   exact ParP.off HT.out (hbE.trans (HK.below hbE.size fun q hq e => by unfold OneP at e; omega))
  | false =>
   cases b1 with
   | true =>
    have HT := (show Hid _ from HPB.out (by simp))
    go_wp2
    have hZ9 := HZ.out
    have h9 := setL_all (b := w.heap.size + 1) [.int .i64 0, .int .i64 0, .int .i64 0, .int .i64 0, .int .i64 0, .int .i64 0, .int .i64 0, .slice none 0 0, .slice none 0 0] hZ9 rfl
    have HK := setL_keep (w.heap.size + 1) [.int .i64 0, .int .i64 0, .int .i64 0, .int .i64 0, .int .i64 0, .int .i64 0, .int .i64 0, .slice none 0 0, .slice none 0 0] X9 0
    simp only [setL, Nat.zero_add, Nat.reduceAdd] at h9 HK
    refine bodyPost_ret (resultsP_cell_tmp rfl _ _ _ rfl (loadL9 h9)) rfl ?_
    have hbE := HBX.out X9 hK9
    exact ParP.off HT.out (hbE.trans (HK.below hbE.size fun q hq e => by unfold OneP at e; omega))
   | false =>
    cases b2 with
    | true =>
     have HT := (show Hid _ from HPB.out (by simp))
     go_wp2
     have hZ9 := HZ.out
     have h9 := setL_all (b := w.heap.size + 1) [.int .i64 0, .int .i64 0, .int .i64 0, .int .i64 0, .int .i64 0, .int .i64 0, .int .i64 0, .slice none 0 0, .slice none 0 0] hZ9 rfl
     have HK := setL_keep (w.heap.size + 1) [.int .i64 0, .int .i64 0, .int .i64 0, .int .i64 0, .int .i64 0, .int .i64 0, .int .i64 0, .slice none 0 0, .slice none 0 0] X9 0
     simp only [setL, Nat.zero_add, Nat.reduceAdd] at h9 HK
     refine bodyPost_ret (resultsP_cell_tmp rfl _ _ _ rfl (loadL9 h9)) rfl ?_
     have hbE := HBX.out X9 hK9
     exact ParP.off HT.out (hbE.trans (HK.below hbE.size fun q hq e => by unfold OneP at e; omega))
    | false =>
     cases b3 with
     | true =>
      have HT := (show Hid _ from HPB.out (by simp))
      go_wp2
      have hZ9 := HZ.out
      have h9 := setL_all (b := w.heap.size + 1) [.int .i64 0, .int .i64 0, .int .i64 0, .int .i64 0, .int .i64 0, .int .i64 0, .int .i64 0, .slice none 0 0, .slice none 0 0] hZ9 rfl
      have HK := setL_keep (w.heap.size + 1) [.int .i64 0, .int .i64 0, .int .i64 0, .int .i64 0, .int .i64 0, .int .i64 0, .int .i64 0, .slice none 0 0, .slice none 0 0] X9 0
      simp only [setL, Nat.zero_add, Nat.reduceAdd] at h9 HK
      refine bodyPost_ret (resultsP_cell_tmp rfl _ _ _ rfl (loadL9 h9)) rfl ?_
      have hbE := HBX.out X9 hK9
      exact ParP.off HT.out (hbE.trans (HK.below hbE.size fun q hq e => by unfold OneP at e; omega))
     | false =>
      cases b4 with
      | true =>
       have HT := (show Hid _ from HPB.out (by simp))
       go_wp2
       have hZ9 := HZ.out
       have h9 := setL_all (b := w.heap.size + 1) [.int .i64 0, .int .i64 0, .int .i64 0, .int .i64 0, .int .i64 0, .int .i64 0, .int .i64 0, .slice none 0 0, .slice none 0 0] hZ9 rfl
       have HK := setL_keep (w.heap.size + 1) [.int .i64 0, .int .i64 0, .int .i64 0, .int .i64 0, .int .i64 0, .int .i64 0, .int .i64 0, .slice none 0 0, .slice none 0 0] X9 0
       simp only [setL, Nat.zero_add, Nat.reduceAdd] at h9 HK
       refine bodyPost_ret (resultsP_cell_tmp rfl _ _ _ rfl (loadL9 h9)) rfl ?_
       have hbE := HBX.out X9 hK9
       exact ParP.off HT.out (hbE.trans (HK.below hbE.size fun q hq e => by unfold OneP at e; omega))
      | false =>
       cases b5 with
       | true =>
        have HT := (show Hid _ from HPB.out (by simp))
        go_wp2
        have hZ9 := HZ.out
        have h9 := setL_all (b := w.heap.size + 1) [.int .i64 0, .int .i64 0, .int .i64 0, .int .i64 0, .int .i64 0, .int .i64 0, .int .i64 0, .slice none 0 0, .slice none 0 0] hZ9 rfl
        have HK := setL_keep (w.heap.size + 1) [.int .i64 0, .int .i64 0, .int .i64 0, .int .i64 0, .int .i64 0, .int .i64 0, .int .i64 0, .slice none 0 0, .slice none 0 0] X9 0
        simp only [setL, Nat.zero_add, Nat.reduceAdd] at h9 HK
        refine bodyPost_ret (resultsP_cell_tmp rfl _ _ _ rfl (loadL9 h9)) rfl ?_
        have hbE := HBX.out X9 hK9
        exact ParP.off HT.out (hbE.trans (HK.below hbE.size fun q hq e => by unfold OneP at e; omega))
       | false =>
        cases b6 with
        | true =>
         have HT := (show Hid _ from HPB.out (by simp))
         go_wp2
         have hZ9 := HZ.out
         have h9 := setL_all (b := w.heap.size + 1) [.int .i64 0, .int .i64 0, .int .i64 0, .int .i64 0, .int .i64 0, .int .i64 0, .int .i64 0, .slice none 0 0, .slice none 0 0] hZ9 rfl
         have HK := setL_keep (w.heap.size + 1) [.int .i64 0, .int .i64 0, .int .i64 0, .int .i64 0, .int .i64 0, .int .i64 0, .int .i64 0, .slice none 0 0, .slice none 0 0] X9 0
         simp only [setL, Nat.zero_add, Nat.reduceAdd] at h9 HK
         refine bodyPost_ret (resultsP_cell_tmp rfl _ _ _ rfl (loadL9 h9)) rfl ?_
         have hbE := HBX.out X9 hK9
         exact ParP.off HT.out (hbE.trans (HK.below hbE.size fun q hq e => by unfold OneP at e; omega))
        | false =>
         cases b7 with
         | true =>
          have HT := (show Hid _ from HPB.out (by simp))
          go_wp2
          have hZ9 := HZ.out
          have h9 := setL_all (b := w.heap.size + 1) [.int .i64 0, .int .i64 0, .int .i64 0, .int .i64 0, .int .i64 0, .int .i64 0, .int .i64 0, .slice none 0 0, .slice none 0 0] hZ9 rfl
          have HK := setL_keep (w.heap.size + 1) [.int .i64 0, .int .i64 0, .int .i64 0, .int .i64 0, .int .i64 0, .int .i64 0, .int .i64 0, .slice none 0 0, .slice none 0 0] X9 0
          simp only [setL, Nat.zero_add, Nat.reduceAdd] at h9 HK
          refine bodyPost_ret (resultsP_cell_tmp rfl _ _ _ rfl (loadL9 h9)) rfl ?_
          have hbE := HBX.out X9 hK9
          exact ParP.off HT.out (hbE.trans (HK.below hbE.size fun q hq e => by unfold OneP at e; omega))
         | false =>
          cases b8 with
          | true =>
           have HT := (show Hid _ from HPB.out (by simp))
           go_wp2
           have hZ9 := HZ.out
           have h9 := setL_all (b := w.heap.size + 1) [.int .i64 0, .int .i64 0, .int .i64 0, .int .i64 0, .int .i64 0, .int .i64 0, .int .i64 0, .slice none 0 0, .slice none 0 0] hZ9 rfl
           have HK := setL_keep (w.heap.size + 1) [.int .i64 0, .int .i64 0, .int .i64 0, .int .i64 0, .int .i64 0, .int .i64 0, .int .i64 0, .slice none 0 0, .slice none 0 0] X9 0
           simp only [setL, Nat.zero_add, Nat.reduceAdd] at h9 HK
           refine bodyPost_ret (resultsP_cell_tmp rfl _ _ _ rfl (loadL9 h9)) rfl ?_
           have hbE := HBX.out X9 hK9
           exact ParP.off HT.out (hbE.trans (HK.below hbE.size fun q hq e => by unfold OneP at e; omega))
          | false =>
           have HT := (show Hid _ from HPO.out (by simp))
           go_wp2
           have hZ9 := HZ.out
           have h9 := setL_all (b := w.heap.size + 1) [.int .i64 v0, .int .i64 v1, .int .i64 v2, .int .i64 v3, .int .i64 v4, .int .i64 v5, .int .i64 v6, .slice p7 v7.length d7, .slice p8 v8.length d8] hZ9 rfl
           have HK := setL_keep (w.heap.size + 1) [.int .i64 v0, .int .i64 v1, .int .i64 v2, .int .i64 v3, .int .i64 v4, .int .i64 v5, .int .i64 v6, .slice p7 v7.length d7, .slice p8 v8.length d8] X9 0
           simp only [setL, Nat.zero_add, Nat.reduceAdd] at h9 HK
           refine bodyPost_ret (resultsP_cell_tmp rfl _ _ _ rfl (loadL9 h9)) rfl ?_
           have hbE := HBX.out X9 hK9
           obtain ⟨r8, r7⟩ := HR8.out X9 (Keep.refl _ _)
           unfold ParP
           rw [HT.out]
           refine ⟨⟨⟨p7, d7, p8, d8⟩, rfl, ?_, ?_⟩, hbE.trans (HK.below hbE.size fun q hq e => by unfold OneP at e; omega)⟩
           · exact r7.carry fun b hb => ⟨⟨by have := hb.1; omega, Nat.lt_of_lt_of_le hb.2 HK.size⟩, HK.block b hb.2 (by unfold OneP; have := hb.1; omega)⟩
           · exact r8.carry fun b hb => ⟨⟨by have := hb.1; omega, Nat.lt_of_lt_of_le hb.2 HK.size⟩, HK.block b hb.2 (by unfold OneP; have := hb.1; omega)⟩
end Go.Proofs.YtimhpglfolbomaaGreat
namespace Go.Proofs.YtimhpglfolbomaaGreat.Od
open Go.RowKit Go.Maps
theorem one_LvS (l : Lv) (p : Pl) : (cellsL l p).toArray.all (·.oneCell') = true := by simp [cellsL, Value.oneCell']
theorem rlevel_any {w : World} {p : Pa} {q : Pq} (h : IsPa (· < w.heap.size) w p q) (hz : SzPa p) (hs : SzEs p) (hc13 : ∀ e ∈ p.evs, szJ 13 e.content = true) (i : Int) :
    Calls Tryz.prog 20 #[valPa p q, .int .i64 i] w fun e w' => e = .returned (.int .i64 (levelV p i)) ∧ Below w.heap.size w w' := by
 obtain ⟨W0, hW0⟩ : ∃ W0, W0 = w.alloc (.cells (cellsPa p q).toArray 27) := ⟨_, rfl⟩
 have hb0 : Below w.heap.size w W0 := by rw [hW0]; exact (Below.refl _ _).alloc (Nat.le_refl _) _
 have V : IsVP W0 w.heap.size p q := by rw [hW0]; exact isVP_new h
 have HLD : Hid (∀ X, Below W0.heap.size W0 X → (Instr.loadAt 27 (.pointer (some ⟨w.heap.size, 0, none⟩))).run Tryz.prog X = .ok (.agg (cellsPa p q).toArray) X) := fun X hX => (V.below hX).load
 have hRi := rright_any V.pa hz
 have HCL : Hid (∀ X, Below W0.heap.size W0 X → X.cell? ⟨w.heap.size, 1, none⟩ = some (.slice q.e p.evs.length q.ce)) := fun X hX => (V.below hX).c1
 have hen := hz.evs
 have hB0 : Below W0.heap.size W0 W0 := Below.refl _ _
 cases hr : rightT p with
 | false =>
  have HR : Hid (levelV p i = 0) := by show _ = _; unfold levelV; rw [hr]; rfl
  rw [hr] at hRi
  clear V h hz hs hr hc13
  unfold valPa at hRi ⊢
  generalize cellsPa p q = CP at *
  go_enter Tryz.func20, Tryz.ntmps20
  go_upto_region 1 with fail
  rw [← hW0]
  clear hW0
  go_wp2_with (first
   | (refine wpList_loadK rfl 27 _ rfl w.heap.size 0 rfl CP (HLD.out _ hB0) ?_)
   | (go_at_call 11; refine hRi.mono ?_; rintro e w1 ⟨rfl, hb1⟩))
  go_ret
  exact ⟨ret_int HR.out.symm, belowP hb0 hb1⟩
 | true =>
 rw [hr] at hRi
 by_cases hi0 : i < 0
 · have HR : Hid (levelV p i = 0) := by show _ = _; unfold levelV; rw [decide_eq_false (fun hh => by omega), Bool.and_false]; rfl
   have d0 : decide (i < 0) = true := decide_eq_true hi0
   clear V h hz hs hr hc13
   unfold valPa at hRi ⊢
   generalize cellsPa p q = CP at *
   go_enter Tryz.func20, Tryz.ntmps20
   go_upto_region 1 with fail
   rw [← hW0]
   clear hW0
   go_wp2_with (first
    | (refine wpList_loadK rfl 27 _ rfl w.heap.size 0 rfl CP (HLD.out _ hB0) ?_)
    | (go_at_call 11; refine hRi.mono ?_; rintro e w1 ⟨rfl, hb1⟩))
   go_ret
   exact ⟨ret_int HR.out.symm, belowP hb0 hb1⟩
 have d0 : decide (i < 0) = false := decide_eq_false hi0
 by_cases hi1 : (p.evs.length : Int) ≤ i
 · have HR : Hid (levelV p i = 0) := by show _ = _; unfold levelV; rw [decide_eq_false (fun hh => by omega), Bool.and_false]; rfl
   clear V h hz hs hr hc13
   unfold valPa at hRi ⊢
   generalize cellsPa p q = CP at *
   generalize p.evs.length = n1 at *
   have d1 : decide ((n1 : Int) ≤ i) = true := decide_eq_true hi1
   go_enter Tryz.func20, Tryz.ntmps20
   go_upto_region 1 with fail
   rw [← hW0]
   clear hW0
   go_wp2_with (first
    | (refine wpList_loadK rfl 27 _ rfl w.heap.size 0 rfl CP (HLD.out _ hB0) ?_)
    | (go_at_call 11; refine hRi.mono ?_; rintro e w1 ⟨rfl, hb1⟩; have c1 := HCL.out _ hb1))
   go_ret
   exact ⟨ret_int HR.out.symm, belowP hb0 hb1⟩
 obtain ⟨x, rfl⟩ : ∃ x : Nat, i = (x : Int) := ⟨i.toNat, by omega⟩
 have hi : x < p.evs.length := by omega
 have HRV : Hid (levelV p (x : Int) = levelT p x) := by
  show _ = _
  unfold levelV
  rw [hr, decide_eq_true (show 0 ≤ (x : Int) ∧ (x : Int) < (p.evs.length : Int) by omega)]
  simp
 have hba := (right_parts hr).2.1
 have HLN : Hid (∀ X kind, Below W0.heap.size W0 X → Calls Tryz.prog 40 #[.agg (cellsPa p q).toArray, .int .i64 (x : Int), .string kind] X fun e w' => e = .returned (.int .i64 (rleanV (leansT p x kind))) ∧ Below X.heap.size X w') := fun X kind hX => rleans_any (V.below hX).pa hz hba x hi kind
 have HIN : Hid (∀ kind j, leansT p x kind = some j → j < p.evs.length) := fun kind j hj => Nat.lt_trans ((back_of hba).2.1 x j (leans_mem hj)) hi
 have HSZ : Hid (∀ j, j < p.evs.length → SzE (evT p j)) := fun j hj => hs.ev _ (getD_inm hj)
 have HS13 : Hid (∀ j, j < p.evs.length → szJ 13 (evT p j).content = true) := fun j hj => hc13 _ (getD_inm hj)
 have HLV : Hid (levelT p x = match leansT p x tPower with
  | some j => if (parseT (ordT (evT p j).content)).2 = 0 then usr (parseT (ordT (evT p j).content)).1 (evT p x).sender else 0
  | none => match leansT p x tCreate with
   | some j => usr (startL (evT p j).sender) (evT p x).sender
   | none => 0) := rfl
 obtain ⟨bi, oi, qi, hqe, _, hci, _⟩ := V.pa.evs.2 x hi
 have HCI : Hid (∀ X, Below W0.heap.size W0 X → ∀ j, j < p.evs.length → ∃ q', X.rangeAt bi (oi + j * 16) (cellsE (evT p j) q') ∧ IsE (· < X.heap.size) X (evT p j) q') := fun X hX j hj => by
  obtain ⟨b, o, q', h1, _, h3, h4⟩ := (V.below hX).pa.evs.2 j hj
  rw [hqe] at h1
  cases h1
  exact ⟨q', h3, h4⟩
 have HC1 : Hid (∀ X, Below W0.heap.size W0 X → X.cell? ⟨w.heap.size, 1, none⟩ = some (.slice (some ⟨bi, oi, none⟩) p.evs.length q.ce)) := fun X hX => by rw [← hqe]; exact (V.below hX).c1
 have HD2 : Hid (∀ X, Below W0.heap.size W0 X → X.cell? ⟨bi, oi + x * 16 + 2, none⟩ = some (.string (evT p x).sender)) := fun X hX => by
  obtain ⟨q', h3, _⟩ := HCI.out X hX x hi
  exact h3 2 _ rfl
 have hel := V.pa.evs.1
 clear V h hz hs hr hci hba HCL hqe hi0 hc13
 unfold valPa at hRi ⊢
 generalize p.evs.length = n1 at *
 have d1 : decide ((n1 : Int) ≤ (x : Int)) = false := decide_eq_false hi1
 generalize (evT p x).sender = snd at *
 generalize levelV p (x : Int) = R at *
 generalize levelT p x = RT at *
 generalize cellsPa p q = CP at *
 go_enter Tryz.func20, Tryz.ntmps20
 go_upto_region 1 with fail
 rw [← hW0]
 clear hW0
 have HL1 : Hid (∀ X, Below W0.heap.size W0 X → Calls Tryz.prog 40 #[.agg CP.toArray, .int .i64 (x : Int), .string tPower] X fun e w' => e = .returned (.int .i64 (rleanV (leansT p x tPower))) ∧ Below X.heap.size X w') := fun X hX => HLN.out X tPower hX
 have HL2 : Hid (∀ X, Below W0.heap.size W0 X → Calls Tryz.prog 40 #[.agg CP.toArray, .int .i64 (x : Int), .string tCreate] X fun e w' => e = .returned (.int .i64 (rleanV (leansT p x tCreate))) ∧ Below X.heap.size X w') := fun X hX => HLN.out X tCreate hX
 clear HLN
 cases hp : leansT p x tPower with
 | some j =>
  have hj := HIN.out _ _ hp
  rw [hp] at HLV HL1
  have HLV2 : Hid (R = if (parseT (ordT (evT p j).content)).2 = 0 then usr (parseT (ordT (evT p j).content)).1 snd else 0) := HRV.out.trans HLV.out
  replace HL1 : Hid (∀ X, Below W0.heap.size W0 X → Calls Tryz.prog 40 #[.agg CP.toArray, .int .i64 (x : Int), .string tPower] X fun e w' => e = .returned (.int .i64 (j : Int)) ∧ Below X.heap.size X w') := HL1
  clear HLV HRV HIN hp HL2
  go_upto_region 5 with (first
   | (refine wpList_loadK rfl 27 _ rfl w.heap.size 0 rfl CP (HLD.out _ hB1) ?_)
   | (refine wpList_loadK rfl 27 _ rfl w.heap.size 0 rfl CP (HLD.out _ hB0) ?_)
   | (go_at_call 11; refine hRi.mono ?_; rintro e w1 ⟨rfl, hb1⟩; have hB1 : Below W0.heap.size W0 w1 := hb1; have c1 := HC1.out w1 hB1)
   | (go_at_call 40; refine (HL1.out _ hB1).mono ?_; rintro e w2 ⟨rfl, hb2⟩))
  have hB2 : Below W0.heap.size W0 w2 := belowP hB1 hb2
  clear c1 hRi HL1
  have c1 := HC1.out w2 hB2
  obtain ⟨q', hcj, hEj⟩ := HCI.out w2 hB2 j hj
  have hcont := hEj.cont
  have e5 : w2.cell? ⟨bi, oi + j * 16 + 5, none⟩ = some (.int .i64 (evT p j).content.kind) := hcj 5 _ rfl
  have e6 : w2.cell? ⟨bi, oi + j * 16 + 5 + 1, none⟩ = some (.int .i64 (evT p j).content.int) := hcj 6 _ rfl
  have e7 : w2.cell? ⟨bi, oi + j * 16 + 5 + 2, none⟩ = some (.string (evT p j).content.text) := hcj 7 _ rfl
  have e8 : w2.cell? ⟨bi, oi + j * 16 + 5 + 3, none⟩ = some (.slice q'.pk (evT p j).content.keys.length q'.ck) := hcj 8 _ rfl
  have e9 : w2.cell? ⟨bi, oi + j * 16 + 5 + 4, none⟩ = some (.slice q'.pl (evT p j).content.list.length q'.cl) := hcj 9 _ rfl
  have hP := rParse_any (O := (· < w2.heap.size)) (w := w2) (c := (evT p j).content) hcont (fun _ h => h) (HS13.out j hj)
  rw [← parse_same] at hP
  have HSL : Hid (SzL (parseT (ordT (evT p j).content)).1) := parse_sz (HSZ.out j hj).cont
  have HE2 := parse_err (ordT (evT p j).content)
  clear hcj hEj hcont
  generalize parseT (ordT (evT p j).content) = PR at *
  obtain ⟨L, E⟩ := PR
  simp only at HSL HE2 HLV2
  generalize (evT p j).content.kind = k at *
  generalize (evT p j).content.int = ii at *
  generalize (evT p j).content.text = tt at *
  generalize (evT p j).content.keys.length = nk at *
  generalize (evT p j).content.list.length = nl at *
  have HP : Hid (Calls Tryz.prog 41 #[.agg #[.int .i64 k, .int .i64 ii, .string tt, .slice q'.pk nk q'.ck, .slice q'.pl nl q'.cl]] w2 fun e w' => (∃ LP, e = .returned (.tuple #[.agg (List.toArray LP), .int .i64 E]) ∧ ∃ pt, Hid (LP = cellsL L pt) ∧ IsL (fun b => w2.heap.size ≤ b ∧ b < w'.heap.size) w' L pt) ∧ Below w2.heap.size w2 w') := hP.mono fun e w' hh => by
   obtain ⟨⟨pt, h1, h2⟩, h3⟩ := hh
   exact ⟨⟨_, h1, pt, rfl, h2⟩, h3⟩
  clear hP
  go_upto_region 6 with (first
   | (go_at_call 41; refine HP.out.mono ?_; rintro e w3 ⟨⟨LP, rfl, pt, HLP, hI3⟩, hb3⟩)
   | (refine wpList_store_row rfl 60 _ _ rfl w3.heap.size 60 _ LP.toArray rfl rfl (heap_alloc_new _ _) (by rw [HLP.out]; exact infoLv) (by rw [HLP.out]; rfl) (by rw [HLP.out]; exact one_LvS _ _) ?_))
  clear HP e5 e6 e7 e8 e9
  have hN3 : ((w3.alloc (.cells (cellsL zeroL ⟨none, 0, none, 0⟩).toArray 60)).setRow w3.heap.size LP.toArray).heap[w3.heap.size]? = some (.cells LP.toArray 60 (0, 0)) := setRow_newS w3 (cellsL zeroL ⟨none, 0, none, 0⟩).toArray LP.toArray 60
  have hBN : Below w3.heap.size w3 ((w3.alloc (.cells (cellsL zeroL ⟨none, 0, none, 0⟩).toArray 60)).setRow w3.heap.size LP.toArray) := below_setRowS w3 _ _ _
  change Code.wp _ _ _ _ ((w3.alloc (.cells (cellsL zeroL ⟨none, 0, none, 0⟩).toArray 60)).setRow w3.heap.size LP.toArray)
  generalize (w3.alloc (.cells (cellsL zeroL ⟨none, 0, none, 0⟩).toArray 60)).setRow w3.heap.size LP.toArray = WN at *
  have hBW : Below W0.heap.size W0 WN := belowP hB2 (belowP hb3 hBN)
  have HXX : Hid (∀ X, Below WN.heap.size WN X → X.cell? ⟨w.heap.size, 1, none⟩ = some (.slice (some ⟨bi, oi, none⟩) n1 q.ce) ∧ X.cell? ⟨bi, oi + x * 16 + 2, none⟩ = some (.string snd)) := fun X hX => ⟨HC1.out X (belowP hBW hX), HD2.out X (belowP hBW hX)⟩
  have HLL : Hid (∀ X, Below WN.heap.size WN X → (Instr.loadAt 60 (.pointer (some ⟨w3.heap.size, 0, none⟩))).run Tryz.prog X = .ok (.agg LP.toArray) X) := fun X hX => run_loadAt_mid X w3.heap.size 0 60 LP _ (rangeK_of ((hX.block _ (obj_lt hN3)).trans hN3)) Tryz.underlying60 rfl (by rw [HLP.out]; exact infoLv)
  have HUS : Hid (∀ X, Below WN.heap.size WN X → Calls Tryz.prog 42 #[.agg LP.toArray, .string snd] X fun e w' => e = .returned (.int .i64 (usr L snd)) ∧ Below X.heap.size X w') := fun X hX => by
   rw [HLP.out]
   exact ruser_lv (O := (· < X.heap.size)) (hI3.carry fun b hb => ⟨Nat.lt_of_lt_of_le hb.2 (belowP hBN hX).size, (belowP hBN hX).block b hb.2⟩) (fun _ h => h) HSL.out snd
  clear hN3 HCI HC1 HD2 HLD HSZ HS13 hI3 c1 HLP HSL
  rcases HE2 with rfl | rfl
  · have HF : Hid (R = usr L snd) := by show _ = _; rw [HLV2.out]; rfl
    clear HLV2
    go_upto_region 8 with fail
    refine wp_region_in (by kernel_rfl) (fun w' => Below WN.heap.size WN w') ?_
    change wpIn _ _ _ _ _ _ _ _ (World.drew _)
    have hD : Below WN.heap.size WN WN.drew := (Below.refl _ _).drew
    refine wpIn_take (i := 0) (d := (some 40)) (v := .agg LP.toArray) (a' := ?aw0) rfl rfl (by kernel_rfl) (by kernel_rfl) (by kernel_rfl) (fun _ _ _ h => h) (Or.inl ⟨by rfl, ?yw0⟩) ?fw0 ?_
    case yw0 => exact fun wq hq => exec_loadS rfl rfl (HLL.out wq hq)
    case fw0 => (go_frame; rfl)
    refine wpIn_take (i := 1) (d := (some 41)) (v := .pointer (some ⟨w.heap.size, 1, none⟩)) (a' := ?aw1) rfl rfl (by kernel_rfl) (by kernel_rfl) (by kernel_rfl) (fun _ _ _ h => h) (Or.inl ⟨by rfl, ?yw1⟩) ?fw1 ?_
    case yw1 => (intro wq hq; obtain ⟨g1, g2⟩ := HXX.out wq hq; go_simp; first | done | with_reducible rfl)
    case fw1 => (go_frame; rfl)
    refine wpIn_take (i := 2) (d := (some 42)) (v := .slice (some ⟨bi, oi, none⟩) n1 q.ce) (a' := ?aw2) rfl rfl (by kernel_rfl) (by kernel_rfl) (by kernel_rfl) (fun _ _ _ h => h) (Or.inl ⟨by rfl, ?yw2⟩) ?fw2 ?_
    case yw2 => (intro wq hq; obtain ⟨g1, g2⟩ := HXX.out wq hq; go_simp; first | done | with_reducible rfl)
    case fw2 => (go_frame; rfl)
    refine wpIn_take (i := 3) (d := (some 43)) (v := .int .i64 (x : Int)) (a' := ?aw3) rfl rfl (by kernel_rfl) (by kernel_rfl) (by kernel_rfl) (fun _ _ _ h => h) (Or.inl ⟨by rfl, ?yw3⟩) ?fw3 ?_
    case yw3 => (intro wq hq; obtain ⟨g1, g2⟩ := HXX.out wq hq; go_simp; first | done | with_reducible rfl)
    case fw3 => (go_frame; rfl)
    refine wpIn_take (i := 4) (d := (some 44)) (v := .pointer (some ⟨bi, oi + x * 16, none⟩)) (a' := ?aw4) rfl rfl (by kernel_rfl) (by kernel_rfl) (by kernel_rfl) (fun _ _ _ h => h) (Or.inl ⟨by rfl, ?yw4⟩) ?fw4 ?_
    case yw4 => (intro wq hq; obtain ⟨g1, g2⟩ := HXX.out wq hq; go_simp; first | done | with_reducible rfl)
    case fw4 => (go_frame; rfl)
    refine wpIn_take (i := 5) (d := (some 45)) (v := .pointer (some ⟨bi, oi + x * 16 + 2, none⟩)) (a' := ?aw5) rfl rfl (by kernel_rfl) (by kernel_rfl) (by kernel_rfl) (fun _ _ _ h => h) (Or.inl ⟨by rfl, ?yw5⟩) ?fw5 ?_
    case yw5 => (intro wq hq; obtain ⟨g1, g2⟩ := HXX.out wq hq; go_simp; first | done | with_reducible rfl)
    case fw5 => (go_frame; rfl)
    refine wpIn_take (i := 6) (d := (some 46)) (v := .string snd) (a' := ?aw6) rfl rfl (by kernel_rfl) (by kernel_rfl) (by kernel_rfl) (fun _ _ _ h => h) (Or.inl ⟨by rfl, ?yw6⟩) ?fw6 ?_
    case yw6 => (intro wq hq; obtain ⟨g1, g2⟩ := HXX.out wq hq; go_simp; first | done | with_reducible rfl)
    case fw6 => (go_frame; rfl)
    refine wpIn_do (i := 7) hD (by kernel_rfl) rfl (by rfl) ?_
    intro K hK
    go_simp
    go_wp2_with (go_at_call 42; refine (HUS.out _ hD).mono ?_; rintro e w4 ⟨rfl, hb4⟩)
    have hD1 : Below WN.heap.size WN w4 := belowP hD hb4
    refine wpIn_take (i := 8) (d := (some 4)) (v := .int .i64 (usr L snd)) (a' := ?aw8) rfl rfl (by kernel_rfl) (by kernel_rfl) (by kernel_rfl) (fun _ _ _ h => h) (Or.inl ⟨by rfl, ?yw8⟩) ?fw8 ?_
    case yw8 => (intro wq hq; go_simp; first | done | with_reducible rfl)
    case fw8 => (go_frame; rfl)
    refine wpIn_done hD1 (by kernel_rfl) ?_ _
    go_wp2
    go_ret
    exact ⟨ret_int HF.out.symm, belowP hb0 (belowP hBW hD1)⟩
  · have HF : Hid (R = 0) := by show _ = _; rw [HLV2.out]; rfl
    clear HLV2
    go_wp2
    go_ret
    exact ⟨ret_int HF.out.symm, belowP hb0 hBW⟩
 | none =>
  rw [hp] at HLV HL1
  have HLV1 : Hid (R = match leansT p x tCreate with | some j => usr (startL (evT p j).sender) snd | none => 0) := HRV.out.trans HLV.out
  replace HL1 : Hid (∀ X, Below W0.heap.size W0 X → Calls Tryz.prog 40 #[.agg CP.toArray, .int .i64 (x : Int), .string tPower] X fun e w' => e = .returned (.int .i64 (-1)) ∧ Below X.heap.size X w') := HL1
  clear HLV HRV hp
  cases hc : leansT p x tCreate with
  | some j =>
   have hj := HIN.out _ _ hc
   rw [hc] at HLV1 HL2
   have HLV2 : Hid (R = usr (startL (evT p j).sender) snd) := HLV1.out
   replace HL2 : Hid (∀ X, Below W0.heap.size W0 X → Calls Tryz.prog 40 #[.agg CP.toArray, .int .i64 (x : Int), .string tCreate] X fun e w' => e = .returned (.int .i64 (j : Int)) ∧ Below X.heap.size X w') := HL2
   clear HLV1 HIN hc
   go_upto_region 12 with (first
    | (refine wpList_loadK rfl 27 _ rfl w.heap.size 0 rfl CP (HLD.out _ hB2) ?_)
    | (refine wpList_loadK rfl 27 _ rfl w.heap.size 0 rfl CP (HLD.out _ hB1) ?_)
    | (refine wpList_loadK rfl 27 _ rfl w.heap.size 0 rfl CP (HLD.out _ hB0) ?_)
    | (go_at_call 11; refine hRi.mono ?_; rintro e w1 ⟨rfl, hb1⟩; have hB1 : Below W0.heap.size W0 w1 := hb1; have c1 := HC1.out w1 hB1)
    | (go_at_call 40; have _hh := HL1; refine (HL1.out _ hB1).mono ?_; rintro e w2 ⟨rfl, hb2⟩; have hB2 : Below W0.heap.size W0 w2 := belowP hB1 hb2; clear HL1 _hh)
    | (go_at_call 40; refine (HL2.out _ hB2).mono ?_; rintro e w3 ⟨rfl, hb3⟩))
   have hBW : Below W0.heap.size W0 w3 := belowP hB2 hb3
   clear c1 hRi HL2
   have HXX : Hid (∀ X, Below w3.heap.size w3 X → X.cell? ⟨w.heap.size, 1, none⟩ = some (.slice (some ⟨bi, oi, none⟩) n1 q.ce) ∧ X.cell? ⟨bi, oi + x * 16 + 2, none⟩ = some (.string snd) ∧ X.cell? ⟨bi, oi + j * 16 + 2, none⟩ = some (.string (evT p j).sender)) := fun X hX => ⟨HC1.out X (belowP hBW hX), HD2.out X (belowP hBW hX), by
    obtain ⟨q', h3, _⟩ := HCI.out X (belowP hBW hX) j hj
    exact h3 2 _ rfl⟩
   have HSS : Hid (SzL (startL (evT p j).sender)) := szL_startK (HSZ.out j hj).sender
   generalize (evT p j).sender = sj at *
   have HSt : Hid (∀ X, Calls Tryz.prog 43 #[.string sj] X fun e w' => (∃ LP, e = .returned (.agg (List.toArray LP)) ∧ Hid (∀ Y, Below w'.heap.size w' Y → Calls Tryz.prog 42 #[.agg LP.toArray, .string snd] Y fun e w' => e = .returned (.int .i64 (usr (startL sj) snd)) ∧ Below Y.heap.size Y w')) ∧ Below X.heap.size X w') := fun X => (rstart_lv sj).mono fun e w' hh => by
    obtain ⟨⟨pl, h1, h2⟩, h3⟩ := hh
    exact ⟨⟨_, h1, fun Y hY => ruser_lv (O := (· < Y.heap.size)) (h2.carry fun b hb => ⟨Nat.lt_of_lt_of_le hb.2 hY.size, hY.block b hb.2⟩) (fun _ h => h) HSS.out snd⟩, h3⟩
   generalize usr (startL sj) snd = US at *
   clear HCI HC1 HD2 HLD HSZ HS13 HSS
   refine wp_region_in (by kernel_rfl) (fun w' => Below w3.heap.size w3 w') ?_
   change wpIn _ _ _ _ _ _ _ _ (World.drew _)
   have hD : Below w3.heap.size w3 w3.drew := (Below.refl _ _).drew
   refine wpIn_take (i := 0) (d := (some 53)) (v := .pointer (some ⟨w.heap.size, 1, none⟩)) (a' := ?awn0) rfl rfl (by kernel_rfl) (by kernel_rfl) (by kernel_rfl) (fun _ _ _ h => h) (Or.inl ⟨by rfl, ?ywn0⟩) ?fwn0 ?_
   case ywn0 => (intro wq hq; obtain ⟨g1, g2, g3⟩ := HXX.out wq hq; go_simp; first | done | with_reducible rfl)
   case fwn0 => (go_frame; rfl)
   refine wpIn_take (i := 1) (d := (some 54)) (v := .slice (some ⟨bi, oi, none⟩) n1 q.ce) (a' := ?awn1) rfl rfl (by kernel_rfl) (by kernel_rfl) (by kernel_rfl) (fun _ _ _ h => h) (Or.inl ⟨by rfl, ?ywn1⟩) ?fwn1 ?_
   case ywn1 => (intro wq hq; obtain ⟨g1, g2, g3⟩ := HXX.out wq hq; go_simp; first | done | with_reducible rfl)
   case fwn1 => (go_frame; rfl)
   refine wpIn_take (i := 2) (d := (some 55)) (v := .int .i64 (j : Int)) (a' := ?awn2) rfl rfl (by kernel_rfl) (by kernel_rfl) (by kernel_rfl) (fun _ _ _ h => h) (Or.inl ⟨by rfl, ?ywn2⟩) ?fwn2 ?_
   case ywn2 => (intro wq hq; obtain ⟨g1, g2, g3⟩ := HXX.out wq hq; go_simp; first | done | with_reducible rfl)
   case fwn2 => (go_frame; rfl)
   refine wpIn_take (i := 3) (d := (some 56)) (v := .pointer (some ⟨bi, oi + j * 16, none⟩)) (a' := ?awn3) rfl rfl (by kernel_rfl) (by kernel_rfl) (by kernel_rfl) (fun _ _ _ h => h) (Or.inl ⟨by rfl, ?ywn3⟩) ?fwn3 ?_
   case ywn3 => (intro wq hq; obtain ⟨g1, g2, g3⟩ := HXX.out wq hq; go_simp; first | done | with_reducible rfl)
   case fwn3 => (go_frame; rfl)
   refine wpIn_take (i := 4) (d := (some 57)) (v := .pointer (some ⟨bi, oi + j * 16 + 2, none⟩)) (a' := ?awn4) rfl rfl (by kernel_rfl) (by kernel_rfl) (by kernel_rfl) (fun _ _ _ h => h) (Or.inl ⟨by rfl, ?ywn4⟩) ?fwn4 ?_
   case ywn4 => (intro wq hq; obtain ⟨g1, g2, g3⟩ := HXX.out wq hq; go_simp; first | done | with_reducible rfl)
   case fwn4 => (go_frame; rfl)
   refine wpIn_take (i := 5) (d := (some 58)) (v := .string sj) (a' := ?awn5) rfl rfl (by kernel_rfl) (by kernel_rfl) (by kernel_rfl) (fun _ _ _ h => h) (Or.inl ⟨by rfl, ?ywn5⟩) ?fwn5 ?_
   case ywn5 => (intro wq hq; obtain ⟨g1, g2, g3⟩ := HXX.out wq hq; go_simp; first | done | with_reducible rfl)
   case fwn5 => (go_frame; rfl)
   refine wpIn_take (i := 7) (d := (some 60)) (v := .pointer (some ⟨w.heap.size, 1, none⟩)) (a' := ?awn7) rfl rfl (by kernel_rfl) (by kernel_rfl) (by kernel_rfl) (fun _ _ _ h => h) (Or.inl ⟨by rfl, ?ywn7⟩) ?fwn7 ?_
   case ywn7 => (intro wq hq; obtain ⟨g1, g2, g3⟩ := HXX.out wq hq; go_simp; first | done | with_reducible rfl)
   case fwn7 => (go_frame; rfl)
   refine wpIn_take (i := 8) (d := (some 61)) (v := .slice (some ⟨bi, oi, none⟩) n1 q.ce) (a' := ?awn8) rfl rfl (by kernel_rfl) (by kernel_rfl) (by kernel_rfl) (fun _ _ _ h => h) (Or.inl ⟨by rfl, ?ywn8⟩) ?fwn8 ?_
   case ywn8 => (intro wq hq; obtain ⟨g1, g2, g3⟩ := HXX.out wq hq; go_simp; first | done | with_reducible rfl)
   case fwn8 => (go_frame; rfl)
   refine wpIn_take (i := 9) (d := (some 62)) (v := .int .i64 (x : Int)) (a' := ?awn9) rfl rfl (by kernel_rfl) (by kernel_rfl) (by kernel_rfl) (fun _ _ _ h => h) (Or.inl ⟨by rfl, ?ywn9⟩) ?fwn9 ?_
   case ywn9 => (intro wq hq; obtain ⟨g1, g2, g3⟩ := HXX.out wq hq; go_simp; first | done | with_reducible rfl)
   case fwn9 => (go_frame; rfl)
   refine wpIn_take (i := 10) (d := (some 63)) (v := .pointer (some ⟨bi, oi + x * 16, none⟩)) (a' := ?awn10) rfl rfl (by kernel_rfl) (by kernel_rfl) (by kernel_rfl) (fun _ _ _ h => h) (Or.inl ⟨by rfl, ?ywn10⟩) ?fwn10 ?_
   case ywn10 => (intro wq hq; obtain ⟨g1, g2, g3⟩ := HXX.out wq hq; go_simp; first | done | with_reducible rfl)
   case fwn10 => (go_frame; rfl)
   refine wpIn_take (i := 11) (d := (some 64)) (v := .pointer (some ⟨bi, oi + x * 16 + 2, none⟩)) (a' := ?awn11) rfl rfl (by kernel_rfl) (by kernel_rfl) (by kernel_rfl) (fun _ _ _ h => h) (Or.inl ⟨by rfl, ?ywn11⟩) ?fwn11 ?_
   case ywn11 => (intro wq hq; obtain ⟨g1, g2, g3⟩ := HXX.out wq hq; go_simp; first | done | with_reducible rfl)
   case fwn11 => (go_frame; rfl)
   refine wpIn_take (i := 12) (d := (some 65)) (v := .string snd) (a' := ?awn12) rfl rfl (by kernel_rfl) (by kernel_rfl) (by kernel_rfl) (fun _ _ _ h => h) (Or.inl ⟨by rfl, ?ywn12⟩) ?fwn12 ?_
   case ywn12 => (intro wq hq; obtain ⟨g1, g2, g3⟩ := HXX.out wq hq; go_simp; first | done | with_reducible rfl)
   case fwn12 => (go_frame; rfl)
   refine wpIn_do (i := 6) hD (by kernel_rfl) rfl (by rfl) ?_
   intro K hK
   go_simp
   go_wp2_with (go_at_call 43; refine (HSt.out _).mono ?_; rintro e w4 ⟨⟨LP, rfl, HUS⟩, hb4⟩)
   have hD1 : Below w3.heap.size w3 w4 := belowP hD hb4
   refine wpIn_do (i := 13) hD1 (by kernel_rfl) rfl (by rfl) ?_
   intro K2 hK2
   go_simp
   go_wp2_with (go_at_call 42; refine (HUS.out _ (Below.refl _ _)).mono ?_; rintro e w5 ⟨rfl, hb5⟩)
   have hD2 : Below w3.heap.size w3 w5 := belowP hD1 hb5
   refine wpIn_take (i := 14) (d := (some 4)) (v := .int .i64 US) (a' := ?awn14) rfl rfl (by kernel_rfl) (by kernel_rfl) (by kernel_rfl) (fun _ _ _ h => h) (Or.inl ⟨by rfl, ?ywn14⟩) ?fwn14 ?_
   case ywn14 => (intro wq hq; go_simp; first | done | with_reducible rfl)
   case fwn14 => (go_frame; rfl)
   refine wpIn_done hD2 (by kernel_rfl) ?_ _
   go_wp2
   go_ret
   exact ⟨ret_int HLV2.out.symm, belowP hb0 (belowP hBW hD2)⟩
  | none =>
   rw [hc] at HLV1 HL2
   have HLV2 : Hid (R = 0) := HLV1.out
   replace HL2 : Hid (∀ X, Below W0.heap.size W0 X → Calls Tryz.prog 40 #[.agg CP.toArray, .int .i64 (x : Int), .string tCreate] X fun e w' => e = .returned (.int .i64 (-1)) ∧ Below X.heap.size X w') := HL2
   clear HLV1 HIN hc
   go_wp2_with (first
    | (refine wpList_loadK rfl 27 _ rfl w.heap.size 0 rfl CP (HLD.out _ hB2) ?_)
    | (refine wpList_loadK rfl 27 _ rfl w.heap.size 0 rfl CP (HLD.out _ hB1) ?_)
    | (refine wpList_loadK rfl 27 _ rfl w.heap.size 0 rfl CP (HLD.out _ hB0) ?_)
    | (go_at_call 11; refine hRi.mono ?_; rintro e w1 ⟨rfl, hb1⟩; have hB1 : Below W0.heap.size W0 w1 := hb1; have c1 := HC1.out w1 hB1)
    | (go_at_call 40; have _hh := HL1; refine (HL1.out _ hB1).mono ?_; rintro e w2 ⟨rfl, hb2⟩; have hB2 : Below W0.heap.size W0 w2 := belowP hB1 hb2; clear HL1 _hh)
    | (go_at_call 40; refine (HL2.out _ hB2).mono ?_; rintro e w3 ⟨rfl, hb3⟩))
   go_ret
   exact ⟨ret_int HLV2.out.symm, belowP hb0 (belowP hB2 hb3)⟩
end Go.Proofs.YtimhpglfolbomaaGreat.Od

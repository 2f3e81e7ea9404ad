/-
  Chapter 10's examples: by contracts.
  How many of so many values are left (the law of levels), by a contract.
  PowerRedacts: the walk of the law.
-/
import Derived.Test.YtnngalkdjgjmbaaGreatPR18
set_option maxRecDepth 100000
set_option maxHeartbeats 16000000
namespace Go.Proofs.YtnngalkdjgjmbaaGreat
open Go.RowKit
theorem num_any {w : World} (n : Int) : Calls Tryz.prog 41 #[.int .i64 n] w fun e w' => e = .returned (.agg #[.int .i64 2, .int .i64 n, .string ⟨#[]⟩, .slice none 0 0, .slice none 0 0]) ∧ Below w.heap.size w w' := by
 have h5 := newP (w := w) (.cells #[.int .i64 2, .int .i64 n, .string ⟨#[]⟩, .slice none 0 0, .slice none 0 0] 25)
 have hb : Below w.heap.size w (w.alloc (.cells #[.int .i64 2, .int .i64 n, .string ⟨#[]⟩, .slice none 0 0, .slice none 0 0] 25)) := (Below.refl _ _).alloc (Nat.le_refl _) _
 go_enter Tryz.func41, Tryz.ntmps41
 go_wp2
 refine bodyPost_ret (resultsP_cell rfl _ _ _ rfl (loadJP h5)) rfl ?_
 exact ⟨rfl, hb⟩
def usersJ (s : ByteArray) (n : Int) : J := .mk 5 0 nix [kByUser] [.mk 5 0 nix [s] [.mk 2 n nix [] []]]
theorem isJ_empty (O : Nat → Prop) (w : World) : isJ O w (.mk 5 0 nix [] []) [.int .i64 5, .int .i64 0, .string ⟨#[]⟩, .slice none 0 0, .slice none 0 0] := by
 unfold isJ
 exact ⟨none, 0, none, 0, rfl, RdK.nil _ _, Nat.le_refl _, by unfold isJs; trivial⟩
theorem isJ_int (O : Nat → Prop) (w : World) (n : Int) : isJ O w (.mk 2 n nix [] []) [.int .i64 2, .int .i64 n, .string ⟨#[]⟩, .slice none 0 0, .slice none 0 0] := by
 unfold isJ
 exact ⟨none, 0, none, 0, rfl, RdK.nil _ _, Nat.le_refl _, by unfold isJs; trivial⟩
theorem users_any {w : World} (s : ByteArray) (n : Int) : Calls Tryz.prog 20 #[.string s, .int .i64 n] w fun e w' => (∃ k i t p m c q r d, e = .returned (.agg #[.int .i64 k, .int .i64 i, .string t, .slice p m c, .slice q r d]) ∧ isJ (fun b => b < w'.heap.size) w' (usersJ s n) [.int .i64 k, .int .i64 i, .string t, .slice p m c, .slice q r d]) ∧ Below w.heap.size w w' := by
 obtain ⟨wA, hwA⟩ : ∃ wA, wA = w.alloc (.cells #[.int .i64 0, .int .i64 0, .string ⟨#[]⟩, .slice none 0 0, .slice none 0 0] 25) := ⟨_, rfl⟩
 have hbA : Below w.heap.size w wA := by rw [hwA]; exact (Below.refl _ _).alloc (Nat.le_refl _) _
 have hA : wA.heap[w.heap.size]? = some (.cells #[.int .i64 0, .int .i64 0, .string ⟨#[]⟩, .slice none 0 0, .slice none 0 0] 25 (0, 0)) := by rw [hwA]; exact newP _
 have hsA := objP_lt hA
 have HA := (show Hid _ from hA)
 have hNum := num_any (w := wA) n
 have HP : Hid (∀ X : World, Calls Tryz.prog 30 #[.agg #[.int .i64 5, .int .i64 0, .string ⟨#[]⟩, .slice none 0 0, .slice none 0 0], .string s, .agg #[.int .i64 2, .int .i64 n, .string ⟨#[]⟩, .slice none 0 0, .slice none 0 0]] X fun x w' => (∃ b1 c1 b2 c2, x = .returned (.agg #[.int .i64 5, .int .i64 0, .string ⟨#[]⟩, .slice (some ⟨b1, 0, none⟩) (0 + 1) c1, .slice (some ⟨b2, 0, none⟩) (0 + 1) c2]) ∧ isJ (fun b => False ∨ New X w' b) w' (.mk 5 0 nix [s] [.mk 2 n nix [] []]) [.int .i64 5, .int .i64 0, .string ⟨#[]⟩, .slice (some ⟨b1, 0, none⟩) (0 + 1) c1, .slice (some ⟨b2, 0, none⟩) (0 + 1) c2]) ∧ Below X.heap.size X w') := fun X =>
  Pt.rPut_any (O := fun _ => False) s (fun _ h => h.elim) (isJ_empty _ _) (isJ_int _ _ n) (fun _ => rfl) (fun _ => rfl) (by omega) (by omega)
 have HP2 : Hid (∀ (X : World) b1 c1 b2 c2, isJ (fun b => wA.heap.size ≤ b ∧ b < X.heap.size) X (.mk 5 0 nix [s] [.mk 2 n nix [] []]) [.int .i64 5, .int .i64 0, .string ⟨#[]⟩, .slice (some ⟨b1, 0, none⟩) 1 c1, .slice (some ⟨b2, 0, none⟩) 1 c2] → Calls Tryz.prog 30 #[.agg #[.int .i64 5, .int .i64 0, .string ⟨#[]⟩, .slice none 0 0, .slice none 0 0], .string kByUser, .agg #[.int .i64 5, .int .i64 0, .string ⟨#[]⟩, .slice (some ⟨b1, 0, none⟩) 1 c1, .slice (some ⟨b2, 0, none⟩) 1 c2]] X fun x w' => (∃ b1 c1 b2 c2, x = .returned (.agg #[.int .i64 5, .int .i64 0, .string ⟨#[]⟩, .slice (some ⟨b1, 0, none⟩) (0 + 1) c1, .slice (some ⟨b2, 0, none⟩) (0 + 1) c2]) ∧ isJ (fun b => (wA.heap.size ≤ b ∧ b < X.heap.size) ∨ New X w' b) w' (usersJ s n) [.int .i64 5, .int .i64 0, .string ⟨#[]⟩, .slice (some ⟨b1, 0, none⟩) (0 + 1) c1, .slice (some ⟨b2, 0, none⟩) (0 + 1) c2]) ∧ Below X.heap.size X w') := fun X b1 c1 b2 c2 hj =>
  Pt.rPut_any (O := fun b => wA.heap.size ≤ b ∧ b < X.heap.size) kByUser (fun _ h => h.2) (isJ_empty _ _) hj (fun _ => rfl) (fun _ => rfl) (by omega) (by omega)
 clear hA
 go_enter Tryz.func20, Tryz.ntmps20
 go_upto_region 1 with fail
 rw [← hwA]
 clear hwA
 go_wp2_with (first
  | (go_at_call 41; refine hNum.mono ?_; rintro e w1 ⟨rfl, hb1⟩; have hP := HP.out w1; clear hNum)
  | (go_at_call 30; refine hP.mono ?_; rintro e w2 ⟨⟨b1, c1, b2, c2, rfl, hj2⟩, hb2⟩
     have hbB : Below w2.heap.size w2 (w2.alloc (.cells #[.int .i64 5, .int .i64 0, .string ⟨#[]⟩, .slice (some ⟨b1, 0, none⟩) 1 c1, .slice (some ⟨b2, 0, none⟩) 1 c2] 25)) := (Below.refl _ _).alloc (Nat.le_refl _) _
     have hP2 := HP2.out (w2.alloc (.cells #[.int .i64 5, .int .i64 0, .string ⟨#[]⟩, .slice (some ⟨b1, 0, none⟩) 1 c1, .slice (some ⟨b2, 0, none⟩) 1 c2] 25)) b1 c1 b2 c2 (hj2.carry fun b hb => by
      have hn : New w1 w2 b := hb.elim (fun h => h.elim) (fun h => h)
      exact ⟨⟨Nat.le_trans hb1.size hn.1, Nat.lt_of_lt_of_le hn.2 hbB.size⟩, hbB.block b hn.2⟩)
     clear hP hj2)
  | (go_at_call 30; refine hP2.mono ?_; rintro e w3 ⟨⟨b1', c1', b2', c2', rfl, hj3⟩, hb3⟩
     have hbC : Below wA.heap.size wA w3 := belowP hb1 (belowP hb2 (belowP hbB hb3))
     have hres := (hbC.block _ hsA).trans HA.out
     have i0 := cellP hres 0 _ rfl; have i1 := cellP hres 1 _ rfl; have i2 := cellP hres 2 _ rfl; have i3 := cellP hres 3 _ rfl; have i4 := cellP hres 4 _ rfl
     have z0 := fzP hres 0; have z1 := fzP hres 1; have z2 := fzP hres 2; have z3 := fzP hres 3; have z4 := fzP hres 4
     have HJ3 := (show Hid _ from hj3)
     clear hj3 hP2))
 have h5 := setL_all (b := w.heap.size) [.int .i64 5, .int .i64 0, .string ⟨#[]⟩, .slice (some ⟨b1', 0, none⟩) 1 c1', .slice (some ⟨b2', 0, none⟩) 1 c2'] hres rfl
 have HK5 := setL_keep w.heap.size [.int .i64 5, .int .i64 0, .string ⟨#[]⟩, .slice (some ⟨b1', 0, none⟩) 1 c1', .slice (some ⟨b2', 0, none⟩) 1 c2'] w3 0
 simp only [setL, Nat.zero_add, Nat.reduceAdd] at h5 HK5
 refine bodyPost_ret (resultsP_cell rfl _ _ _ rfl (loadJP h5)) rfl ?_
 have hb := belowP hbA hbC
 refine ⟨⟨_, _, _, _, _, _, _, _, _, rfl, ?_⟩, hb.trans (HK5.below hb.size fun q hq e => by unfold OneP at e; omega)⟩
 refine isJ.carry (fun b hb' => ?_) _ _ HJ3.out
 have hlt : b < w3.heap.size ∧ wA.heap.size ≤ b := by
  have s1 := hb1.size; have s2 := hb2.size; have s3 := hb3.size; have sB := hbB.size
  rcases hb' with h | h
  · exact ⟨Nat.lt_of_lt_of_le h.2 s3, h.1⟩
  · exact ⟨h.2, by have := h.1; omega⟩
 exact ⟨Nat.lt_of_lt_of_le hlt.1 HK5.size, HK5.block b hlt.1 (by unfold OneP; omega)⟩
def sampL : Lv := ⟨50, 50, 0, 50, 50, 0, 0, [(⟨#[64, 97, 58, 115]⟩, 50)], []⟩
theorem samp_parse : parseT (ordT (usersJ ⟨#[64, 97, 58, 115]⟩ 50)) = (sampL, 0) := by kernel_rfl
theorem samp_sz : szJ 12 (usersJ ⟨#[64, 97, 58, 115]⟩ 50) = true := by kernel_rfl
def sampM (x : Int) : Lv := { sampL with byUser := (⟨#[64, 98, 58, 115]⟩, x) :: sampL.byUser }
theorem samp_u1 : usr sampL ⟨#[64, 97, 58, 115]⟩ = 50 := by kernel_rfl
theorem samp_u2 : usr sampL ⟨#[64, 98, 58, 115]⟩ = 0 := by kernel_rfl
theorem samp_m1 : mayL sampL (sampM 51) ⟨#[64, 97, 58, 115]⟩ = false := by kernel_rfl
theorem samp_m2 : mayL sampL (sampM 50) ⟨#[64, 97, 58, 115]⟩ = true := by kernel_rfl
theorem own_new1 {w : World} (s : ByteArray) (x : Int) : (w.alloc (.cells #[.string s, .int .i64 x] 50)).ownsRow w.heap.size 50 2 (.slice (some ⟨w.heap.size, 0, none⟩) 1 1) [(s, x)].length (flatN [(s, x)]) :=
 ⟨rfl, .inr ⟨w.heap.size, 1, _, rfl, Nat.le_refl _, newP _, Nat.le_refl _, by unfold maxLen; omega, rfl, rfl⟩⟩
theorem own_open {w : World} {B : Nat} {v : Value} {l : Nms} (h : w.ownsRow B 50 2 v l.length (flatN l)) : ∃ p c, v = .slice p l.length c ∧ RdN (fun k => B ≤ k ∧ k < w.heap.size) w p c l := own_rdN h
theorem awake_any {w : World} : Calls Tryz.prog 6 #[] w fun e w' => e = .returned (.bool true) ∧ Below w.heap.size w w' := by
 have hUs := users_any (w := w) ⟨#[64, 97, 58, 115]⟩ 50
 have HPa : Hid (∀ X k i t p m c q r d, Below w.heap.size w X → isJ (fun b => b < X.heap.size) X (usersJ ⟨#[64, 97, 58, 115]⟩ 50) [.int .i64 k, .int .i64 i, .string t, .slice p m c, .slice q r d] → Calls Tryz.prog 7 #[.agg #[.int .i64 k, .int .i64 i, .string t, .slice p m c, .slice q r d]] X fun e w' => (∃ p, e = .returned (.tuple #[valL sampL p, .int .i64 0]) ∧ IsL (fun b => X.heap.size ≤ b ∧ b < w'.heap.size) w' sampL p) ∧ Below X.heap.size X w') := fun X k i t p m c q r d _ hj => by
  have h := parse_any hj (fun _ h => h) samp_sz
  rw [samp_parse] at h
  exact h
 go_enter Tryz.func6, Tryz.ntmps6
 go_upto_region 2 with (first
  | (go_at_call 20; refine hUs.mono ?_; rintro e w1 ⟨⟨k, i, t, p, m, c, q, r, d, rfl, hj⟩, hb1⟩; have hPa := HPa.out w1 k i t p m c q r d hb1 hj; clear hj hUs)
  | (go_at_call 7; refine hPa.mono ?_; rintro e w2 ⟨⟨⟨pu, cu, pt, ct⟩, rfl, hIs⟩, hb2⟩; simp only [valL, cellsL, sampL, List.length_cons, List.length_nil, Nat.zero_add]; clear hPa))
 obtain ⟨W1, hW1⟩ : ∃ W1, W1 = w2.alloc (.cells #[.int .i64 50, .int .i64 50, .int .i64 0, .int .i64 50, .int .i64 50, .int .i64 0, .int .i64 0, .slice pu 1 cu, .slice pt 0 ct] 34) := ⟨_, rfl⟩
 rw [← hW1]
 have hB1 : W1.heap[w2.heap.size]? = some (.cells #[.int .i64 50, .int .i64 50, .int .i64 0, .int .i64 50, .int .i64 50, .int .i64 0, .int .i64 0, .slice pu 1 cu, .slice pt 0 ct] 34 (0, 0)) := by rw [hW1]; exact newP _
 have hbW1 : Below w2.heap.size w2 W1 := by rw [hW1]; exact (Below.refl _ _).alloc (Nat.le_refl _) _
 have hs1 : w2.heap.size < W1.heap.size := by rw [hW1]; simp
 have HIS : Hid (IsL (fun b => b < w2.heap.size) w2 sampL ⟨pu, cu, pt, ct⟩) := hIs.carry fun b hb => ⟨hb.2, rfl⟩
 have c0 := cellP hB1 0 _ rfl; have c1 := cellP hB1 1 _ rfl; have c2 := cellP hB1 2 _ rfl; have c3 := cellP hB1 3 _ rfl; have c4 := cellP hB1 4 _ rfl; have c5 := cellP hB1 5 _ rfl; have c6 := cellP hB1 6 _ rfl; have c7 := cellP hB1 7 _ rfl; have c8 := cellP hB1 8 _ rfl
 clear hW1 hIs
 go_upto_region 3 with fail
 clear c0 c1 c2 c3 c4 c5 c6 c7 c8
 obtain ⟨W2, hW2⟩ : ∃ W2, W2 = W1.alloc (.cells #[.int .i64 50, .int .i64 50, .int .i64 0, .int .i64 50, .int .i64 50, .int .i64 0, .int .i64 0, .slice pu 1 cu, .slice pt 0 ct] 34) := ⟨_, rfl⟩
 have hB3 : W2.heap[W1.heap.size]? = some (.cells #[.int .i64 50, .int .i64 50, .int .i64 0, .int .i64 50, .int .i64 50, .int .i64 0, .int .i64 0, .slice pu 1 cu, .slice pt 0 ct] 34 (0, 0)) := by rw [hW2]; exact newP _
 have hbW2 : Below W1.heap.size W1 W2 := by rw [hW2]; exact (Below.refl _ _).alloc (Nat.le_refl _) _
 have hs2 : W1.heap.size < W2.heap.size := by rw [hW2]; simp
 have hB1' := (hbW2.block w2.heap.size (by omega)).trans hB1
 have hb22 : Below w2.heap.size w2 W2 := belowP hbW1 hbW2
 rw [← hW2]
 have y7 := cellP (((Below.refl W2.heap.size W2).alloc (Nat.le_refl _) (.cells #[.string ⟨#[64, 98, 58, 115]⟩, .int .i64 51] 50)).block w2.heap.size (by omega) |>.trans hB1') 7 _ rfl
 have hownA := own_new1 (w := W2) ⟨#[64, 98, 58, 115]⟩ 51
 have hrdA : RdN (fun b => b < w2.heap.size) (W2.alloc (.cells #[.string ⟨#[64, 98, 58, 115]⟩, .int .i64 51] 50)) pu cu [(⟨#[64, 97, 58, 115]⟩, 50)] := (HIS.out.us.below (fun _ h => h) hb22).below (B := W2.heap.size) (w' := W2.alloc (.cells #[.string ⟨#[64, 98, 58, 115]⟩, .int .i64 51] 50)) (fun k hk => by omega) ((Below.refl _ _).alloc (Nat.le_refl _) _)
 have HX3 : Hid (∀ X, (W2.alloc (.cells #[.string ⟨#[64, 98, 58, 115]⟩, .int .i64 51] 50)).grownBy X (some W2.heap.size) → Below W2.heap.size W2 X) := fun X hX => ((Below.refl _ _).alloc (Nat.le_refl _) _).grown hX (by simp) (fun k e => by cases e; exact Nat.le_refl _)
 clear hW2
 go_upto_region 4 with (refine wpList_append_rdN rfl _ _ rfl W2.heap.size _ [(⟨#[64, 98, 58, 115]⟩, 51)] rfl hownA hrdA rfl (by simp) (by simp) (by simp) ?_
                        intro v4 w4 hown4 hg4
                        have hb4 : Below W2.heap.size W2 w4 := HX3.out w4 hg4
                        obtain ⟨q4, d4, hq4, hrd4⟩ := own_open hown4; replace hq4 : v4 = .slice q4 2 d4 := hq4; subst hq4
                        have hB34 := (hb4.block W1.heap.size (by omega)).trans hB3
                        have g7 := cellP hB34 7 _ rfl
                        have f7 := fzP hB34 7
                        clear hown4 hg4)
 clear g7 f7 y7 hownA hrdA
 have hs4 := hb4.size
 obtain ⟨W5, hW5⟩ : ∃ W5, W5 = w4.setCell ⟨W1.heap.size, 7, none⟩ (.slice q4 2 d4) := ⟨_, rfl⟩
 have hB35 : W5.heap[W1.heap.size]? = some (.cells #[.int .i64 50, .int .i64 50, .int .i64 0, .int .i64 50, .int .i64 50, .int .i64 0, .int .i64 0, .slice q4 2 d4, .slice pt 0 ct] 34 (0, 0)) := by
  rw [hW5, heap_setCell_same w4 W1.heap.size 7 _ _ _ hB34]; rfl
 have hs5 : W5.heap.size ≤ w4.heap.size ∧ w4.heap.size ≤ W5.heap.size := by rw [hW5]; simp
 have hk5 : ∀ k, k ≠ W1.heap.size → W5.heap[k]? = w4.heap[k]? := fun k hk => by rw [hW5]; exact Below.heap_setCell _ _ _ _ hk
 have hb5 : Below w2.heap.size w2 W5 := by rw [hW5]; exact (belowP hb22 hb4).setCell (p := ⟨W1.heap.size, 7, none⟩) (by simp; omega) _
 have hB15 : W5.heap[w2.heap.size]? = some (.cells #[.int .i64 50, .int .i64 50, .int .i64 0, .int .i64 50, .int .i64 50, .int .i64 0, .int .i64 0, .slice pu 1 cu, .slice pt 0 ct] 34 (0, 0)) := (hk5 _ (by omega)).trans ((hb4.block _ (by omega)).trans hB1')
 have hrd5 : RdN (fun k => k < W5.heap.size ∧ k ≠ W1.heap.size) W5 q4 d4 [(⟨#[64, 98, 58, 115]⟩, 51), (⟨#[64, 97, 58, 115]⟩, 50)] := RdN.carry hrd4 fun k hk => ⟨⟨by omega, by omega⟩, hk5 k (by omega)⟩
 have HR5 := (show Hid _ from hrd5)
 have c0 := cellP hB15 0 _ rfl; have c1 := cellP hB15 1 _ rfl; have c2 := cellP hB15 2 _ rfl; have c3 := cellP hB15 3 _ rfl; have c4 := cellP hB15 4 _ rfl; have c5 := cellP hB15 5 _ rfl; have c6 := cellP hB15 6 _ rfl; have c7 := cellP hB15 7 _ rfl; have c8 := cellP hB15 8 _ rfl
 rw [← hW5]
 clear hW5 hB34 hB3 hB1 hB1' hrd4 hrd5
 go_upto_region 5 with fail
 clear c0 c1 c2 c3 c4 c5 c6 c7 c8
 obtain ⟨W6, hW6⟩ : ∃ W6, W6 = W5.alloc (.cells #[.int .i64 50, .int .i64 50, .int .i64 0, .int .i64 50, .int .i64 50, .int .i64 0, .int .i64 0, .slice pu 1 cu, .slice pt 0 ct] 34) := ⟨_, rfl⟩
 have hbW6 : Below W5.heap.size W5 W6 := by rw [hW6]; exact (Below.refl _ _).alloc (Nat.le_refl _) _
 have hs6 : W5.heap.size < W6.heap.size := by rw [hW6]; simp
 have hB46 : W6.heap[W5.heap.size]? = some (.cells #[.int .i64 50, .int .i64 50, .int .i64 0, .int .i64 50, .int .i64 50, .int .i64 0, .int .i64 0, .slice pu 1 cu, .slice pt 0 ct] 34 (0, 0)) := by rw [hW6]; exact newP _
 have hB16 := (hbW6.block w2.heap.size (by omega)).trans hB15
 have hB36 := (hbW6.block W1.heap.size (by omega)).trans hB35
 have hb26 : Below w2.heap.size w2 W6 := belowP hb5 hbW6
 rw [← hW6]
 have y7 := cellP (((Below.refl W6.heap.size W6).alloc (Nat.le_refl _) (.cells #[.string ⟨#[64, 98, 58, 115]⟩, .int .i64 50] 50)).block w2.heap.size (by omega) |>.trans hB16) 7 _ rfl
 have hownA := own_new1 (w := W6) ⟨#[64, 98, 58, 115]⟩ 50
 have hrdA : RdN (fun b => b < w2.heap.size) (W6.alloc (.cells #[.string ⟨#[64, 98, 58, 115]⟩, .int .i64 50] 50)) pu cu [(⟨#[64, 97, 58, 115]⟩, 50)] := (HIS.out.us.below (fun _ h => h) hb26).below (B := W6.heap.size) (w' := W6.alloc (.cells #[.string ⟨#[64, 98, 58, 115]⟩, .int .i64 50] 50)) (fun k hk => by have := hb26.size; omega) ((Below.refl _ _).alloc (Nat.le_refl _) _)
 have HX6 : Hid (∀ X, (W6.alloc (.cells #[.string ⟨#[64, 98, 58, 115]⟩, .int .i64 50] 50)).grownBy X (some W6.heap.size) → Below W6.heap.size W6 X) := fun X hX => ((Below.refl _ _).alloc (Nat.le_refl _) _).grown hX (by simp) (fun k e => by cases e; exact Nat.le_refl _)
 clear hW6
 go_upto_region 6 with (refine wpList_append_rdN rfl _ _ rfl W6.heap.size _ [(⟨#[64, 98, 58, 115]⟩, 50)] rfl hownA hrdA rfl (by simp) (by simp) (by simp) ?_
                        intro v7 w7 hown7 hg7
                        have hb7 : Below W6.heap.size W6 w7 := HX6.out w7 hg7
                        obtain ⟨q7, d7, hq7, hrd7⟩ := own_open hown7; replace hq7 : v7 = .slice q7 2 d7 := hq7; subst hq7
                        have hB47 := (hb7.block W5.heap.size (by omega)).trans hB46
                        have g7 := cellP hB47 7 _ rfl
                        have f7 := fzP hB47 7
                        clear hown7 hg7)
 clear g7 f7 y7 hownA hrdA
 have hs7 := hb7.size
 obtain ⟨W8, hW8⟩ : ∃ W8, W8 = w7.setCell ⟨W5.heap.size, 7, none⟩ (.slice q7 2 d7) := ⟨_, rfl⟩
 have hB48 : W8.heap[W5.heap.size]? = some (.cells #[.int .i64 50, .int .i64 50, .int .i64 0, .int .i64 50, .int .i64 50, .int .i64 0, .int .i64 0, .slice q7 2 d7, .slice pt 0 ct] 34 (0, 0)) := by
  rw [hW8, heap_setCell_same w7 W5.heap.size 7 _ _ _ hB47]; rfl
 have hs8 : W8.heap.size ≤ w7.heap.size ∧ w7.heap.size ≤ W8.heap.size := by rw [hW8]; simp
 have hk8 : ∀ k, k ≠ W5.heap.size → W8.heap[k]? = w7.heap[k]? := fun k hk => by rw [hW8]; exact Below.heap_setCell _ _ _ _ hk
 have hb8 : Below w2.heap.size w2 W8 := by rw [hW8]; exact (belowP hb26 hb7).setCell (p := ⟨W5.heap.size, 7, none⟩) (by have := hb5.size; simp; omega) _
 have hb58 : ∀ k, k < W5.heap.size → W8.heap[k]? = W5.heap[k]? := fun k hk => (hk8 k (by omega)).trans ((hb7.block k (by omega)).trans (hbW6.block k hk))
 have hB18 : W8.heap[w2.heap.size]? = some (.cells #[.int .i64 50, .int .i64 50, .int .i64 0, .int .i64 50, .int .i64 50, .int .i64 0, .int .i64 0, .slice pu 1 cu, .slice pt 0 ct] 34 (0, 0)) := (hb58 _ (by omega)).trans hB15
 have hB38 : W8.heap[W1.heap.size]? = some (.cells #[.int .i64 50, .int .i64 50, .int .i64 0, .int .i64 50, .int .i64 50, .int .i64 0, .int .i64 0, .slice q4 2 d4, .slice pt 0 ct] 34 (0, 0)) := (hb58 _ (by omega)).trans hB35
 have HB8 : Hid (∀ X, Below W8.heap.size W8 X → X.heap[w2.heap.size]? = some (.cells #[.int .i64 50, .int .i64 50, .int .i64 0, .int .i64 50, .int .i64 50, .int .i64 0, .int .i64 0, .slice pu 1 cu, .slice pt 0 ct] 34 (0, 0)) ∧ X.heap[W1.heap.size]? = some (.cells #[.int .i64 50, .int .i64 50, .int .i64 0, .int .i64 50, .int .i64 50, .int .i64 0, .int .i64 0, .slice q4 2 d4, .slice pt 0 ct] 34 (0, 0)) ∧ X.heap[W5.heap.size]? = some (.cells #[.int .i64 50, .int .i64 50, .int .i64 0, .int .i64 50, .int .i64 50, .int .i64 0, .int .i64 0, .slice q7 2 d7, .slice pt 0 ct] 34 (0, 0))) := fun X hX => ⟨(hX.block _ (objP_lt hB18)).trans hB18, (hX.block _ (objP_lt hB38)).trans hB38, (hX.block _ (objP_lt hB48)).trans hB48⟩
 have HI0 : Hid (∀ X, Below W8.heap.size W8 X → IsL (fun k => k < W8.heap.size) X sampL ⟨pu, cu, pt, ct⟩) := fun X hX => (HIS.out.carry (O' := fun k => k < W8.heap.size) (w' := W8) fun k hk => ⟨Nat.lt_of_lt_of_le hk hb8.size, hb8.block k hk⟩).below (fun _ h => h) hX
 have HI1 : Hid (∀ X, Below W8.heap.size W8 X → IsL (fun k => k < W8.heap.size) X (sampM 51) ⟨q4, d4, pt, ct⟩) := fun X hX => ⟨(RdN.carry HR5.out (O' := fun k => k < W8.heap.size) (w' := W8) fun k hk => ⟨by have := hk.1; omega, hb58 k hk.1⟩).below (fun _ h => h) hX, (HI0.out X hX).ty⟩
 have HI2 : Hid (∀ X, Below W8.heap.size W8 X → IsL (fun k => k < W8.heap.size) X (sampM 50) ⟨q7, d7, pt, ct⟩) := fun X hX => ⟨(RdN.carry hrd7 (O' := fun k => k < W8.heap.size) (w' := W8) fun k hk => ⟨by omega, hk8 k (by omega)⟩).below (fun _ h => h) hX, (HI0.out X hX).ty⟩
 have HBE : Hid (Below w.heap.size w W8) := belowP (belowP hb1 hb2) hb8
 rw [← hW8]
 have hsL : SzL sampL := ⟨⟨by decide, fun p hp => by simp [sampL] at hp; subst hp; decide⟩, ⟨by decide, fun p hp => by simp [sampL] at hp⟩⟩
 have hsM : ∀ x, SzL (sampM x) := fun x => ⟨⟨by show 2 ≤ _; omega, fun p hp => by simp [sampM, sampL] at hp; rcases hp with rfl | rfl <;> simp [ByteArray.size]⟩, ⟨by show 0 ≤ _; omega, fun p hp => by simp [sampM, sampL] at hp⟩⟩
 have HU : Hid (∀ X s, Below W8.heap.size W8 X → Calls Tryz.prog 21 #[.agg #[.int .i64 50, .int .i64 50, .int .i64 0, .int .i64 50, .int .i64 50, .int .i64 0, .int .i64 0, .slice pu 1 cu, .slice pt 0 ct], .string s] X fun e w' => e = .returned (.int .i64 (usr sampL s)) ∧ Below X.heap.size X w') := fun X s hX => user_lv (HI0.out X hX) (fun k hk => Nat.lt_of_lt_of_le hk hX.size) hsL s
 have HM1 : Hid (∀ X, Below W8.heap.size W8 X → Calls Tryz.prog 22 #[.agg #[.int .i64 50, .int .i64 50, .int .i64 0, .int .i64 50, .int .i64 50, .int .i64 0, .int .i64 0, .slice pu 1 cu, .slice pt 0 ct], .agg #[.int .i64 50, .int .i64 50, .int .i64 0, .int .i64 50, .int .i64 50, .int .i64 0, .int .i64 0, .slice q4 2 d4, .slice pt 0 ct], .string ⟨#[64, 97, 58, 115]⟩] X fun e w' => e = .returned (.bool false) ∧ Below X.heap.size X w') := fun X hX => by
  have h := may_lv (HI0.out X hX) (HI1.out X hX) (fun k hk => Nat.lt_of_lt_of_le hk hX.size) hsL (hsM 51) ⟨#[64, 97, 58, 115]⟩
  rw [samp_m1] at h
  exact h
 have HM2 : Hid (∀ X, Below W8.heap.size W8 X → Calls Tryz.prog 22 #[.agg #[.int .i64 50, .int .i64 50, .int .i64 0, .int .i64 50, .int .i64 50, .int .i64 0, .int .i64 0, .slice pu 1 cu, .slice pt 0 ct], .agg #[.int .i64 50, .int .i64 50, .int .i64 0, .int .i64 50, .int .i64 50, .int .i64 0, .int .i64 0, .slice q7 2 d7, .slice pt 0 ct], .string ⟨#[64, 97, 58, 115]⟩] X fun e w' => e = .returned (.bool true) ∧ Below X.heap.size X w') := fun X hX => by
  have h := may_lv (HI0.out X hX) (HI2.out X hX) (fun k hk => Nat.lt_of_lt_of_le hk hX.size) hsL (hsM 50) ⟨#[64, 97, 58, 115]⟩
  rw [samp_m2] at h
  exact h
 obtain ⟨e1, e3, e4⟩ := HB8.out W8 (Below.refl _ _)
 have c0 := cellP e1 0 _ rfl; have c1 := cellP e1 1 _ rfl; have c2 := cellP e1 2 _ rfl; have c3 := cellP e1 3 _ rfl; have c4 := cellP e1 4 _ rfl; have c5 := cellP e1 5 _ rfl; have c6 := cellP e1 6 _ rfl; have c7 := cellP e1 7 _ rfl; have c8 := cellP e1 8 _ rfl
 have hU1 := HU.out W8 ⟨#[64, 97, 58, 115]⟩ (Below.refl _ _)
 rw [samp_u1] at hU1
 clear hW8 hB47 hB46 hB48 hrd7 hB16 hB36 hB15 hB35 hB18 hB38 e1 e3 e4
 go_wp2_with (first
  | (go_at_call 21; refine hU1.mono ?_; rintro e x1 ⟨rfl, hx1⟩
     obtain ⟨e1, e3, e4⟩ := HB8.out x1 hx1
     clear c0 c1 c2 c3 c4 c5 c6 c7 c8
     have c0 := cellP e1 0 _ rfl; have c1 := cellP e1 1 _ rfl; have c2 := cellP e1 2 _ rfl; have c3 := cellP e1 3 _ rfl; have c4 := cellP e1 4 _ rfl; have c5 := cellP e1 5 _ rfl; have c6 := cellP e1 6 _ rfl; have c7 := cellP e1 7 _ rfl; have c8 := cellP e1 8 _ rfl
     have hU2 := HU.out x1 ⟨#[64, 98, 58, 115]⟩ hx1
     rw [samp_u2] at hU2
     clear hU1 e1 e3 e4)
  | (go_at_call 21; refine hU2.mono ?_; rintro e x2 ⟨rfl, hx2⟩
     have hX2 : Below W8.heap.size W8 x2 := belowP hx1 hx2
     obtain ⟨e1, e3, e4⟩ := HB8.out x2 hX2
     clear c0 c1 c2 c3 c4 c5 c6 c7 c8
     have c0 := cellP e1 0 _ rfl; have c1 := cellP e1 1 _ rfl; have c2 := cellP e1 2 _ rfl; have c3 := cellP e1 3 _ rfl; have c4 := cellP e1 4 _ rfl; have c5 := cellP e1 5 _ rfl; have c6 := cellP e1 6 _ rfl; have c7 := cellP e1 7 _ rfl; have c8 := cellP e1 8 _ rfl
     have d0 := cellP e3 0 _ rfl; have d1 := cellP e3 1 _ rfl; have d2 := cellP e3 2 _ rfl; have d3 := cellP e3 3 _ rfl; have d4 := cellP e3 4 _ rfl; have d5 := cellP e3 5 _ rfl; have d6 := cellP e3 6 _ rfl; have d7 := cellP e3 7 _ rfl; have d8 := cellP e3 8 _ rfl
     have hM1 := HM1.out x2 hX2
     clear hU2 e1 e3 e4)
  | (go_at_call 22; refine hM1.mono ?_; rintro e x3 ⟨rfl, hx3⟩
     have hX3 : Below W8.heap.size W8 x3 := belowP hX2 hx3
     obtain ⟨e1, e3, e4⟩ := HB8.out x3 hX3
     clear c0 c1 c2 c3 c4 c5 c6 c7 c8 d0 d1 d2 d3 d4 d5 d6 d7 d8
     have c0 := cellP e1 0 _ rfl; have c1 := cellP e1 1 _ rfl; have c2 := cellP e1 2 _ rfl; have c3 := cellP e1 3 _ rfl; have c4 := cellP e1 4 _ rfl; have c5 := cellP e1 5 _ rfl; have c6 := cellP e1 6 _ rfl; have c7 := cellP e1 7 _ rfl; have c8 := cellP e1 8 _ rfl
     have d0 := cellP e4 0 _ rfl; have d1 := cellP e4 1 _ rfl; have d2 := cellP e4 2 _ rfl; have d3 := cellP e4 3 _ rfl; have d4 := cellP e4 4 _ rfl; have d5 := cellP e4 5 _ rfl; have d6 := cellP e4 6 _ rfl; have d7 := cellP e4 7 _ rfl; have d8 := cellP e4 8 _ rfl
     have hM2 := HM2.out x3 hX3
     clear hM1 e1 e3 e4)
  | (go_at_call 22; refine hM2.mono ?_; rintro e x4 ⟨rfl, hx4⟩))
 go_ret
 exact ⟨rfl, belowP HBE.out (belowP hX3 hx4)⟩
def TinyJ (j : J) : Prop := j.ks.length ≤ 100 ∧ j.ls.length ≤ 200
def LeftsP (d : Nat) : Prop := ∀ (w : World) (O : Nat → Prop) (j : J) (k i deep n : Int) (t : ByteArray) (pk pl : Option Addr) (nk ck nl cl : Nat), (∀ x, O x → x < w.heap.size) → deep = (d : Int) → d ≤ 100 → 0 ≤ n → n ≤ 100000 →
 isJ O w j [.int .i64 k, .int .i64 i, .string t, .slice pk nk ck, .slice pl nl cl] →
 Calls Tryz.prog 10 #[.agg #[.int .i64 k, .int .i64 i, .string t, .slice pk nk ck, .slice pl nl cl], .int .i64 n, .int .i64 deep] w fun x w' => (∃ r : Int, x = .returned (.int .i64 r) ∧ r ≤ n ∧ -1 ≤ r ∧ (0 ≤ r → szJ d j = true ∧ TinyJ j)) ∧ Below w.heap.size w w'
theorem pleft_zero : LeftsP 0 := by
 intro w O j k i deep n t pk pl nk ck nl cl hO hdeep _ h0 hn _
 subst hdeep
 have hbA : Below w.heap.size w (w.alloc (.cells #[.int .i64 k, .int .i64 i, .string t, .slice pk nk ck, .slice pl nl cl] 25)) := (Below.refl _ _).alloc (Nat.le_refl _) _
 by_cases h1 : n < 1
 · go_enter Tryz.func10, Tryz.ntmps10
   go_wp2
   go_ret
   exact ⟨⟨-1, rfl, by omega, by omega, fun h => absurd h (by decide)⟩, hbA⟩
 · go_enter Tryz.func10, Tryz.ntmps10
   go_wp2
   go_ret
   exact ⟨⟨-1, rfl, by omega, by omega, fun h => absurd h (by decide)⟩, hbA⟩
theorem pleft_step {d : Nat} (V : LeftsP d) : LeftsP (d + 1) := by
 intro w O j k i deep n t pk pl nk ck nl cl hO hdeep hd h0 hn hj
 obtain ⟨kx, ix, tx, ks, l⟩ := j
 unfold isJ at hj
 obtain ⟨pk', ck', pl', cl', e, hk, hl, hs⟩ := hj
 simp only [List.cons.injEq, Value.int.injEq, Value.string.injEq, Value.slice.injEq, true_and, and_true] at e
 obtain ⟨rfl, rfl, rfl, ⟨rfl, rfl, rfl⟩, rfl, rfl, rfl⟩ := e
 have hd1 : 1 ≤ deep := by omega
 have hd2 : deep ≤ 101 := by omega
 have HD : Hid (deep - 1 = (d : Int)) := by show _ = _; omega
 have HDL : Hid (d ≤ 100) := by show _ ≤ _; omega
 clear hdeep hd
 obtain ⟨nk, hnk⟩ : ∃ n, ks.length = n := ⟨_, rfl⟩
 obtain ⟨nl, hnl⟩ : ∃ n, l.length = n := ⟨_, rfl⟩
 have HNK : Hid (ks.length = nk) := hnk
 have HNL : Hid (l.length = nl) := hnl
 have hck := hk.1
 rw [hnk] at hck ⊢
 rw [hnl] at hl ⊢
 clear hnk hnl
 have hbA : Below w.heap.size w (w.alloc (.cells #[.int .i64 k, .int .i64 i, .string t, .slice pk nk ck, .slice pl nl cl] 25)) := (Below.refl _ _).alloc (Nat.le_refl _) _
 have neg : ∀ (w' : World) (x : Ending), x = .returned (.int .i64 (-1)) → Below w.heap.size w w' → (∃ r : Int, x = .returned (.int .i64 r) ∧ r ≤ n ∧ -1 ≤ r ∧ (0 ≤ r → szJ (d + 1) (.mk k i t ks l) = true ∧ TinyJ (.mk k i t ks l))) ∧ Below w.heap.size w w' := fun w' x hx hb => ⟨⟨-1, hx, by omega, by omega, fun h => absurd h (by decide)⟩, hb⟩
 have HNEG : Hid (∀ (w' : World) (x : Ending), x = .returned (.int .i64 (-1)) → Below w.heap.size w w' → (∃ r : Int, x = .returned (.int .i64 r) ∧ r ≤ n ∧ -1 ≤ r ∧ (0 ≤ r → szJ (d + 1) (.mk k i t ks l) = true ∧ TinyJ (.mk k i t ks l))) ∧ Below w.heap.size w w') := neg
 clear neg
 by_cases h1 : n < 1
 · go_enter Tryz.func10, Tryz.ntmps10
   go_wp2
   go_ret
   exact HNEG.out _ _ rfl hbA
 by_cases h2 : (500 : Int) < t.size
 · go_enter Tryz.func10, Tryz.ntmps10
   go_wp2
   go_ret
   exact HNEG.out _ _ rfl hbA
 by_cases h3 : (100 : Int) < nk
 · go_enter Tryz.func10, Tryz.ntmps10
   go_wp2
   go_ret
   exact HNEG.out _ _ rfl hbA
 by_cases h4 : (200 : Int) < nl
 · go_enter Tryz.func10, Tryz.ntmps10
   go_wp2
   go_ret
   exact HNEG.out _ _ rfl hbA
 obtain ⟨wB, hwB⟩ : ∃ wB, wB = w.alloc (.cells #[.int .i64 k, .int .i64 i, .string t, .slice pk nk ck, .slice pl nl cl] 25) := ⟨_, rfl⟩
 have hA : wB.heap[w.heap.size]? = some (.cells #[.int .i64 k, .int .i64 i, .string t, .slice pk nk ck, .slice pl nl cl] 25 (0, 0)) := by rw [hwB]; exact heap_alloc_new _ _
 have hsB : w.heap.size < wB.heap.size := (Array.getElem?_eq_some_iff.1 hA).1
 rw [← hwB] at hbA
 have HCA : Hid (∀ W : World, Below wB.heap.size wB W → ∀ n v, [Value.int .i64 k, .int .i64 i, .string t, .slice pk nk ck, .slice pl nl cl][n]? = some v → W.cell? ⟨w.heap.size, n, none⟩ = some v) := fun W hW n v hv =>
  (World.cell?_of_block (a := ⟨w.heap.size, n, none⟩) (hW.block w.heap.size hsB)).trans (cell_row (cur := [.int .i64 k, .int .i64 i, .string t, .slice pk nk ck, .slice pl nl cl]) hA n v hv)
 go_enter Tryz.func10, Tryz.ntmps10
 go_wp2
 rw [← hwB]
 clear hwB hA
 go_loopw [7] (fun v wr => ∃ m : Nat, v = .int .i64 m ∧ m ≤ nk ∧ Hid (∀ x, x < m → (ks.getD x nix).size ≤ 200) ∧ wr = wB) (fun v _ => nk - (intOf v).toNat)
 case atStart => exact ⟨0, rfl, Nat.zero_le _, fun m hm => absurd hm (by omega), rfl⟩
 case round =>
  obtain ⟨m, rfl, hm, HE, rfl⟩ := hrel
  have a3 := HCA.out wr (Below.refl _ _) 3 _ rfl
  by_cases hmk : m < nk
  · have hmi : (m : Int) < (nk : Int) := by omega
    obtain ⟨ka, hpk, hOa, hcka⟩ := hk.2 m (by rw [HNK.out]; exact hmk)
    subst hpk
    have hKA : wr.cell? (ka.add m) = some (.string (ks.getD m nix)) := (World.cell?_of_block (by rw [add_block]; exact hbA.block _ (hO _ hOa))).trans hcka
    obtain ⟨u, hu⟩ : ∃ u, ks.getD m nix = u := ⟨_, rfl⟩
    have HU : Hid (ks.getD m nix = u) := hu
    rw [hu] at hKA
    clear hu hcka
    by_cases hus : (200 : Int) < u.size
    · go_wp2
      go_ret
      exact HNEG.out _ _ rfl hbA
    · go_wp2
      go_roundw
      case rel => exact ⟨m + 1, by go_num, hmk, fun x hx => (Nat.lt_succ_iff_lt_or_eq.1 hx).elim (HE.out x) fun e => by rw [e, HU.out]; omega, trivial⟩
      case measure => simp [intOf]; omega
  · obtain rfl : m = nk := by omega
    have HKS : Hid (ks.all (fun k => decide (k.size ≤ 1000000000)) = true) := by
     show _ = _
     rw [List.all_eq_true]
     intro x hx
     obtain ⟨y, hy, rfl⟩ := List.getElem_of_mem hx
     have := HE.out y (by rw [← HNK.out]; exact hy)
     rw [key_getD hy] at this
     exact decide_eq_true (by omega)
    go_wp2
    go_loopw [1, 8] (fun u v w2 => ∃ (m : Nat) (r : Int), v = .int .i64 m ∧ u = .int .i64 r ∧ m ≤ nl ∧ r ≤ n - 1 ∧ -1 ≤ r ∧ Hid (0 ≤ r → (l.take m).all (szJ d) = true) ∧ Below wr.heap.size wr w2) (fun _ v _ => nl - (intOf v).toNat)
    case atStart => exact ⟨0, n - 1, rfl, rfl, Nat.zero_le _, by omega, by omega, fun _ => rfl, Below.refl _ _⟩
    case round =>
     obtain ⟨m', r, rfl, rfl, hm', hrn, hr0, HT, hb2⟩ := hrel
     have a4 := HCA.out wr hb2 4 _ rfl
     by_cases hml : m' < nl
     · have hmi : (m' : Int) < (nl : Int) := by omega
       by_cases hr : 0 ≤ r
       · have hml1 : m' < l.length := by rw [HNL.out]; exact hml
         have HML : Hid (m' < l.length) := hml1
         obtain ⟨lb, lo, cs, hpl, hOl, hcells, hyj⟩ := isJs.at l 0 m' hs hml1
         subst hpl
         obtain ⟨x0, x1, x2, p3, n3, c3, p4, n4, c4, rfl⟩ := isJ_shape hyj
         have hblk := (hb2.block lb (by have := hO _ hOl; omega)).trans (hbA.block lb (hO _ hOl))
         have cc : ∀ m v, [Value.int .i64 x0, .int .i64 x1, .string x2, .slice p3 n3 c3, .slice p4 n4 c4][m]? = some v → wr.cell? ⟨lb, lo + m' * 5 + m, none⟩ = some v := fun m v h => by
          have := hcells m v h
          rw [Nat.zero_add] at this
          exact (World.cell?_of_block (a := ⟨lb, lo + m' * 5 + m, none⟩) hblk).trans this
         have y0 : wr.cell? ⟨lb, lo + m' * 5, none⟩ = some (.int .i64 x0) := cc 0 _ rfl
         have y1 := cc 1 _ rfl
         have y2 := cc 2 _ rfl
         have y3 := cc 3 _ rfl
         have y4 := cc 4 _ rfl
         have hB2 := below_cat hbA (by omega) hb2
         have hV := V wr O (l.getD m' J.zero) x0 x1 (deep - 1) r x2 p3 p4 n3 c3 n4 c4 (fun b hb => Nat.lt_of_lt_of_le (hO b hb) hB2.size) HD.out HDL.out hr (by omega) (hyj.carry fun b hb => ⟨hb, hB2.block b (hO b hb)⟩)
         clear cc hcells hml1 hyj hblk
         go_wp2_with (go_at_call 10; refine hV.mono ?_; rintro x w4 ⟨⟨r4, rfl, hr4, hr5, hr6⟩, hb4⟩)
         go_roundw
         case rel => exact ⟨m' + 1, r4, by go_num, rfl, hml, by omega, hr5, fun h => by rw [all_take HML.out, HT.out hr, (hr6 h).1]; rfl, below_cat hb2 hb2.size hb4⟩
         case measure => simp [intOf]; omega
       · go_wp2
         go_ret
         refine ⟨⟨r, rfl, by omega, hr0, fun h => absurd h (by omega)⟩, below_cat hbA (by omega) hb2⟩
     · obtain rfl : m' = nl := by omega
       go_wp2
       go_ret
       refine ⟨⟨r, rfl, by omega, hr0, fun h => ?_⟩, below_cat hbA (by omega) hb2⟩
       have ht := HT.out h
       rw [List.take_of_length_le (by rw [HNL.out]; omega)] at ht
       refine ⟨?_, by show ks.length ≤ 100; rw [HNK.out]; omega, by show l.length ≤ 200; rw [HNL.out]; omega⟩
       unfold szJ
       rw [HKS.out, ht, HNK.out, HNL.out, decide_eq_true (show t.size ≤ 1000000000 by omega), decide_eq_true (show m ≤ 100000 by omega), decide_eq_true (show m' ≤ 100000 by omega)]
       rfl
theorem plefts : ∀ d, LeftsP d
 | 0 => pleft_zero
 | d + 1 => pleft_step (plefts d)
def SmallP (w w' : World) (j : J) (x : Ending) : Prop := (x = .returned (.bool false) ∨ (x = .returned (.bool true) ∧ szJ 15 j = true ∧ TinyJ j)) ∧ Below w.heap.size w w'
theorem small_any {w : World} {O : Nat → Prop} {j : J} {k i : Int} {t : ByteArray} {pk pl : Option Addr} {nk ck nl cl : Nat} (hO : ∀ x, O x → x < w.heap.size) (hj : isJ O w j [.int .i64 k, .int .i64 i, .string t, .slice pk nk ck, .slice pl nl cl]) :
    Calls Tryz.prog 4 #[.agg #[.int .i64 k, .int .i64 i, .string t, .slice pk nk ck, .slice pl nl cl]] w fun x w' => SmallP w w' j x := by
 have hbA : Below w.heap.size w (w.alloc (.cells #[.int .i64 k, .int .i64 i, .string t, .slice pk nk ck, .slice pl nl cl] 25)) := (Below.refl _ _).alloc (Nat.le_refl _) _
 have hV := plefts 15 (w.alloc (.cells #[.int .i64 k, .int .i64 i, .string t, .slice pk nk ck, .slice pl nl cl] 25)) O j k i 15 200 t pk pl nk ck nl cl (fun b hb => Nat.lt_of_lt_of_le (hO b hb) hbA.size) rfl (by decide) (by decide) (by decide) (hj.carry fun b hb => ⟨hb, hbA.block b (hO b hb)⟩)
 go_enter Tryz.func4, Tryz.ntmps4
 go_wp2_with (go_at_call 10; refine hV.mono ?_; rintro x w4 ⟨⟨r4, rfl, hr4, hr5, hr6⟩, hb4⟩)
 go_ret
 refine ⟨?_, below_in hbA hb4⟩
 by_cases h : 0 ≤ r4
 · exact .inr ⟨by simp [h], hr6 h⟩
 · exact .inl (by simp [h])
theorem small12 {j : J} (h : szJ 15 j = true) : szJ 12 j = true := sz_less 12 15 j (by decide) h
abbrev evP (c : J) : Ev := ⟨⟨#[33, 114, 58, 115]⟩, tPower, ⟨#[64, 97, 58, 115]⟩, true, ⟨#[]⟩, c, [], [], 0, 0, ⟨#[]⟩, []⟩
theorem evP_sz {c : J} (h : szJ 12 c = true) : SzE (evP c) :=
 ⟨by show ByteArray.size ⟨#[33, 114, 58, 115]⟩ ≤ _; decide, by show ByteArray.size tPower ≤ _; decide, by show ByteArray.size ⟨#[64, 97, 58, 115]⟩ ≤ _; decide, by show ByteArray.size ⟨#[]⟩ ≤ _; decide, by show ByteArray.size ⟨#[]⟩ ≤ _; decide, h, by simp, fun x hx => absurd hx (by simp), by simp, fun x hx => absurd hx (by simp), by simp, fun x hx => absurd hx (by simp)⟩
theorem evP_is {O : Nat → Prop} {w : World} {c : J} {pk pl : Option Addr} {ck cl : Nat} (h : isJ O w c [.int .i64 c.kind, .int .i64 c.int, .string c.text, .slice pk c.keys.length ck, .slice pl c.list.length cl]) : IsE O w (evP c) ⟨pk, ck, pl, cl, none, 0, none, 0, none, 0⟩ :=
 ⟨h, RdK.nil _ _, RdK.nil _ _, RdS.nil _ _ _ _⟩
theorem evP_typ (c : J) : eqT (evP c).typ tPower = true := by show eqT tPower tPower = true; unfold eqT; exact beq_self_eq_true _
theorem is_five {O : Nat → Prop} {w : World} {c : J} {k i : Int} {t : ByteArray} {pk pl : Option Addr} {nk ck nl cl : Nat} (h : isJ O w c [.int .i64 k, .int .i64 i, .string t, .slice pk nk ck, .slice pl nl cl]) : k = c.kind ∧ i = c.int ∧ t = c.text ∧ nk = c.keys.length ∧ nl = c.list.length := by
 obtain ⟨kx, ix, tx, ks, l⟩ := c
 unfold isJ at h
 obtain ⟨pk', ck', pl', cl', e, _⟩ := h
 simp only [List.cons.injEq, Value.int.injEq, Value.string.injEq, Value.slice.injEq, true_and, and_true] at e
 obtain ⟨rfl, rfl, rfl, ⟨_, rfl, _⟩, _, rfl, _⟩ := e
 exact ⟨rfl, rfl, rfl, rfl, rfl⟩
theorem red_szC {e : Ev} (h : shapedE e = true) (hz : SzE e) : szJ 12 (redT e).content = true := by
 obtain ⟨hc, hg⟩ := red_content h
 have hk := keys_len e.typ
 have hs : szJ 12 (ord (keptT (keysT e.typ) e.content)) = true := szP_ord 12 _ (good_up 11 _ hg) (red_szJ (d := 11) hz.cont (Nat.le_trans hk.1 (by decide)) fun k hk2 => Nat.le_trans (hk.2 k hk2) (by decide))
 rw [hc]
 exact hs
theorem run_content (w : World) (e : Ev) (p : Pt) : (Instr.field 29 (valE e p) 5).run Tryz.prog w = .ok (.agg (five e.content p).toArray) w := by kernel_rfl
theorem powerRedacts_any {w : World} {c : J} {k i : Int} {t : ByteArray} {pk pl : Option Addr} {nk ck nl cl : Nat} (hj0 : isJ (· < w.heap.size) w c [.int .i64 k, .int .i64 i, .string t, .slice pk nk ck, .slice pl nl cl]) :
    Calls Tryz.prog 3 #[.agg #[.int .i64 k, .int .i64 i, .string t, .slice pk nk ck, .slice pl nl cl]] w fun e w' => e = .returned (.bool true) ∧ Below w.heap.size w w' := by
 obtain ⟨rfl, rfl, rfl, rfl, rfl⟩ := is_five hj0
 have hj := hj0
 clear hj0
 obtain ⟨W0, hW0⟩ : ∃ W0, W0 = w.alloc (.cells #[.int .i64 c.kind, .int .i64 c.int, .string c.text, .slice pk c.keys.length ck, .slice pl c.list.length cl] 25) := ⟨_, rfl⟩
 have hb0 : Below w.heap.size w W0 := by rw [hW0]; exact (Below.refl _ _).alloc (Nat.le_refl _) _
 have hX0 : W0.heap[w.heap.size]? = some (.cells #[.int .i64 c.kind, .int .i64 c.int, .string c.text, .slice pk c.keys.length ck, .slice pl c.list.length cl] 25 (0, 0)) := by rw [hW0]; exact newP _
 have hlt0 := objP_lt hX0
 have HX : Hid (∀ X, Below W0.heap.size W0 X → X.heap[w.heap.size]? = some (.cells #[.int .i64 c.kind, .int .i64 c.int, .string c.text, .slice pk c.keys.length ck, .slice pl c.list.length cl] 25 (0, 0))) := fun X hX => (hX.block _ hlt0).trans hX0
 have HJ : Hid (∀ X, Below W0.heap.size W0 X → isJ (· < w.heap.size) X c [.int .i64 c.kind, .int .i64 c.int, .string c.text, .slice pk c.keys.length ck, .slice pl c.list.length cl]) := fun X hX => hj.carry fun b hb => ⟨hb, (belowP hb0 hX).block b hb⟩
 have HO : Hid (∀ X, Below W0.heap.size W0 X → ∀ b, b < w.heap.size → b < X.heap.size) := fun X hX b hb => Nat.lt_of_lt_of_le hb (belowP hb0 hX).size
 have hSm := small_any (fun b hb => Nat.lt_of_lt_of_le hb hb0.size) (HJ.out W0 (Below.refl _ _))
 have HAw : Hid (∀ X : World, Calls Tryz.prog 6 #[] X fun e w' => e = .returned (.bool true) ∧ Below X.heap.size X w') := fun X => awake_any
 have q := HX.out W0 (Below.refl _ _)
 have c0 := cellP q 0 _ rfl; have c1 := cellP q 1 _ rfl; have c2 := cellP q 2 _ rfl; have c3 := cellP q 3 _ rfl; have c4 := cellP q 4 _ rfl
 clear q hX0 hj
 go_enter Tryz.func3, Tryz.ntmps3
 go_upto_region 1 with fail
 rw [← hW0]
 clear hW0
 go_upto_region 3 with (go_at_call 4; refine hSm.mono ?_; rintro e w1 ⟨rfl | ⟨rfl, hsz, hti⟩, hb1⟩)
 all_goals (first | (go_ret; exact ⟨rfl, belowP hb0 hb1⟩) | skip)
 clear hSm c0 c1 c2 c3 c4 hti
 have HSC : Hid (szJ 12 c = true) := small12 hsz
 have HSE : Hid (SzE (evP c)) := evP_sz HSC.out
 clear hsz
 obtain ⟨P0, hP0⟩ : ∃ P0 : Pt, P0 = ⟨pk, ck, pl, cl, none, 0, none, 0, none, 0⟩ := ⟨_, rfl⟩
 obtain ⟨W1, hW1⟩ : ∃ W1, W1 = w1.alloc (.cells (cellsE (evP c) P0).toArray 29) := ⟨_, rfl⟩
 have hbW1 : Below w1.heap.size w1 W1 := by rw [hW1]; exact (Below.refl _ _).alloc (Nat.le_refl _) _
 have hX1 : W1.heap[w1.heap.size]? = some (.cells (cellsE (evP c) P0).toArray 29 (0, 0)) := by rw [hW1]; exact newP _
 have hB1 : Below W0.heap.size W0 W1 := belowP hb1 hbW1
 have HE : Hid (∀ X, Below W1.heap.size W1 X → IsE (· < w.heap.size) X (evP c) P0) := fun X hX => by rw [hP0]; exact evP_is (HJ.out X (belowP hB1 hX))
 have HLD : Hid (∀ X, Below W1.heap.size W1 X → (Instr.loadAt 29 (.pointer (some ⟨w1.heap.size, 0, none⟩))).run Tryz.prog X = .ok (.agg (cellsE (evP c) P0).toArray) X) := fun X hX => run_loadAt_mid X w1.heap.size 0 29 (cellsE (evP c) P0) _ (range_of ((hX.block _ (objP_lt hX1)).trans hX1)) Tryz.underlying29 rfl infoE
 have q := HX.out w1 hb1
 have c0 := cellP q 0 _ rfl; have c1 := cellP q 1 _ rfl; have c2 := cellP q 2 _ rfl; have c3 := cellP q 3 _ rfl; have c4 := cellP q 4 _ rfl
 clear q hX1
 go_upto_region 4 with fail
 rw [show w1.alloc (.cells #[.string ⟨#[33, 114, 58, 115]⟩, .string ⟨#[109, 46, 114, 111, 111, 109, 46, 112, 111, 119, 101, 114, 95, 108, 101, 118, 101, 108, 115]⟩, .string ⟨#[64, 97, 58, 115]⟩, .bool true, .string ⟨#[]⟩, .int .i64 c.kind, .int .i64 c.int, .string c.text, .slice pk c.keys.length ck, .slice pl c.list.length cl, .slice none 0 0, .slice none 0 0, .int .i64 0, .int .i64 0, .string ⟨#[]⟩, .slice none 0 0] 29) = W1 by rw [hW1, hP0]; rfl]
 clear hW1 c0 c1 c2 c3 c4
 have hFi := rFits_any (evP c) P0 W1 (HE.out W1 (Below.refl _ _)) (HO.out W1 hB1) HSE.out (by show ByteArray.size ⟨#[33, 114, 58, 115]⟩ ≤ _; decide) (by show ByteArray.size ⟨#[64, 97, 58, 115]⟩ ≤ _; decide)
 unfold valE at hFi
 have HRED : Hid (∀ X, Below W1.heap.size W1 X → shapedE (evP c) = true → Calls Tryz.prog 8 #[.agg (cellsE (evP c) P0).toArray] X fun x w' => (∃ q, x = .returned (valE (redT (evP c)) q) ∧ IsE (fun b => b < w.heap.size ∨ (X.heap.size ≤ b ∧ b < w'.heap.size)) w' (redT (evP c)) q) ∧ Below X.heap.size X w') := fun X hX hs => rRedact_any (HE.out X hX) (HO.out X (belowP hB1 hX)) HSE.out (by show ByteArray.size ⟨#[33, 114, 58, 115]⟩ ≤ _; decide) (by show ByteArray.size ⟨#[64, 97, 58, 115]⟩ ≤ _; decide) hs
 have HPR : Hid (shapedE (evP c) = true → parseT (ordT (redT (evP c)).content) = parseT (ordT c)) := fun hs => red_parse hs (evP_typ c)
 have HSR : Hid (shapedE (evP c) = true → szJ 12 (redT (evP c)).content = true) := fun hs => red_szC hs HSE.out
 have HPa : Hid (∀ X, Below W0.heap.size W0 X → Calls Tryz.prog 7 #[.agg #[.int .i64 c.kind, .int .i64 c.int, .string c.text, .slice pk c.keys.length ck, .slice pl c.list.length cl]] X fun e w' => (∃ p, e = .returned (.tuple #[valL (parseT (ordT c)).1 p, .int .i64 (parseT (ordT c)).2]) ∧ IsL (fun b => X.heap.size ≤ b ∧ b < w'.heap.size) w' (parseT (ordT c)).1 p) ∧ Below X.heap.size X w') := fun X hX => parse_any (HJ.out X hX) (HO.out X hX) HSC.out
 have HSz : Hid (SzL (parseT (ordT c)).1) := parse_sz HSC.out
 generalize hR : redT (evP c) = E2 at HRED HPR HSR
 clear hR
 generalize parseT (ordT c) = R at HPR HPa HSz
 generalize hsh : shapedE (evP c) = sh at hFi HRED HPR HSR
 obtain ⟨L, E⟩ := R
 simp only at HPa HSz
 clear hsh
 obtain ⟨CE, hCE⟩ : ∃ CE, CE = cellsE (evP c) P0 := ⟨_, rfl⟩
 rw [← hCE] at hFi HRED HLD
 clear hCE
 cases sh with
 | false =>
  clear HRED HPR HSR HPa HSz HJ HO HX
  go_wp2_with (first
   | (refine wpList_load_midg (by kernel_rfl) 29 _ rfl w1.heap.size 0 rfl CE (HLD.out _ (Below.refl _ _)) ?_)
   | (go_at_call 5; refine hFi.mono ?_; rintro e w2 ⟨rfl, hb2⟩; have hAw := HAw.out w2; clear hFi)
   | (go_at_call 6; refine hAw.mono ?_; rintro e w5 ⟨rfl, hb5⟩))
  go_ret
  exact ⟨rfl, belowP hb0 (belowP hB1 (belowP hb2 hb5))⟩
 | true =>
  have HRED' := HRED.out
  have HR2 : Hid (∀ X, Below W1.heap.size W1 X → Calls Tryz.prog 8 #[.agg CE.toArray] X fun x w' => (∃ q, x = .returned (valE E2 q) ∧ IsE (fun b => b < w.heap.size ∨ (X.heap.size ≤ b ∧ b < w'.heap.size)) w' E2 q) ∧ Below X.heap.size X w') := fun X hX => HRED.out X hX rfl
  have HPR2 : Hid (parseT (ordT E2.content) = (L, E)) := HPR.out rfl
  have HSR2 : Hid (szJ 12 E2.content = true) := HSR.out rfl
  clear HRED HPR HSR HRED'
  go_upto_region 6 with (first
   | (refine wpList_load_midg (by kernel_rfl) 29 _ rfl w1.heap.size 0 rfl CE (HLD.out _ (Below.refl _ _)) ?_)
   | (go_at_call 5; refine hFi.mono ?_; rintro e w2 ⟨rfl, hb2⟩; clear hFi))
  have hB2 : Below W0.heap.size W0 w2 := belowP hB1 hb2
  have q := HX.out w2 hB2
  have c0 := cellP q 0 _ rfl; have c1 := cellP q 1 _ rfl; have c2 := cellP q 2 _ rfl; have c3 := cellP q 3 _ rfl; have c4 := cellP q 4 _ rfl
  have hP := HPa.out w2 hB2
  clear q
  go_upto_region 7 with (go_at_call 7; refine hP.mono ?_; rintro e w3 ⟨⟨⟨pu, pc, pt, pd⟩, rfl, hI3⟩, hb3⟩; simp only [valL, cellsL])
  obtain ⟨W3, hW3⟩ : ∃ W3, W3 = w3.alloc (.cells #[.int .i64 L.ban, .int .i64 L.kick, .int .i64 L.invite, .int .i64 L.redact, .int .i64 L.state, .int .i64 L.events, .int .i64 L.users, .slice pu L.byUser.length pc, .slice pt L.byType.length pd] 34) := ⟨_, rfl⟩
  have hbW3 : Below w3.heap.size w3 W3 := by rw [hW3]; exact (Below.refl _ _).alloc (Nat.le_refl _) _
  have hX3 : W3.heap[w3.heap.size]? = some (.cells #[.int .i64 L.ban, .int .i64 L.kick, .int .i64 L.invite, .int .i64 L.redact, .int .i64 L.state, .int .i64 L.events, .int .i64 L.users, .slice pu L.byUser.length pc, .slice pt L.byType.length pd] 34 (0, 0)) := by rw [hW3]; exact newP _
  have hB3 : Below W1.heap.size W1 W3 := belowP hb2 (belowP hb3 hbW3)
  have HL3 : Hid (∀ X, Below W3.heap.size W3 X → X.heap[w3.heap.size]? = some (.cells #[.int .i64 L.ban, .int .i64 L.kick, .int .i64 L.invite, .int .i64 L.redact, .int .i64 L.state, .int .i64 L.events, .int .i64 L.users, .slice pu L.byUser.length pc, .slice pt L.byType.length pd] 34 (0, 0)) ∧ IsL (· < X.heap.size) X L ⟨pu, pc, pt, pd⟩) := fun X hX => ⟨(hX.block _ (objP_lt hX3)).trans hX3, hI3.carry fun b hb => ⟨Nat.lt_of_lt_of_le hb.2 (Nat.le_trans hbW3.size hX.size), (hX.block b (Nat.lt_of_lt_of_le hb.2 hbW3.size)).trans (hbW3.block b hb.2)⟩⟩
  rw [← hW3]
  clear hW3 hP hI3 hX3 c0 c1 c2 c3 c4
  have hR3 := HR2.out W3 hB3
  have HP4 : Hid (∀ (X : World) (q : Pt) (Y : World), IsE (fun b => b < w.heap.size ∨ (W3.heap.size ≤ b ∧ b < Y.heap.size)) X E2 q → Y = X → Below W3.heap.size W3 X → Calls Tryz.prog 7 #[.agg #[.int .i64 E2.content.kind, .int .i64 E2.content.int, .string E2.content.text, .slice q.pk E2.content.keys.length q.ck, .slice q.pl E2.content.list.length q.cl]] X fun e w' => (∃ p, e = .returned (.tuple #[valL L p, .int .i64 E]) ∧ IsL (fun b => X.heap.size ≤ b ∧ b < w'.heap.size) w' L p) ∧ Below X.heap.size X w') := fun X q Y hI hY hX => by
   have h := parse_any (O := fun b => b < w.heap.size ∨ (W3.heap.size ≤ b ∧ b < Y.heap.size)) (w := X) (c := E2.content) hI.cont (fun b hb => by
    rcases hb with h1 | h1
    · exact Nat.lt_of_lt_of_le h1 (belowP hb0 (belowP hB1 (belowP hB3 hX))).size
    · rw [← hY]; exact h1.2) HSR2.out
   rw [HPR2.out] at h
   exact h
  clear HR2 HPa HX HJ HO
  go_upto_region 8 with (first
   | (refine wpList_load_midg (by kernel_rfl) 29 _ rfl w1.heap.size 0 rfl CE (HLD.out _ hB3) ?_)
   | (go_at_call 8; refine hR3.mono ?_; rintro e w4 ⟨⟨q4, rfl, hI4⟩, hb4⟩; have hP4 := HP4.out w4 q4 w4 hI4 rfl hb4; have hfl := (fun X : World => run_content X E2 q4); simp only [valE, cellsE, five] at hfl ⊢; clear hR3)
   | (go_at_call 7; refine hP4.mono ?_; rintro e w5 ⟨⟨⟨ru, rc, rt, rd⟩, rfl, hI5⟩, hb5⟩; simp only [valL, cellsL]; clear hP4))
  obtain ⟨W5, hW5⟩ : ∃ W5, W5 = w5.alloc (.cells #[.int .i64 L.ban, .int .i64 L.kick, .int .i64 L.invite, .int .i64 L.redact, .int .i64 L.state, .int .i64 L.events, .int .i64 L.users, .slice ru L.byUser.length rc, .slice rt L.byType.length rd] 34) := ⟨_, rfl⟩
  have hbW5 : Below w5.heap.size w5 W5 := by rw [hW5]; exact (Below.refl _ _).alloc (Nat.le_refl _) _
  have hX5 : W5.heap[w5.heap.size]? = some (.cells #[.int .i64 L.ban, .int .i64 L.kick, .int .i64 L.invite, .int .i64 L.redact, .int .i64 L.state, .int .i64 L.events, .int .i64 L.users, .slice ru L.byUser.length rc, .slice rt L.byType.length rd] 34 (0, 0)) := by rw [hW5]; exact newP _
  have hB5 : Below W3.heap.size W3 W5 := belowP hb4 (belowP hb5 hbW5)
  have hI5' : IsL (· < W5.heap.size) W5 L ⟨ru, rc, rt, rd⟩ := hI5.carry fun b hb => ⟨Nat.lt_of_lt_of_le hb.2 hbW5.size, hbW5.block b hb.2⟩
  obtain ⟨q2, hI3'⟩ := HL3.out W5 hB5
  have hSa := rSame_eq hI3' hI5' (fun _ h => h) HSz.out
  simp only [valL, cellsL] at hSa
  have x0 := cellP q2 0 _ rfl; have x1 := cellP q2 1 _ rfl; have x2 := cellP q2 2 _ rfl; have x3 := cellP q2 3 _ rfl; have x4 := cellP q2 4 _ rfl; have x5 := cellP q2 5 _ rfl; have x6 := cellP q2 6 _ rfl; have x7 := cellP q2 7 _ rfl; have x8 := cellP q2 8 _ rfl
  have y0 := cellP hX5 0 _ rfl; have y1 := cellP hX5 1 _ rfl; have y2 := cellP hX5 2 _ rfl; have y3 := cellP hX5 3 _ rfl; have y4 := cellP hX5 4 _ rfl; have y5 := cellP hX5 5 _ rfl; have y6 := cellP hX5 6 _ rfl; have y7 := cellP hX5 7 _ rfl; have y8 := cellP hX5 8 _ rfl
  have HEnd : Hid (∀ X, Below W5.heap.size W5 X → Below w.heap.size w X) := fun X hX => belowP hb0 (belowP hB1 (belowP hB3 (belowP hB5 hX)))
  rw [← hW5]
  clear hW5 hI5 hX5 q2 hI3' hI5' HL3 HSz HPR2 HSR2 HP4 HE HLD
  go_wp2_with (first
   | (go_at_call 9; refine hSa.mono ?_; rintro e w6 ⟨rfl, hb6⟩; have hAw := HAw.out w6; clear hSa)
   | (go_at_call 6; refine hAw.mono ?_; rintro e w7 ⟨rfl, hb7⟩))
  go_ret
  exact ⟨rfl, HEnd.out _ (belowP hb6 hb7)⟩
end Go.Proofs.YtnngalkdjgjmbaaGreat

/-
  Chapter 10's examples: by contracts.
  What stays is allowed: the walk of the law.
  The document's levels: who may change them: by contracts.
  The document's May: by contracts.
  The document's May, walked.
-/
import Derived.Test.YtalmghbkdelaoaaP10
set_option maxRecDepth 100000
set_option maxHeartbeats 64000000
namespace Go.Proofs.Ytalmghbkdelaoaa
open Go.RowKit

theorem num_any {w : World} (n : Int) : Calls Try.prog 35 #[.int .i64 n] w fun e w' => e = .returned (.agg #[.int .i64 2, .int .i64 n, .string ⟨#[]⟩, .slice none 0 0, .slice none 0 0]) ∧ Below w.heap.size w w' := by
  have h5 := newP (w := w) (.cells #[.int .i64 2, .int .i64 n, .string ⟨#[]⟩, .slice none 0 0, .slice none 0 0] 51)
  have hb : Below w.heap.size w (w.alloc (.cells #[.int .i64 2, .int .i64 n, .string ⟨#[]⟩, .slice none 0 0, .slice none 0 0] 51)) := (Below.refl _ _).alloc (Nat.le_refl _) _
  go_enter Try.func35, Try.ntmps35
  go_wp2
  refine bodyPost_ret (resultsP_cell rfl _ _ _ rfl (loadJP h5)) rfl ?_
  exact ⟨rfl, hb⟩
def usersJ (s : ByteArray) (n : Int) : J := .mk 5 0 nix [kByUser] [.mk 5 0 nix [s] [.mk 2 n nix [] []]]
theorem isJ_empty (O : Nat → Prop) (w : World) : isJ O w (.mk 5 0 nix [] []) [.int .i64 5, .int .i64 0, .string ⟨#[]⟩, .slice none 0 0, .slice none 0 0] := by
  unfold isJ
  exact ⟨none, 0, none, 0, rfl, RdK.nil _ _, Nat.le_refl _, by unfold isJs; trivial⟩
theorem isJ_int (O : Nat → Prop) (w : World) (n : Int) : isJ O w (.mk 2 n nix [] []) [.int .i64 2, .int .i64 n, .string ⟨#[]⟩, .slice none 0 0, .slice none 0 0] := by
  unfold isJ
  exact ⟨none, 0, none, 0, rfl, RdK.nil _ _, Nat.le_refl _, by unfold isJs; trivial⟩
theorem users_any {w : World} (s : ByteArray) (n : Int) : Calls Try.prog 24 #[.string s, .int .i64 n] w fun e w' => (∃ k i t p m c q r d, e = .returned (.agg #[.int .i64 k, .int .i64 i, .string t, .slice p m c, .slice q r d]) ∧ isJ (fun b => b < w'.heap.size) w' (usersJ s n) [.int .i64 k, .int .i64 i, .string t, .slice p m c, .slice q r d]) ∧ Below w.heap.size w w' := by
  obtain ⟨wA, hwA⟩ : ∃ wA, wA = w.alloc (.cells #[.int .i64 0, .int .i64 0, .string ⟨#[]⟩, .slice none 0 0, .slice none 0 0] 51) := ⟨_, rfl⟩
  have hbA : Below w.heap.size w wA := by rw [hwA]; exact (Below.refl _ _).alloc (Nat.le_refl _) _
  have hA : wA.heap[w.heap.size]? = some (.cells #[.int .i64 0, .int .i64 0, .string ⟨#[]⟩, .slice none 0 0, .slice none 0 0] 51 (0, 0)) := by rw [hwA]; exact newP _
  have hsA := objP_lt hA
  have HA := (show Hid _ from hA)
  have hNum := num_any (w := wA) n
  have HP : Hid (∀ X : World, Calls Try.prog 34 #[.agg #[.int .i64 5, .int .i64 0, .string ⟨#[]⟩, .slice none 0 0, .slice none 0 0], .string s, .agg #[.int .i64 2, .int .i64 n, .string ⟨#[]⟩, .slice none 0 0, .slice none 0 0]] X fun x w' => (∃ b1 c1 b2 c2, x = .returned (.agg #[.int .i64 5, .int .i64 0, .string ⟨#[]⟩, .slice (some ⟨b1, 0, none⟩) (0 + 1) c1, .slice (some ⟨b2, 0, none⟩) (0 + 1) c2]) ∧ isJ (fun b => False ∨ New X w' b) w' (.mk 5 0 nix [s] [.mk 2 n nix [] []]) [.int .i64 5, .int .i64 0, .string ⟨#[]⟩, .slice (some ⟨b1, 0, none⟩) (0 + 1) c1, .slice (some ⟨b2, 0, none⟩) (0 + 1) c2]) ∧ Below X.heap.size X w') := fun X =>
    Pt.rPut_any (O := fun _ => False) s (fun _ h => h.elim) (isJ_empty _ _) (isJ_int _ _ n) (fun _ => rfl) (fun _ => rfl) (by omega) (by omega)
  have HP2 : Hid (∀ (X : World) b1 c1 b2 c2, isJ (fun b => wA.heap.size ≤ b ∧ b < X.heap.size) X (.mk 5 0 nix [s] [.mk 2 n nix [] []]) [.int .i64 5, .int .i64 0, .string ⟨#[]⟩, .slice (some ⟨b1, 0, none⟩) 1 c1, .slice (some ⟨b2, 0, none⟩) 1 c2] → Calls Try.prog 34 #[.agg #[.int .i64 5, .int .i64 0, .string ⟨#[]⟩, .slice none 0 0, .slice none 0 0], .string kByUser, .agg #[.int .i64 5, .int .i64 0, .string ⟨#[]⟩, .slice (some ⟨b1, 0, none⟩) 1 c1, .slice (some ⟨b2, 0, none⟩) 1 c2]] X fun x w' => (∃ b1 c1 b2 c2, x = .returned (.agg #[.int .i64 5, .int .i64 0, .string ⟨#[]⟩, .slice (some ⟨b1, 0, none⟩) (0 + 1) c1, .slice (some ⟨b2, 0, none⟩) (0 + 1) c2]) ∧ isJ (fun b => (wA.heap.size ≤ b ∧ b < X.heap.size) ∨ New X w' b) w' (usersJ s n) [.int .i64 5, .int .i64 0, .string ⟨#[]⟩, .slice (some ⟨b1, 0, none⟩) (0 + 1) c1, .slice (some ⟨b2, 0, none⟩) (0 + 1) c2]) ∧ Below X.heap.size X w') := fun X b1 c1 b2 c2 hj =>
    Pt.rPut_any (O := fun b => wA.heap.size ≤ b ∧ b < X.heap.size) kByUser (fun _ h => h.2) (isJ_empty _ _) hj (fun _ => rfl) (fun _ => rfl) (by omega) (by omega)
  clear hA
  go_enter Try.func24, Try.ntmps24
  go_upto_region 1 with fail
  rw [← hwA]
  clear hwA
  go_wp2_with (first
    | (go_at_call 35; refine hNum.mono ?_; rintro e w1 ⟨rfl, hb1⟩; have hP := HP.out w1; clear hNum)
    | (go_at_call 34; refine hP.mono ?_; rintro e w2 ⟨⟨b1, c1, b2, c2, rfl, hj2⟩, hb2⟩
       have hbB : Below w2.heap.size w2 (w2.alloc (.cells #[.int .i64 5, .int .i64 0, .string ⟨#[]⟩, .slice (some ⟨b1, 0, none⟩) 1 c1, .slice (some ⟨b2, 0, none⟩) 1 c2] 51)) := (Below.refl _ _).alloc (Nat.le_refl _) _
       have hP2 := HP2.out (w2.alloc (.cells #[.int .i64 5, .int .i64 0, .string ⟨#[]⟩, .slice (some ⟨b1, 0, none⟩) 1 c1, .slice (some ⟨b2, 0, none⟩) 1 c2] 51)) b1 c1 b2 c2 (hj2.carry fun b hb => by
         have hn : New w1 w2 b := hb.elim (fun h => h.elim) (fun h => h)
         exact ⟨⟨Nat.le_trans hb1.size hn.1, Nat.lt_of_lt_of_le hn.2 hbB.size⟩, hbB.block b hn.2⟩)
       clear hP hj2)
    | (go_at_call 34; refine hP2.mono ?_; rintro e w3 ⟨⟨b1', c1', b2', c2', rfl, hj3⟩, hb3⟩
       have hbC : Below wA.heap.size wA w3 := belowP hb1 (belowP hb2 (belowP hbB hb3))
       have hres := (hbC.block _ hsA).trans HA.out
       have i0 := cellP hres 0 _ rfl; have i1 := cellP hres 1 _ rfl; have i2 := cellP hres 2 _ rfl; have i3 := cellP hres 3 _ rfl; have i4 := cellP hres 4 _ rfl
       have z0 := fzP hres 0; have z1 := fzP hres 1; have z2 := fzP hres 2; have z3 := fzP hres 3; have z4 := fzP hres 4
       have HJ3 := (show Hid _ from hj3)
       clear hj3 hP2))
  have h5 := setL_all (b := w.heap.size) [.int .i64 5, .int .i64 0, .string ⟨#[]⟩, .slice (some ⟨b1', 0, none⟩) 1 c1', .slice (some ⟨b2', 0, none⟩) 1 c2'] hres rfl
  have HK5 := setL_keep w.heap.size [.int .i64 5, .int .i64 0, .string ⟨#[]⟩, .slice (some ⟨b1', 0, none⟩) 1 c1', .slice (some ⟨b2', 0, none⟩) 1 c2'] w3 0
  simp only [setL, Nat.zero_add, Nat.reduceAdd] at h5 HK5
  refine bodyPost_ret (resultsP_cell rfl _ _ _ rfl (loadJP h5)) rfl ?_
  have hb := belowP hbA hbC
  refine ⟨⟨_, _, _, _, _, _, _, _, _, rfl, ?_⟩, hb.trans (HK5.below hb.size fun q hq e => by unfold OneP at e; omega)⟩
  refine isJ.carry (fun b hb' => ?_) _ _ HJ3.out
  have hlt : b < w3.heap.size ∧ wA.heap.size ≤ b := by
    have s1 := hb1.size; have s2 := hb2.size; have s3 := hb3.size; have sB := hbB.size
    rcases hb' with h | h
    · exact ⟨Nat.lt_of_lt_of_le h.2 s3, h.1⟩
    · exact ⟨h.2, by have := h.1; omega⟩
  exact ⟨Nat.lt_of_lt_of_le hlt.1 HK5.size, HK5.block b hlt.1 (by unfold OneP; omega)⟩
/-- The levels of the example. -/
def sampL : Lv := ⟨50, 50, 0, 50, 50, 0, 0, [(⟨#[64, 97, 58, 115]⟩, 50)], []⟩
theorem samp_parse : parseT (ordT (usersJ ⟨#[64, 97, 58, 115]⟩ 50)) = (sampL, 0) := by kernel_rfl
theorem samp_sz : szJ 12 (usersJ ⟨#[64, 97, 58, 115]⟩ 50) = true := by kernel_rfl
def sampM (x : Int) : Lv := { sampL with byUser := (⟨#[64, 98, 58, 115]⟩, x) :: sampL.byUser }
theorem samp_u1 : usr sampL ⟨#[64, 97, 58, 115]⟩ = 50 := by kernel_rfl
theorem samp_u2 : usr sampL ⟨#[64, 98, 58, 115]⟩ = 0 := by kernel_rfl
theorem samp_m1 : mayL sampL (sampM 51) ⟨#[64, 97, 58, 115]⟩ = false := by kernel_rfl
theorem samp_m2 : mayL sampL (sampM 50) ⟨#[64, 97, 58, 115]⟩ = true := by kernel_rfl
theorem own_new1 {w : World} (s : ByteArray) (x : Int) : (w.alloc (.cells #[.string s, .int .i64 x] 36)).ownsRow w.heap.size 36 2 (.slice (some ⟨w.heap.size, 0, none⟩) 1 1) [(s, x)].length (flatN [(s, x)]) :=
  ⟨rfl, .inr ⟨w.heap.size, 1, _, rfl, Nat.le_refl _, newP _, Nat.le_refl _, by unfold maxLen; omega, rfl, rfl⟩⟩
theorem own_open {w : World} {B : Nat} {v : Value} {l : Nms} (h : w.ownsRow B 36 2 v l.length (flatN l)) : ∃ p c, v = .slice p l.length c ∧ RdN (fun k => B ≤ k ∧ k < w.heap.size) w p c l := own_rdN h
theorem awake_any {w : World} : Calls Try.prog 15 #[] w fun e w' => e = .returned (.bool true) ∧ Below w.heap.size w w' := by
  have hUs := users_any (w := w) ⟨#[64, 97, 58, 115]⟩ 50
  have HPa : Hid (∀ X k i t p m c q r d, Below w.heap.size w X → isJ (fun b => b < X.heap.size) X (usersJ ⟨#[64, 97, 58, 115]⟩ 50) [.int .i64 k, .int .i64 i, .string t, .slice p m c, .slice q r d] → Calls Try.prog 23 #[.agg #[.int .i64 k, .int .i64 i, .string t, .slice p m c, .slice q r d]] X fun e w' => (∃ p, e = .returned (.tuple #[valL sampL p, .int .i64 0]) ∧ IsL (fun b => X.heap.size ≤ b ∧ b < w'.heap.size) w' sampL p) ∧ Below X.heap.size X w') := fun X k i t p m c q r d _ hj => by
    have h := parse_any hj (fun _ h => h) samp_sz
    rw [samp_parse] at h
    exact h
  go_enter Try.func15, Try.ntmps15
  go_upto_region 2 with (first
    | (go_at_call 24; refine hUs.mono ?_; rintro e w1 ⟨⟨k, i, t, p, m, c, q, r, d, rfl, hj⟩, hb1⟩; have hPa := HPa.out w1 k i t p m c q r d hb1 hj; clear hj hUs)
    | (go_at_call 23; refine hPa.mono ?_; rintro e w2 ⟨⟨⟨pu, cu, pt, ct⟩, rfl, hIs⟩, hb2⟩; simp only [valL, cellsL, sampL, List.length_cons, List.length_nil, Nat.zero_add]; clear hPa))
  obtain ⟨W1, hW1⟩ : ∃ W1, W1 = w2.alloc (.cells #[.int .i64 50, .int .i64 50, .int .i64 0, .int .i64 50, .int .i64 50, .int .i64 0, .int .i64 0, .slice pu 1 cu, .slice pt 0 ct] 24) := ⟨_, rfl⟩
  rw [← hW1]
  have hB1 : W1.heap[w2.heap.size]? = some (.cells #[.int .i64 50, .int .i64 50, .int .i64 0, .int .i64 50, .int .i64 50, .int .i64 0, .int .i64 0, .slice pu 1 cu, .slice pt 0 ct] 24 (0, 0)) := by rw [hW1]; exact newP _
  have hbW1 : Below w2.heap.size w2 W1 := by rw [hW1]; exact (Below.refl _ _).alloc (Nat.le_refl _) _
  have hs1 : w2.heap.size < W1.heap.size := by rw [hW1]; simp
  have HIS : Hid (IsL (fun b => b < w2.heap.size) w2 sampL ⟨pu, cu, pt, ct⟩) := hIs.carry fun b hb => ⟨hb.2, rfl⟩
  have c0 := cellP hB1 0 _ rfl; have c1 := cellP hB1 1 _ rfl; have c2 := cellP hB1 2 _ rfl; have c3 := cellP hB1 3 _ rfl; have c4 := cellP hB1 4 _ rfl; have c5 := cellP hB1 5 _ rfl; have c6 := cellP hB1 6 _ rfl; have c7 := cellP hB1 7 _ rfl; have c8 := cellP hB1 8 _ rfl
  clear hW1 hIs
  go_upto_region 3 with fail
  clear c0 c1 c2 c3 c4 c5 c6 c7 c8
  obtain ⟨W2, hW2⟩ : ∃ W2, W2 = W1.alloc (.cells #[.int .i64 50, .int .i64 50, .int .i64 0, .int .i64 50, .int .i64 50, .int .i64 0, .int .i64 0, .slice pu 1 cu, .slice pt 0 ct] 24) := ⟨_, rfl⟩
  have hB3 : W2.heap[W1.heap.size]? = some (.cells #[.int .i64 50, .int .i64 50, .int .i64 0, .int .i64 50, .int .i64 50, .int .i64 0, .int .i64 0, .slice pu 1 cu, .slice pt 0 ct] 24 (0, 0)) := by rw [hW2]; exact newP _
  have hbW2 : Below W1.heap.size W1 W2 := by rw [hW2]; exact (Below.refl _ _).alloc (Nat.le_refl _) _
  have hs2 : W1.heap.size < W2.heap.size := by rw [hW2]; simp
  have hB1' := (hbW2.block w2.heap.size (by omega)).trans hB1
  have hb22 : Below w2.heap.size w2 W2 := belowP hbW1 hbW2
  rw [← hW2]
  have y7 := cellP (((Below.refl W2.heap.size W2).alloc (Nat.le_refl _) (.cells #[.string ⟨#[64, 98, 58, 115]⟩, .int .i64 51] 36)).block w2.heap.size (by omega) |>.trans hB1') 7 _ rfl
  have hownA := own_new1 (w := W2) ⟨#[64, 98, 58, 115]⟩ 51
  have hrdA : RdN (fun b => b < w2.heap.size) (W2.alloc (.cells #[.string ⟨#[64, 98, 58, 115]⟩, .int .i64 51] 36)) pu cu [(⟨#[64, 97, 58, 115]⟩, 50)] := (HIS.out.us.below (fun _ h => h) hb22).below (B := W2.heap.size) (w' := W2.alloc (.cells #[.string ⟨#[64, 98, 58, 115]⟩, .int .i64 51] 36)) (fun k hk => by omega) ((Below.refl _ _).alloc (Nat.le_refl _) _)
  have HX3 : Hid (∀ X, (W2.alloc (.cells #[.string ⟨#[64, 98, 58, 115]⟩, .int .i64 51] 36)).grownBy X (some W2.heap.size) → Below W2.heap.size W2 X) := fun X hX => ((Below.refl _ _).alloc (Nat.le_refl _) _).grown hX (by simp) (fun k e => by cases e; exact Nat.le_refl _)
  clear hW2
  go_upto_region 4 with (refine wpList_append_rdN rfl _ _ rfl W2.heap.size _ [(⟨#[64, 98, 58, 115]⟩, 51)] rfl hownA hrdA rfl (by simp) (by simp) (by simp) ?_
                         intro v4 w4 hown4 hg4
                         have hb4 : Below W2.heap.size W2 w4 := HX3.out w4 hg4
                         obtain ⟨q4, d4, hq4, hrd4⟩ := own_open hown4; replace hq4 : v4 = .slice q4 2 d4 := hq4; subst hq4
                         have hB34 := (hb4.block W1.heap.size (by omega)).trans hB3
                         have g7 := cellP hB34 7 _ rfl
                         have f7 := fzP hB34 7
                         clear hown4 hg4)
  clear g7 f7 y7 hownA hrdA
  have hs4 := hb4.size
  obtain ⟨W5, hW5⟩ : ∃ W5, W5 = w4.setCell ⟨W1.heap.size, 7, none⟩ (.slice q4 2 d4) := ⟨_, rfl⟩
  have hB35 : W5.heap[W1.heap.size]? = some (.cells #[.int .i64 50, .int .i64 50, .int .i64 0, .int .i64 50, .int .i64 50, .int .i64 0, .int .i64 0, .slice q4 2 d4, .slice pt 0 ct] 24 (0, 0)) := by
    rw [hW5, heap_setCell_same w4 W1.heap.size 7 _ _ _ hB34]; rfl
  have hs5 : W5.heap.size ≤ w4.heap.size ∧ w4.heap.size ≤ W5.heap.size := by rw [hW5]; simp
  have hk5 : ∀ k, k ≠ W1.heap.size → W5.heap[k]? = w4.heap[k]? := fun k hk => by rw [hW5]; exact Below.heap_setCell _ _ _ _ hk
  have hb5 : Below w2.heap.size w2 W5 := by rw [hW5]; exact (belowP hb22 hb4).setCell (p := ⟨W1.heap.size, 7, none⟩) (by simp; omega) _
  have hB15 : W5.heap[w2.heap.size]? = some (.cells #[.int .i64 50, .int .i64 50, .int .i64 0, .int .i64 50, .int .i64 50, .int .i64 0, .int .i64 0, .slice pu 1 cu, .slice pt 0 ct] 24 (0, 0)) := (hk5 _ (by omega)).trans ((hb4.block _ (by omega)).trans hB1')
  have hrd5 : RdN (fun k => k < W5.heap.size ∧ k ≠ W1.heap.size) W5 q4 d4 [(⟨#[64, 98, 58, 115]⟩, 51), (⟨#[64, 97, 58, 115]⟩, 50)] := RdN.carry hrd4 fun k hk => ⟨⟨by omega, by omega⟩, hk5 k (by omega)⟩
  have HR5 := (show Hid _ from hrd5)
  have c0 := cellP hB15 0 _ rfl; have c1 := cellP hB15 1 _ rfl; have c2 := cellP hB15 2 _ rfl; have c3 := cellP hB15 3 _ rfl; have c4 := cellP hB15 4 _ rfl; have c5 := cellP hB15 5 _ rfl; have c6 := cellP hB15 6 _ rfl; have c7 := cellP hB15 7 _ rfl; have c8 := cellP hB15 8 _ rfl
  rw [← hW5]
  clear hW5 hB34 hB3 hB1 hB1' hrd4 hrd5
  go_upto_region 5 with fail
  clear c0 c1 c2 c3 c4 c5 c6 c7 c8
  obtain ⟨W6, hW6⟩ : ∃ W6, W6 = W5.alloc (.cells #[.int .i64 50, .int .i64 50, .int .i64 0, .int .i64 50, .int .i64 50, .int .i64 0, .int .i64 0, .slice pu 1 cu, .slice pt 0 ct] 24) := ⟨_, rfl⟩
  have hbW6 : Below W5.heap.size W5 W6 := by rw [hW6]; exact (Below.refl _ _).alloc (Nat.le_refl _) _
  have hs6 : W5.heap.size < W6.heap.size := by rw [hW6]; simp
  have hB46 : W6.heap[W5.heap.size]? = some (.cells #[.int .i64 50, .int .i64 50, .int .i64 0, .int .i64 50, .int .i64 50, .int .i64 0, .int .i64 0, .slice pu 1 cu, .slice pt 0 ct] 24 (0, 0)) := by rw [hW6]; exact newP _
  have hB16 := (hbW6.block w2.heap.size (by omega)).trans hB15
  have hB36 := (hbW6.block W1.heap.size (by omega)).trans hB35
  have hb26 : Below w2.heap.size w2 W6 := belowP hb5 hbW6
  rw [← hW6]
  have y7 := cellP (((Below.refl W6.heap.size W6).alloc (Nat.le_refl _) (.cells #[.string ⟨#[64, 98, 58, 115]⟩, .int .i64 50] 36)).block w2.heap.size (by omega) |>.trans hB16) 7 _ rfl
  have hownA := own_new1 (w := W6) ⟨#[64, 98, 58, 115]⟩ 50
  have hrdA : RdN (fun b => b < w2.heap.size) (W6.alloc (.cells #[.string ⟨#[64, 98, 58, 115]⟩, .int .i64 50] 36)) pu cu [(⟨#[64, 97, 58, 115]⟩, 50)] := (HIS.out.us.below (fun _ h => h) hb26).below (B := W6.heap.size) (w' := W6.alloc (.cells #[.string ⟨#[64, 98, 58, 115]⟩, .int .i64 50] 36)) (fun k hk => by have := hb26.size; omega) ((Below.refl _ _).alloc (Nat.le_refl _) _)
  have HX6 : Hid (∀ X, (W6.alloc (.cells #[.string ⟨#[64, 98, 58, 115]⟩, .int .i64 50] 36)).grownBy X (some W6.heap.size) → Below W6.heap.size W6 X) := fun X hX => ((Below.refl _ _).alloc (Nat.le_refl _) _).grown hX (by simp) (fun k e => by cases e; exact Nat.le_refl _)
  clear hW6
  go_upto_region 6 with (refine wpList_append_rdN rfl _ _ rfl W6.heap.size _ [(⟨#[64, 98, 58, 115]⟩, 50)] rfl hownA hrdA rfl (by simp) (by simp) (by simp) ?_
                         intro v7 w7 hown7 hg7
                         have hb7 : Below W6.heap.size W6 w7 := HX6.out w7 hg7
                         obtain ⟨q7, d7, hq7, hrd7⟩ := own_open hown7; replace hq7 : v7 = .slice q7 2 d7 := hq7; subst hq7
                         have hB47 := (hb7.block W5.heap.size (by omega)).trans hB46
                         have g7 := cellP hB47 7 _ rfl
                         have f7 := fzP hB47 7
                         clear hown7 hg7)
  clear g7 f7 y7 hownA hrdA
  have hs7 := hb7.size
  obtain ⟨W8, hW8⟩ : ∃ W8, W8 = w7.setCell ⟨W5.heap.size, 7, none⟩ (.slice q7 2 d7) := ⟨_, rfl⟩
  have hB48 : W8.heap[W5.heap.size]? = some (.cells #[.int .i64 50, .int .i64 50, .int .i64 0, .int .i64 50, .int .i64 50, .int .i64 0, .int .i64 0, .slice q7 2 d7, .slice pt 0 ct] 24 (0, 0)) := by
    rw [hW8, heap_setCell_same w7 W5.heap.size 7 _ _ _ hB47]; rfl
  have hs8 : W8.heap.size ≤ w7.heap.size ∧ w7.heap.size ≤ W8.heap.size := by rw [hW8]; simp
  have hk8 : ∀ k, k ≠ W5.heap.size → W8.heap[k]? = w7.heap[k]? := fun k hk => by rw [hW8]; exact Below.heap_setCell _ _ _ _ hk
  have hb8 : Below w2.heap.size w2 W8 := by rw [hW8]; exact (belowP hb26 hb7).setCell (p := ⟨W5.heap.size, 7, none⟩) (by have := hb5.size; simp; omega) _
  have hb58 : ∀ k, k < W5.heap.size → W8.heap[k]? = W5.heap[k]? := fun k hk => (hk8 k (by omega)).trans ((hb7.block k (by omega)).trans (hbW6.block k hk))
  have hB18 : W8.heap[w2.heap.size]? = some (.cells #[.int .i64 50, .int .i64 50, .int .i64 0, .int .i64 50, .int .i64 50, .int .i64 0, .int .i64 0, .slice pu 1 cu, .slice pt 0 ct] 24 (0, 0)) := (hb58 _ (by omega)).trans hB15
  have hB38 : W8.heap[W1.heap.size]? = some (.cells #[.int .i64 50, .int .i64 50, .int .i64 0, .int .i64 50, .int .i64 50, .int .i64 0, .int .i64 0, .slice q4 2 d4, .slice pt 0 ct] 24 (0, 0)) := (hb58 _ (by omega)).trans hB35
  have HB8 : Hid (∀ X, Below W8.heap.size W8 X → X.heap[w2.heap.size]? = some (.cells #[.int .i64 50, .int .i64 50, .int .i64 0, .int .i64 50, .int .i64 50, .int .i64 0, .int .i64 0, .slice pu 1 cu, .slice pt 0 ct] 24 (0, 0)) ∧ X.heap[W1.heap.size]? = some (.cells #[.int .i64 50, .int .i64 50, .int .i64 0, .int .i64 50, .int .i64 50, .int .i64 0, .int .i64 0, .slice q4 2 d4, .slice pt 0 ct] 24 (0, 0)) ∧ X.heap[W5.heap.size]? = some (.cells #[.int .i64 50, .int .i64 50, .int .i64 0, .int .i64 50, .int .i64 50, .int .i64 0, .int .i64 0, .slice q7 2 d7, .slice pt 0 ct] 24 (0, 0))) := fun X hX => ⟨(hX.block _ (objP_lt hB18)).trans hB18, (hX.block _ (objP_lt hB38)).trans hB38, (hX.block _ (objP_lt hB48)).trans hB48⟩
  have HI0 : Hid (∀ X, Below W8.heap.size W8 X → IsL (fun k => k < W8.heap.size) X sampL ⟨pu, cu, pt, ct⟩) := fun X hX => (HIS.out.carry (O' := fun k => k < W8.heap.size) (w' := W8) fun k hk => ⟨Nat.lt_of_lt_of_le hk hb8.size, hb8.block k hk⟩).below (fun _ h => h) hX
  have HI1 : Hid (∀ X, Below W8.heap.size W8 X → IsL (fun k => k < W8.heap.size) X (sampM 51) ⟨q4, d4, pt, ct⟩) := fun X hX => ⟨(RdN.carry HR5.out (O' := fun k => k < W8.heap.size) (w' := W8) fun k hk => ⟨by have := hk.1; omega, hb58 k hk.1⟩).below (fun _ h => h) hX, (HI0.out X hX).ty⟩
  have HI2 : Hid (∀ X, Below W8.heap.size W8 X → IsL (fun k => k < W8.heap.size) X (sampM 50) ⟨q7, d7, pt, ct⟩) := fun X hX => ⟨(RdN.carry hrd7 (O' := fun k => k < W8.heap.size) (w' := W8) fun k hk => ⟨by omega, hk8 k (by omega)⟩).below (fun _ h => h) hX, (HI0.out X hX).ty⟩
  have HBE : Hid (Below w.heap.size w W8) := belowP (belowP hb1 hb2) hb8
  rw [← hW8]
  have hsL : SzL sampL := ⟨⟨by decide, fun p hp => by simp [sampL] at hp; subst hp; decide⟩, ⟨by decide, fun p hp => by simp [sampL] at hp⟩⟩
  have hsM : ∀ x, SzL (sampM x) := fun x => ⟨⟨by show 2 ≤ _; omega, fun p hp => by simp [sampM, sampL] at hp; rcases hp with rfl | rfl <;> simp [ByteArray.size]⟩, ⟨by show 0 ≤ _; omega, fun p hp => by simp [sampM, sampL] at hp⟩⟩
  have HU : Hid (∀ X s, Below W8.heap.size W8 X → Calls Try.prog 9 #[.agg #[.int .i64 50, .int .i64 50, .int .i64 0, .int .i64 50, .int .i64 50, .int .i64 0, .int .i64 0, .slice pu 1 cu, .slice pt 0 ct], .string s] X fun e w' => e = .returned (.int .i64 (usr sampL s)) ∧ Below X.heap.size X w') := fun X s hX => user_lv (HI0.out X hX) (fun k hk => Nat.lt_of_lt_of_le hk hX.size) hsL s
  have HM1 : Hid (∀ X, Below W8.heap.size W8 X → Calls Try.prog 16 #[.agg #[.int .i64 50, .int .i64 50, .int .i64 0, .int .i64 50, .int .i64 50, .int .i64 0, .int .i64 0, .slice pu 1 cu, .slice pt 0 ct], .agg #[.int .i64 50, .int .i64 50, .int .i64 0, .int .i64 50, .int .i64 50, .int .i64 0, .int .i64 0, .slice q4 2 d4, .slice pt 0 ct], .string ⟨#[64, 97, 58, 115]⟩] X fun e w' => e = .returned (.bool false) ∧ Below X.heap.size X w') := fun X hX => by
    have h := may_lv (HI0.out X hX) (HI1.out X hX) (fun k hk => Nat.lt_of_lt_of_le hk hX.size) hsL (hsM 51) ⟨#[64, 97, 58, 115]⟩
    rw [samp_m1] at h
    exact h
  have HM2 : Hid (∀ X, Below W8.heap.size W8 X → Calls Try.prog 16 #[.agg #[.int .i64 50, .int .i64 50, .int .i64 0, .int .i64 50, .int .i64 50, .int .i64 0, .int .i64 0, .slice pu 1 cu, .slice pt 0 ct], .agg #[.int .i64 50, .int .i64 50, .int .i64 0, .int .i64 50, .int .i64 50, .int .i64 0, .int .i64 0, .slice q7 2 d7, .slice pt 0 ct], .string ⟨#[64, 97, 58, 115]⟩] X fun e w' => e = .returned (.bool true) ∧ Below X.heap.size X w') := fun X hX => by
    have h := may_lv (HI0.out X hX) (HI2.out X hX) (fun k hk => Nat.lt_of_lt_of_le hk hX.size) hsL (hsM 50) ⟨#[64, 97, 58, 115]⟩
    rw [samp_m2] at h
    exact h
  obtain ⟨e1, e3, e4⟩ := HB8.out W8 (Below.refl _ _)
  have c0 := cellP e1 0 _ rfl; have c1 := cellP e1 1 _ rfl; have c2 := cellP e1 2 _ rfl; have c3 := cellP e1 3 _ rfl; have c4 := cellP e1 4 _ rfl; have c5 := cellP e1 5 _ rfl; have c6 := cellP e1 6 _ rfl; have c7 := cellP e1 7 _ rfl; have c8 := cellP e1 8 _ rfl
  have hU1 := HU.out W8 ⟨#[64, 97, 58, 115]⟩ (Below.refl _ _)
  rw [samp_u1] at hU1
  clear hW8 hB47 hB46 hB48 hrd7 hB16 hB36 hB15 hB35 hB18 hB38 e1 e3 e4
  go_wp2_with (first
    | (go_at_call 9; refine hU1.mono ?_; rintro e x1 ⟨rfl, hx1⟩
       obtain ⟨e1, e3, e4⟩ := HB8.out x1 hx1
       clear c0 c1 c2 c3 c4 c5 c6 c7 c8
       have c0 := cellP e1 0 _ rfl; have c1 := cellP e1 1 _ rfl; have c2 := cellP e1 2 _ rfl; have c3 := cellP e1 3 _ rfl; have c4 := cellP e1 4 _ rfl; have c5 := cellP e1 5 _ rfl; have c6 := cellP e1 6 _ rfl; have c7 := cellP e1 7 _ rfl; have c8 := cellP e1 8 _ rfl
       have hU2 := HU.out x1 ⟨#[64, 98, 58, 115]⟩ hx1
       rw [samp_u2] at hU2
       clear hU1 e1 e3 e4)
    | (go_at_call 9; refine hU2.mono ?_; rintro e x2 ⟨rfl, hx2⟩
       have hX2 : Below W8.heap.size W8 x2 := belowP hx1 hx2
       obtain ⟨e1, e3, e4⟩ := HB8.out x2 hX2
       clear c0 c1 c2 c3 c4 c5 c6 c7 c8
       have c0 := cellP e1 0 _ rfl; have c1 := cellP e1 1 _ rfl; have c2 := cellP e1 2 _ rfl; have c3 := cellP e1 3 _ rfl; have c4 := cellP e1 4 _ rfl; have c5 := cellP e1 5 _ rfl; have c6 := cellP e1 6 _ rfl; have c7 := cellP e1 7 _ rfl; have c8 := cellP e1 8 _ rfl
       have d0 := cellP e3 0 _ rfl; have d1 := cellP e3 1 _ rfl; have d2 := cellP e3 2 _ rfl; have d3 := cellP e3 3 _ rfl; have d4 := cellP e3 4 _ rfl; have d5 := cellP e3 5 _ rfl; have d6 := cellP e3 6 _ rfl; have d7 := cellP e3 7 _ rfl; have d8 := cellP e3 8 _ rfl
       have hM1 := HM1.out x2 hX2
       clear hU2 e1 e3 e4)
    | (go_at_call 16; refine hM1.mono ?_; rintro e x3 ⟨rfl, hx3⟩
       have hX3 : Below W8.heap.size W8 x3 := belowP hX2 hx3
       obtain ⟨e1, e3, e4⟩ := HB8.out x3 hX3
       clear c0 c1 c2 c3 c4 c5 c6 c7 c8 d0 d1 d2 d3 d4 d5 d6 d7 d8
       have c0 := cellP e1 0 _ rfl; have c1 := cellP e1 1 _ rfl; have c2 := cellP e1 2 _ rfl; have c3 := cellP e1 3 _ rfl; have c4 := cellP e1 4 _ rfl; have c5 := cellP e1 5 _ rfl; have c6 := cellP e1 6 _ rfl; have c7 := cellP e1 7 _ rfl; have c8 := cellP e1 8 _ rfl
       have d0 := cellP e4 0 _ rfl; have d1 := cellP e4 1 _ rfl; have d2 := cellP e4 2 _ rfl; have d3 := cellP e4 3 _ rfl; have d4 := cellP e4 4 _ rfl; have d5 := cellP e4 5 _ rfl; have d6 := cellP e4 6 _ rfl; have d7 := cellP e4 7 _ rfl; have d8 := cellP e4 8 _ rfl
       have hM2 := HM2.out x3 hX3
       clear hM1 e1 e3 e4)
    | (go_at_call 16; refine hM2.mono ?_; rintro e x4 ⟨rfl, hx4⟩))
  go_ret
  exact ⟨rfl, belowP HBE.out (belowP hX3 hx4)⟩

theorem quiet_same {f : Chg → Bool} (a : Nms) : quiet f a a = true := by
  have : chs a a (a ++ a) = [] := by
    unfold chs
    rw [List.filter_eq_nil_iff]
    intro c hc
    obtain ⟨p, _, rfl⟩ := List.mem_map.1 hc
    simp [chg, Chg.turns]
  unfold quiet
  rw [this]
  rfl
theorem mayL_same (a : Lv) (u : ByteArray) : mayL a a u = true := by
  unfold mayL
  rw [quiet_same, quiet_same, quiet_same]; rfl
theorem powerStays_any {w : World} {l : Lv} {p : Pl} (h : IsL (· < w.heap.size) w l p) (s : ByteArray) :
    Calls Try.prog 5 #[valL l p, .string s] w fun e w' => e = .returned (.bool true) ∧ Below w.heap.size w w' := by
  obtain ⟨wA, hwA⟩ : ∃ wA, wA = w.alloc (.cells (cellsL l p).toArray 24) := ⟨_, rfl⟩
  have hbA : Below w.heap.size w wA := by rw [hwA]; exact (Below.refl _ _).alloc (Nat.le_refl _) _
  have hA : wA.heap[w.heap.size]? = some (.cells (cellsL l p).toArray 24 (0, 0)) := by rw [hwA]; exact newP _
  have HX : Hid (∀ X, Below wA.heap.size wA X → X.heap[w.heap.size]? = some (.cells (cellsL l p).toArray 24 (0, 0))) := fun X hX => (hX.block _ (objP_lt hA)).trans hA
  have HI : Hid (∀ X, Below wA.heap.size wA X → IsL (· < w.heap.size) X l p) := fun X hX => h.below (fun _ h => h) (belowP hbA hX)
  have hF := few_lv (HI.out wA (Below.refl _ _)) (fun k hk => Nat.lt_of_lt_of_le hk hbA.size)
  have HM : Hid (∀ X, fewL l = true → Below wA.heap.size wA X → Calls Try.prog 16 #[valL l p, valL l p, .string s] X fun e w' => e = .returned (.bool true) ∧ Below X.heap.size X w') := fun X hf hX => by
    have hm := may_lv (HI.out X hX) (HI.out X hX) (fun k hk => Nat.lt_of_lt_of_le hk (belowP hbA hX).size) (fewL_sz hf) (fewL_sz hf) s
    rw [mayL_same] at hm
    exact hm
  generalize fewL l = F at hF HM
  obtain ⟨ban, kick, invite, redact, state, events, users, us, ty⟩ := l
  obtain ⟨pu, cu, pt, ct⟩ := p
  simp only [valL, cellsL] at hwA hF HM HX hA ⊢
  have c0 := cellP hA 0 _ rfl; have c1 := cellP hA 1 _ rfl; have c2 := cellP hA 2 _ rfl; have c3 := cellP hA 3 _ rfl; have c4 := cellP hA 4 _ rfl; have c5 := cellP hA 5 _ rfl; have c6 := cellP hA 6 _ rfl; have c7 := cellP hA 7 _ rfl; have c8 := cellP hA 8 _ rfl
  clear hA h
  go_enter Try.func5, Try.ntmps5
  go_upto_region 1 with fail
  rw [← hwA]
  clear hwA
  cases F with
  | false =>
    go_wp2_with (go_at_call 7; refine hF.mono ?_; rintro e w1 ⟨rfl, hb1⟩)
    go_ret
    exact ⟨rfl, belowP hbA hb1⟩
  | true =>
    by_cases hs : s.size ≤ 200
    · go_wp2_with (first
        | (go_at_call 7; refine hF.mono ?_; rintro e w1 ⟨rfl, hb1⟩
           have hB := HX.out w1 hb1
           have hM := HM.out w1 rfl hb1
           clear c0 c1 c2 c3 c4 c5 c6 c7 c8
           have c0 := cellP hB 0 _ rfl; have c1 := cellP hB 1 _ rfl; have c2 := cellP hB 2 _ rfl; have c3 := cellP hB 3 _ rfl; have c4 := cellP hB 4 _ rfl; have c5 := cellP hB 5 _ rfl; have c6 := cellP hB 6 _ rfl; have c7 := cellP hB 7 _ rfl; have c8 := cellP hB 8 _ rfl
           clear hB)
        | (go_at_call 16; refine hM.mono ?_; rintro e w2 ⟨rfl, hb2⟩)
        | (go_at_call 15; refine awake_any.mono ?_; rintro e w3 ⟨rfl, hb3⟩))
      go_ret
      exact ⟨rfl, belowP hbA (belowP hb1 (belowP hb2 hb3))⟩
    · go_wp2_with (go_at_call 7; refine hF.mono ?_; rintro e w1 ⟨rfl, hb1⟩)
      go_ret
      exact ⟨rfl, belowP hbA hb1⟩
end Go.Proofs.Ytalmghbkdelaoaa
namespace Go.Proofs.Ytalmghbkdelaoaa
open Go.RowKit Go.Maps

theorem find_any {O : Nat → Prop} {w : World} {p : Option Addr} {c : Nat} {l : Nms} (h : RdN O w p c l) (hz : SzN l) (s : ByteArray) :
    Calls Try.prog 20 #[.slice p l.length c, .string s] w fun e w' => e = .returned (.tuple #[.int .i64 ((fnd l s).getD 0), .bool (fnd l s).isSome]) ∧ w = w' := by
  obtain ⟨n, hn⟩ : ∃ n, l.length = n := ⟨_, rfl⟩
  have HN : Hid (l.length = n) := hn
  have hz1 := hz.1
  have hc := h.1.1
  rw [hn] at hz1 hc ⊢
  clear hn
  go_enter Try.func20, Try.ntmps20
  go_wp2
  go_loopw [6] (fun i wr => (∃ k : Nat, i = .int .i64 k ∧ k ≤ n ∧ fnd (l.take k) s = none) ∧ wr = w) (fun i _ => n - (intOf i).toNat)
  case atStart => exact ⟨⟨0, rfl, Nat.zero_le _, rfl⟩, rfl⟩
  case round =>
    obtain ⟨⟨k, rfl, hk, hf⟩, hwr⟩ := hrel
    rw [hwr]
    clear hwr
    by_cases hkn : k < n
    · have hkl : k < l.length := by rw [HN.out]; exact hkn
      obtain ⟨b, o, rfl, hb, h1, h2⟩ := h.at hkl
      cases he : ((l.getD k zN).1.toList == s.toList) with
      | true =>
        have HF : Hid (fnd l s = some (l.getD k zN).2) := fnd_hit hf hkl he
        generalize l.getD k zN = x at h1 h2 he HF
        obtain ⟨xn, xl⟩ := x
        simp only at h1 h2 he
        clear hf
        go_wp2
        go_ret2
        exact ⟨by rw [HF.out]; rfl, rfl⟩
      | false =>
        have HF : Hid (fnd (l.take (k + 1)) s = none) := fnd_miss hf hkl he
        generalize l.getD k zN = x at h1 h2 he
        obtain ⟨xn, xl⟩ := x
        simp only at h1 h2 he
        clear hf
        go_wp2
        go_roundw
        case rel => exact ⟨⟨k + 1, by simp, by omega, HF.out⟩, trivial⟩
        case measure => simp [intOf]; omega
    · obtain rfl : k = n := by omega
      have HF : Hid (fnd l s = none) := by show _ = _; rw [← List.take_length (l := l), HN.out]; exact hf
      clear hf
      go_wp2
      go_ret2
      exact ⟨by rw [HF.out]; rfl, rfl⟩
/-- May a name's level be another one? -/
def mayN (a b : Nms) (s : Int) (n : ByteArray) (below : Bool) : Bool := !(Chg.turns ⟨n, fnd a n, fnd b n⟩ && (over s (fnd a n) || over s (fnd b n) || (below && least s (fnd a n))))
theorem rmay_any {O : Nat → Prop} {w : World} {p q : Option Addr} {c d : Nat} {a b : Nms} (ha : RdN O w p c a) (hb : RdN O w q d b) (hza : SzN a) (hzb : SzN b) (n : ByteArray) (s : Int) (below : Bool) :
    Calls Try.prog 39 #[.slice p a.length c, .slice q b.length d, .string n, .int .i64 s, .bool below] w fun e w' => e = .returned (.bool (mayN a b s n below)) ∧ w = w' := by
  have h1 := find_any ha hza n
  have h2 := find_any hb hzb n
  unfold mayN Chg.turns
  generalize fnd a n = oa at h1
  generalize fnd b n = ob at h2
  clear ha hb hza hzb
  generalize a.length = la at h1
  generalize b.length = lb at h2
  have key : ∀ (v : Bool), v = (!(!(oa == ob) && (over s oa || over s ob || (below && least s oa)))) → (Calls Try.prog 39 #[.slice p la c, .slice q lb d, .string n, .int .i64 s, .bool below] w fun e w' => e = .returned (.bool v) ∧ w = w') := by
    intro v hv
    have HV := (show Hid _ from hv)
    clear hv
    cases oa with
    | none =>
      cases ob with
      | none =>
        go_enter Try.func39, Try.ntmps39
        go_wp2_with (first
          | (have _h := hdone; go_at_call 20; refine h2.mono ?_; rintro e w' ⟨rfl, rfl⟩)
          | (go_at_call 20; refine h1.mono ?_; rintro e w' ⟨rfl, rfl⟩; have hdone : True := trivial))
        go_ret
        exact ⟨by rw [HV.out]; rfl, rfl⟩
      | some y =>
        by_cases hy : s < y
        all_goals
          cases below
          all_goals
            go_enter Try.func39, Try.ntmps39
            go_wp2_with (first
              | (have _h := hdone; go_at_call 20; refine h2.mono ?_; rintro e w' ⟨rfl, rfl⟩)
              | (go_at_call 20; refine h1.mono ?_; rintro e w' ⟨rfl, rfl⟩; have hdone : True := trivial))
            go_ret
            exact ⟨by rw [HV.out]; simp [over, least, hy], rfl⟩
    | some x =>
      cases ob with
      | none =>
        by_cases hx : s < x <;> by_cases hl : s ≤ x
        all_goals
          cases below
          all_goals
            go_enter Try.func39, Try.ntmps39
            go_wp2_with (first
              | (have _h := hdone; go_at_call 20; refine h2.mono ?_; rintro e w' ⟨rfl, rfl⟩)
              | (go_at_call 20; refine h1.mono ?_; rintro e w' ⟨rfl, rfl⟩; have hdone : True := trivial))
            go_ret
            exact ⟨by rw [HV.out]; simp [over, least, hx, hl], rfl⟩
      | some y =>
        by_cases hxy : x = y
        · have hb : (x == y) = true := by simpa using hxy
          go_enter Try.func39, Try.ntmps39
          go_wp2_with (first
            | (have _h := hdone; go_at_call 20; refine h2.mono ?_; rintro e w' ⟨rfl, rfl⟩)
            | (go_at_call 20; refine h1.mono ?_; rintro e w' ⟨rfl, rfl⟩; have hdone : True := trivial))
          go_ret
          exact ⟨by rw [HV.out]; simp [hxy], rfl⟩
        · have hb : (x == y) = false := by simpa using hxy
          by_cases hx : s < x <;> by_cases hy : s < y <;> by_cases hl : s ≤ x
          all_goals
            cases below
            all_goals
              go_enter Try.func39, Try.ntmps39
              go_wp2_with (first
                | (have _h := hdone; go_at_call 20; refine h2.mono ?_; rintro e w' ⟨rfl, rfl⟩)
                | (go_at_call 20; refine h1.mono ?_; rintro e w' ⟨rfl, rfl⟩; have hdone : True := trivial))
              go_ret
              exact ⟨by rw [HV.out]; simp [over, least, hx, hy, hl, hxy], rfl⟩
  exact key _ rfl

theorem own_new0 {w : World} : (w.alloc (.cells #[] 36)).ownsRow w.heap.size 36 2 (.slice (some ⟨w.heap.size, 0, none⟩) 0 0) ([] : Nms).length (flatN []) :=
  ⟨rfl, .inr ⟨w.heap.size, 0, _, rfl, Nat.le_refl _, newP _, Nat.le_refl _, by unfold maxLen; omega, rfl, rfl⟩⟩
def okAll (a b : Nms) (self : ByteArray) (s : Int) (us : Bool) (l : Nms) : Bool := l.all fun p => mayN a b s p.1 (us && !(p.1.toList == self.toList))
theorem rall_any {O : Nat → Prop} {w : World} {p q : Option Addr} {c d : Nat} {a b : Nms} (ha : RdN O w p c a) (hb : RdN O w q d b) (hO : ∀ k, O k → k < w.heap.size) (hza : SzN a) (hzb : SzN b) (self : ByteArray) (s : Int) (us : Bool) :
    Calls Try.prog 28 #[.slice p a.length c, .slice q b.length d, .string self, .int .i64 s, .bool us] w fun e w' => e = .returned (.bool (okAll a b self s us (a ++ b))) ∧ Below w.heap.size w w' := by
  have HMy : Hid (∀ X n below, Below w.heap.size w X → ∀ m, Calls Try.prog 39 #[.slice p a.length c, .slice q b.length d, .string n, .int .i64 s, .bool below] (X.drewN m) fun e w' => e = .returned (.bool (mayN a b s n below)) ∧ w' = X.drewN m) := fun X n below hX m =>
    (rmay_any (O := O) ((ha.below hO hX).carry (O' := O) (w' := X.drewN m) fun k hk => ⟨hk, rfl⟩) ((hb.below hO hX).carry (O' := O) (w' := X.drewN m) fun k hk => ⟨hk, rfl⟩) hza hzb n s below).mono fun e w' h => ⟨h.1, h.2.symm⟩
  obtain ⟨ab, hab⟩ : ∃ ab, a ++ b = ab := ⟨_, rfl⟩
  obtain ⟨na, hna⟩ : ∃ n, a.length = n := ⟨_, rfl⟩
  obtain ⟨nb, hnb⟩ : ∃ n, b.length = n := ⟨_, rfl⟩
  have HNA : Hid (a.length = na) := hna
  have HNB : Hid (b.length = nb) := hnb
  have HA : Hid (∀ X, Below w.heap.size w X → RdN O X p c a) := fun X hX => ha.below hO hX
  have HB : Hid (∀ X, Below w.heap.size w X → RdN O X q d b) := fun X hX => hb.below hO hX
  have HZ : Hid (na ≤ 80000 ∧ nb ≤ 80000) := ⟨by have := hza.1; omega, by have := hzb.1; omega⟩
  have HAB : Hid (a ++ b = ab) := hab
  have HABL : Hid (ab.length = na + nb) := by show _ = _; rw [← hab, List.length_append, hna, hnb]
  obtain ⟨n, hn⟩ : ∃ n, ab.length = n := ⟨_, rfl⟩
  have HN : Hid (ab.length = n) := hn
  have HN2 : Hid ((a ++ b).length = n) := by show _ = _; rw [hab]; exact hn
  clear hn
  rw [hna, hnb] at HMy ⊢
  rw [hab]
  clear hna hnb hab ha hb hza hzb
  have hbA : Below w.heap.size w (w.alloc (.cells #[] 36)) := (Below.refl _ _).alloc (Nat.le_refl _) _
  have hrdA := HA.out _ hbA
  have hown0 := own_new0 (w := w)
  go_enter Try.func28, Try.ntmps28
  go_upto_region 2 with (first
    | (have _h := hdone; refine wpList_append_rdN rfl _ _ rfl w.heap.size _ a rfl hown1 hrdB (by rw [HNB.out]; rfl) (by rw [HNA.out]; have := HZ.out; omega) (by rw [HNB.out]; have := HZ.out; omega) hb1.size ?_
       intro v2 w2 hown2 hg2
       have hb2 : Below w.heap.size w w2 := hb1.grown hg2 hb1.size (fun k e => (hown1.lt k e).1)
       obtain ⟨pr, cr, hv2, hrd2⟩ := own_rdN hown2
       rw [HN2.out] at hv2
       subst hv2
       clear hown2 hg2)
    | (refine wpList_append_rdN rfl _ _ rfl w.heap.size _ [] rfl hown0 hrdA (by rw [HNA.out]; rfl) (by simp) (by rw [HNA.out]; have := HZ.out; omega) hbA.size ?_
       intro v1 w1 hown1 hg1
       have hdone : True := trivial
       have hb1 : Below w.heap.size w w1 := hbA.grown hg1 hbA.size (fun k e => (hown0.lt k e).1)
       have hrdB := HB.out _ hb1
       clear hg1))
  have HR2 : Hid (RdN (fun k => w.heap.size ≤ k ∧ k < w2.heap.size) w2 pr cr ab) := by show RdN _ _ _ _ _; rw [← HAB.out]; exact hrd2
  have hcr := HR2.out.1.1
  rw [HN.out] at hcr
  have hn2 : n ≤ 160000 := by have := HABL.out; have := HN.out; have := HZ.out; omega
  clear hrd2 hrdA hrdB hown0 hown1 hbA hdone
  go_wp2
  go_loopw [12] (fun i wr => ∃ k : Nat, i = .int .i64 k ∧ k ≤ n ∧ okAll a b self s us (ab.take k) = true ∧ Below w2.heap.size w2 wr) (fun i _ => n - (intOf i).toNat)
  case atStart => exact ⟨0, rfl, Nat.zero_le _, rfl, Below.refl _ _⟩
  case round =>
    obtain ⟨k, rfl, hk, hok, hbr⟩ := hrel
    by_cases hkn : k < n
    · have hkl : k < ab.length := by rw [HN.out]; exact hkn
      obtain ⟨rb, ro, rfl, hrb, h1, _⟩ := HR2.out.at hkl
      have h1' := (hbr.cell (p := ⟨rb, ro + k * 2, none⟩) hrb.2).trans h1
      have HT : Hid (okAll a b self s us (ab.take (k + 1)) = mayN a b s (ab.getD k zN).1 (us && !((ab.getD k zN).1.toList == self.toList))) := by
        show _ = _
        unfold okAll at hok ⊢
        rw [allN_take hkl, hok, Bool.true_and]
      have HE : Hid (mayN a b s (ab.getD k zN).1 (us && !((ab.getD k zN).1.toList == self.toList)) = false → okAll a b self s us ab = false) := fun h => by
        unfold okAll
        exact allN_not hkl h
      generalize ab.getD k zN = x at h1' HT HE
      obtain ⟨xn, xl⟩ := x
      simp only at h1' HT HE
      have hbw := belowP hb2 hbr
      have HQ := (show Hid _ from HMy.out wr xn (us && !(xn.toList == self.toList)) hbw)
      have hrlt : rb < wr.heap.size := Nat.lt_of_lt_of_le hrb.2 hbr.size
      have hk1 : ∀ (wx : World) (m : Nat), Below w2.heap.size w2 wx → Below w2.heap.size w2 (wx.drewN m) := fun wx m h => ⟨h.os, h.tape, h.output, h.size, h.block⟩
      clear h1 hok
      generalize hmv : mayN a b s xn (us && !(xn.toList == self.toList)) = mv at HQ HT HE
      clear hmv
      cases us with
      | false =>
        simp only [Bool.false_and] at HQ
        cases mv with
        | true =>
          go_wp2_with fail
          go_quiet ((go_at_call 39; exact (HQ.out _).mono fun _ _ h => ⟨h.1, _, h.2⟩))
          go_wp2_with fail
          go_roundw
          case rel => exact ⟨k + 1, by simp, by omega, HT.out, hk1 _ _ hbr⟩
          case measure => simp [intOf]; omega
        | false =>
          go_wp2_with fail
          go_quiet ((go_at_call 39; exact (HQ.out _).mono fun _ _ h => ⟨h.1, _, h.2⟩))
          go_wp2_with fail
          go_ret
          exact ⟨by rw [HE.out (by first | rfl | trivial)]; rfl, belowP hb2 (hk1 _ _ hbr)⟩
      | true =>
        cases he : (xn.toList == self.toList) with
        | true =>
          rw [he] at HQ
          simp only [Bool.not_true, Bool.and_false] at HQ
          cases mv with
          | true =>
            go_wp2_with fail
            go_quiet ((go_at_call 39; exact (HQ.out _).mono fun _ _ h => ⟨h.1, _, h.2⟩))
            go_wp2_with fail
            go_roundw
            case rel => exact ⟨k + 1, by simp, by omega, HT.out, hk1 _ _ hbr⟩
            case measure => simp [intOf]; omega
          | false =>
            go_wp2_with fail
            go_quiet ((go_at_call 39; exact (HQ.out _).mono fun _ _ h => ⟨h.1, _, h.2⟩))
            go_wp2_with fail
            go_ret
            exact ⟨by rw [HE.out (by first | rfl | trivial)]; rfl, belowP hb2 (hk1 _ _ hbr)⟩
        | false =>
          rw [he] at HQ
          simp only [Bool.not_false, Bool.and_true] at HQ
          cases mv with
          | true =>
            go_wp2_with fail
            go_quiet ((go_at_call 39; exact (HQ.out _).mono fun _ _ h => ⟨h.1, _, h.2⟩))
            go_wp2_with fail
            go_roundw
            case rel => exact ⟨k + 1, by simp, by omega, HT.out, hk1 _ _ hbr⟩
            case measure => simp [intOf]; omega
          | false =>
            go_wp2_with fail
            go_quiet ((go_at_call 39; exact (HQ.out _).mono fun _ _ h => ⟨h.1, _, h.2⟩))
            go_wp2_with fail
            go_ret
            exact ⟨by rw [HE.out (by first | rfl | trivial)]; rfl, belowP hb2 (hk1 _ _ hbr)⟩
    · obtain rfl : k = n := by omega
      have HOK : Hid (okAll a b self s us ab = true) := by show _ = _; rw [← hok, ← HN.out, List.take_length]
      clear hok
      go_wp2
      go_ret
      exact ⟨by rw [HOK.out]; rfl, belowP hb2 hbr⟩

def n7 (l : Lv) : List Int := [l.ban, l.kick, l.invite, l.redact, l.state, l.events, l.users]
theorem rnumbers_any {w : World} {l : Lv} {p : Pl} :
    Calls Try.prog 21 #[valL l p] w fun e w' => (∃ b, e = .returned (.slice (some ⟨b, 0, none⟩) 7 7) ∧ w'.heap[b]? = some (.cells ((n7 l).map (Value.int .i64)).toArray 2 (0, 0))) ∧ Below w.heap.size w w' := by
  obtain ⟨ban, kick, invite, redact, state, events, users, us, ty⟩ := l
  obtain ⟨pu, cu, pt, ct⟩ := p
  simp only [valL, cellsL]
  go_enter Try.func21, Try.ntmps21
  go_wp2
  go_ret
  refine ⟨⟨_, rfl, ?_⟩, ((Below.refl _ _).alloc (Nat.le_refl _) _).alloc (by simp) _⟩
  exact (allocP2 (w := w) (.cells #[.int .i64 ban, .int .i64 kick, .int .i64 invite, .int .i64 redact, .int .i64 state, .int .i64 events, .int .i64 users, .slice pu us.length cu, .slice pt ty.length ct] 24) (.cells #[.int .i64 ban, .int .i64 kick, .int .i64 invite, .int .i64 redact, .int .i64 state, .int .i64 events, .int .i64 users] 2)).2
theorem ruser_lv {O : Nat → Prop} {w : World} {l : Lv} {p : Pl} (h : IsL O w l p) (hO : ∀ k, O k → k < w.heap.size) (hz : SzL l) (s : ByteArray) :
    Calls Try.prog 10 #[valL l p, .string s] w fun e w' => e = .returned (.int .i64 (usr l s)) ∧ Below w.heap.size w w' := by
  have hb : Below w.heap.size w (w.alloc (.cells (cellsL l p).toArray 24)) := (Below.refl _ _).alloc (Nat.le_refl _) _
  have hf := find_any (h.us.below hO hb) hz.us s
  have HB : Hid (Below w.heap.size w (w.alloc (.cells (cellsL l p).toArray 24))) := hb
  unfold usr
  generalize fnd l.byUser s = o at hf
  obtain ⟨ban, kick, invite, redact, state, events, users, us, ty⟩ := l
  obtain ⟨pu, cu, pt, ct⟩ := p
  simp only [valL, cellsL] at hf hb ⊢
  clear h hz hb
  cases o with
  | none =>
    go_enter Try.func10, Try.ntmps10
    go_wp2_with (go_at_call 20; refine hf.mono ?_; rintro e w1 ⟨rfl, rfl⟩)
    go_ret
    exact ⟨rfl, HB.out⟩
  | some y =>
    go_enter Try.func10, Try.ntmps10
    go_wp2_with (go_at_call 20; refine hf.mono ?_; rintro e w1 ⟨rfl, rfl⟩)
    go_ret
    exact ⟨rfl, HB.out⟩
/-- Of two numbers one is above s, and they are not the same. -/
def lift1 (s : Int) (x y : Int) : Bool := !(x == y) && (decide (s < x) || decide (s < y))
def okNum (s : Int) (a b : List Int) : Bool := !(a.zip b).any fun q => lift1 s q.1 q.2
def mayR (a b : Lv) (u : ByteArray) : Bool := okNum (usr a u) (n7 a) (n7 b) && (okAll a.byType b.byType ⟨#[]⟩ (usr a u) false (a.byType ++ b.byType) && okAll a.byUser b.byUser u (usr a u) true (a.byUser ++ b.byUser))
theorem okNum_take {s : Int} {a b : List Int} {k : Nat} (hk : k < a.length) (hl : a.length = b.length) : ((a.zip b).take (k + 1)).any (fun q => lift1 s q.1 q.2) = (((a.zip b).take k).any (fun q => lift1 s q.1 q.2) || lift1 s (a.getD k 0) (b.getD k 0)) := by
  have hz : k < (a.zip b).length := by rw [List.length_zip]; omega
  rw [take_one (z := (0, 0)) hz, List.any_append]
  simp only [List.any_cons, List.any_nil, Bool.or_false]
  rw [List.getD_eq_getElem?_getD, List.getElem?_eq_getElem hz, List.getD_eq_getElem?_getD, List.getElem?_eq_getElem hk, List.getD_eq_getElem?_getD, List.getElem?_eq_getElem (by omega : k < b.length)]
  simp
theorem cells7 {w : World} {b : Nat} {l : List Int} (h : w.heap[b]? = some (.cells (l.map (Value.int .i64)).toArray 2 (0, 0))) {k : Nat} (hk : k < l.length) : w.cell? ⟨b, k, none⟩ = some (.int .i64 (l.getD k 0)) := by
  refine cellP h k _ ?_
  rw [List.getElem?_toArray, List.getElem?_map, List.getElem?_eq_getElem hk, List.getD_eq_getElem?_getD, List.getElem?_eq_getElem hk]
  rfl
theorem rMay_lv {O : Nat → Prop} {w : World} {a b : Lv} {pa pb : Pl} (ha : IsL O w a pa) (hb : IsL O w b pb) (hO : ∀ k, O k → k < w.heap.size) (hza : SzL a) (hzb : SzL b) (u : ByteArray) :
    Calls Try.prog 17 #[valL a pa, valL b pb, .string u] w fun e w' => e = .returned (.bool (mayR a b u)) ∧ Below w.heap.size w w' := by
  obtain ⟨W0, hW0⟩ : ∃ W0, W0 = (w.alloc (.cells (cellsL a pa).toArray 24)).alloc (.cells (cellsL b pb).toArray 24) := ⟨_, rfl⟩
  have hb0 : Below w.heap.size w W0 := by rw [hW0]; exact ((Below.refl _ _).alloc (Nat.le_refl _) _).alloc (by simp) _
  have hs0 : w.heap.size + 2 ≤ W0.heap.size := by rw [hW0]; simp
  have k01 := allocP2 (w := w) (.cells (cellsL a pa).toArray 24) (.cells (cellsL b pb).toArray 24)
  rw [← hW0] at k01
  have hU := ruser_lv (ha.below hO hb0) (fun k hk => Nat.lt_of_lt_of_le (hO k hk) hb0.size) hza u
  have HMay : Hid (mayR a b u = (okNum (usr a u) (n7 a) (n7 b) && (okAll a.byType b.byType ⟨#[]⟩ (usr a u) false (a.byType ++ b.byType) && okAll a.byUser b.byUser u (usr a u) true (a.byUser ++ b.byUser)))) := rfl
  have HT : Hid (∀ X, Below w.heap.size w X → Calls Try.prog 28 #[.slice pa.pt a.byType.length pa.ct, .slice pb.pt b.byType.length pb.ct, .string ⟨#[]⟩, .int .i64 (usr a u), .bool false] X fun e w' => e = .returned (.bool (okAll a.byType b.byType ⟨#[]⟩ (usr a u) false (a.byType ++ b.byType))) ∧ Below X.heap.size X w') := fun X hX => rall_any (ha.ty.below hO hX) (hb.ty.below hO hX) (fun k hk => Nat.lt_of_lt_of_le (hO k hk) hX.size) hza.ty hzb.ty _ _ _
  have HUs : Hid (∀ X, Below w.heap.size w X → Calls Try.prog 28 #[.slice pa.pu a.byUser.length pa.cu, .slice pb.pu b.byUser.length pb.cu, .string u, .int .i64 (usr a u), .bool true] X fun e w' => e = .returned (.bool (okAll a.byUser b.byUser u (usr a u) true (a.byUser ++ b.byUser))) ∧ Below X.heap.size X w') := fun X hX => rall_any (ha.us.below hO hX) (hb.us.below hO hX) (fun k hk => Nat.lt_of_lt_of_le (hO k hk) hX.size) hza.us hzb.us _ _ _
  generalize okAll a.byType b.byType ⟨#[]⟩ (usr a u) false (a.byType ++ b.byType) = OT at HMay HT
  generalize okAll a.byUser b.byUser u (usr a u) true (a.byUser ++ b.byUser) = OU at HMay HUs
  generalize mayR a b u = MAY at HMay ⊢
  generalize usr a u = s at hU HMay HT HUs
  have HN1 : Hid (∀ X : World, Calls Try.prog 21 #[valL a pa] X fun e w' => (∃ b, e = .returned (.slice (some ⟨b, 0, none⟩) 7 7) ∧ w'.heap[b]? = some (.cells ((n7 a).map (Value.int .i64)).toArray 2 (0, 0))) ∧ Below X.heap.size X w') := fun X => rnumbers_any
  have HN2 : Hid (∀ X : World, Calls Try.prog 21 #[valL b pb] X fun e w' => (∃ b', e = .returned (.slice (some ⟨b', 0, none⟩) 7 7) ∧ w'.heap[b']? = some (.cells ((n7 b).map (Value.int .i64)).toArray 2 (0, 0))) ∧ Below X.heap.size X w') := fun X => rnumbers_any
  have HL7 : Hid ((n7 a).length = 7 ∧ (n7 b).length = 7) := ⟨rfl, rfl⟩
  have HK : Hid (∀ X, Below W0.heap.size W0 X → X.heap[w.heap.size]? = some (.cells (cellsL a pa).toArray 24 (0, 0)) ∧ X.heap[w.heap.size + 1]? = some (.cells (cellsL b pb).toArray 24 (0, 0))) := fun X hX => ⟨(hX.block _ (by omega)).trans k01.1, (hX.block _ (by omega)).trans k01.2⟩
  generalize n7 a = NA at HMay HN1 HL7
  generalize n7 b = NB at HMay HN2 HL7
  obtain ⟨ban, kick, invite, redact, state, events, users, us, ty⟩ := a
  obtain ⟨pu, cu, pt, ct⟩ := pa
  obtain ⟨ban', kick', invite', redact', state', events', users', us', ty'⟩ := b
  obtain ⟨pu', cu', pt', ct'⟩ := pb
  clear ha hb hza hzb k01 hO
  simp only [valL, cellsL] at hW0 hU HK HN1 HN2 HT HUs ⊢
  go_enter Try.func17, Try.ntmps17
  go_upto_region 1 with fail
  rw [← hW0]
  obtain ⟨q0, q1⟩ := HK.out W0 (Below.refl _ _)
  have c0 := cellP q0 0 _ rfl; have c1 := cellP q0 1 _ rfl; have c2 := cellP q0 2 _ rfl; have c3 := cellP q0 3 _ rfl; have c4 := cellP q0 4 _ rfl; have c5 := cellP q0 5 _ rfl; have c6 := cellP q0 6 _ rfl; have c7 := cellP q0 7 _ rfl; have c8 := cellP q0 8 _ rfl
  clear q0 q1 hW0
  go_upto_region 2 with (go_at_call 10; refine hU.mono ?_; rintro e W2 ⟨rfl, hb2⟩)
  clear c0 c1 c2 c3 c4 c5 c6 c7 c8 hU
  have HC0 : Hid (∀ X, Below W2.heap.size W2 X → X.heap[w.heap.size]? = some (.cells #[.int .i64 ban, .int .i64 kick, .int .i64 invite, .int .i64 redact, .int .i64 state, .int .i64 events, .int .i64 users, .slice pu us.length cu, .slice pt ty.length ct] 24 (0, 0))) := fun X hX => (HK.out X (belowP hb2 hX)).1
  have HC1 : Hid (∀ X, Below W2.heap.size W2 X → X.heap[w.heap.size + 1]? = some (.cells #[.int .i64 ban', .int .i64 kick', .int .i64 invite', .int .i64 redact', .int .i64 state', .int .i64 events', .int .i64 users', .slice pu' us'.length cu', .slice pt' ty'.length ct'] 24 (0, 0))) := fun X hX => (HK.out X (belowP hb2 hX)).2
  refine wp_narrow ?_
  refine wp_region_in (by kernel_rfl) (fun w' => Below W2.heap.size W2 w') ?_
  change wpIn _ _ _ _ _ _ _ _ (World.drew _)
  have hD : Below W2.heap.size W2 W2.drew := (Below.refl _ _).drew
  refine wpIn_take (i := 0) (d := (some 14)) (v := ?vqy0) (a' := ?aqy0) rfl rfl (by kernel_rfl) (by kernel_rfl) (by kernel_rfl) (fun _ _ _ h => h) (Or.inl ⟨by rfl, ?yqy0⟩) ?fqy0 ?_
  case yqy0 => (intro wq hq; have zz := HC0.out wq hq; have z0 := cellP zz 0 _ rfl; have z1 := cellP zz 1 _ rfl; have z2 := cellP zz 2 _ rfl; have z3 := cellP zz 3 _ rfl; have z4 := cellP zz 4 _ rfl; have z5 := cellP zz 5 _ rfl; have z6 := cellP zz 6 _ rfl; have z7 := cellP zz 7 _ rfl; have z8 := cellP zz 8 _ rfl; go_simp; first | done | with_reducible rfl)
  case fqy0 => (go_frame; rfl)
  refine wpIn_take (i := 2) (d := (some 16)) (v := ?vqy2) (a' := ?aqy2) rfl rfl (by kernel_rfl) (by kernel_rfl) (by kernel_rfl) (fun _ _ _ h => h) (Or.inl ⟨by rfl, ?yqy2⟩) ?fqy2 ?_
  case yqy2 => (intro wq hq; have zz := HC1.out wq hq; have z0 := cellP zz 0 _ rfl; have z1 := cellP zz 1 _ rfl; have z2 := cellP zz 2 _ rfl; have z3 := cellP zz 3 _ rfl; have z4 := cellP zz 4 _ rfl; have z5 := cellP zz 5 _ rfl; have z6 := cellP zz 6 _ rfl; have z7 := cellP zz 7 _ rfl; have z8 := cellP zz 8 _ rfl; go_simp; first | done | with_reducible rfl)
  case fqy2 => (go_frame; rfl)
  refine wpIn_do (i := 1) hD (by kernel_rfl) rfl (by rfl) ?_
  intro K hK
  go_simp
  go_wp2_with (go_at_call 21; refine (HN1.out _).mono ?_; rintro e w3 ⟨⟨b3, rfl, hr3⟩, hb3⟩)
  have hD3 : Below W2.heap.size W2 w3 := belowP hD hb3
  refine wpIn_do (i := 3) hD3 (by kernel_rfl) rfl (by rfl) ?_
  intro K hK
  go_simp
  go_wp2_with (go_at_call 21; refine (HN2.out _).mono ?_; rintro e w4 ⟨⟨b4, rfl, hr4⟩, hb4⟩)
  have hD4 : Below W2.heap.size W2 w4 := belowP hD3 hb4
  refine wpIn_take (i := 4) (d := (some 8)) (v := ?vqy4) (a' := ?aqy4) rfl rfl (by kernel_rfl) (by kernel_rfl) (by kernel_rfl) (fun _ _ _ h => h) (Or.inl ⟨by rfl, ?yqy4⟩) ?fqy4 ?_
  case yqy4 => (intro wq hq; go_simp; first | done | with_reducible rfl)
  case fqy4 => (go_frame; rfl)
  refine wpIn_take (i := 5) (d := (some 9)) (v := ?vqy5) (a' := ?aqy5) rfl rfl (by kernel_rfl) (by kernel_rfl) (by kernel_rfl) (fun _ _ _ h => h) (Or.inl ⟨by rfl, ?yqy5⟩) ?fqy5 ?_
  case yqy5 => (intro wq hq; go_simp; first | done | with_reducible rfl)
  case fqy5 => (go_frame; rfl)
  refine wpIn_done hD4 (by kernel_rfl) ?_ _
  have hlt3 := objP_lt hr3
  have hr34 := (hb4.block b3 hlt3).trans hr3
  have HR3 := (show Hid _ from hr34)
  have HR4 := (show Hid _ from hr4)
  have hlt4 := objP_lt hr4
  have hlt34 := objP_lt hr34
  have HBW : Hid (Below w.heap.size w w4) := belowP hb0 (belowP hb2 hD4)
  have HB0 : Hid (Below W0.heap.size W0 w4) := belowP hb2 hD4
  clear hr3 hr34 hr4 hD hD3 hb3 hb4 hlt3 HN1 HN2 HC0 HC1
  go_wp2
  go_loopw [10] (fun i wr => ∃ k : Nat, i = .int .i64 k ∧ k ≤ 7 ∧ Hid (((NA.zip NB).take k).any (fun q => lift1 s q.1 q.2) = false) ∧ Below w4.heap.size w4 wr) (fun i _ => 7 - (intOf i).toNat)
  case atStart => exact ⟨0, rfl, by omega, rfl, Below.refl _ _⟩
  case round =>
    obtain ⟨k, rfl, hk, hno, hbr⟩ := hrel
    have hk1 : ∀ (wx : World) (m : Nat), Below w4.heap.size w4 wx → Below w4.heap.size w4 (wx.drewN m) := fun wx m h => ⟨h.os, h.tape, h.output, h.size, h.block⟩
    by_cases hkn : k < 7
    · have x3 := cells7 ((hbr.block b3 hlt34).trans HR3.out) (k := k) (by rw [HL7.out.1]; exact hkn)
      have x4 := cells7 ((hbr.block b4 hlt4).trans HR4.out) (k := k) (by rw [HL7.out.2]; exact hkn)
      have HTk : Hid (((NA.zip NB).take (k + 1)).any (fun q => lift1 s q.1 q.2) = lift1 s (NA.getD k 0) (NB.getD k 0)) := by
        show _ = _
        rw [okNum_take (by rw [HL7.out.1]; exact hkn) (by rw [HL7.out.1, HL7.out.2]), hno.out, Bool.false_or]
      have HEk : Hid (lift1 s (NA.getD k 0) (NB.getD k 0) = true → okNum s NA NB = false) := fun h => by
        unfold okNum
        rw [Bool.not_eq_false']
        have := HTk.out
        rw [h] at this
        obtain ⟨x, hx, hx2⟩ := List.any_eq_true.1 this
        exact List.any_eq_true.2 ⟨x, List.mem_of_mem_take hx, hx2⟩
      generalize NA.getD k 0 = x at x3 HTk HEk
      generalize NB.getD k 0 = y at x4 HTk HEk
      have hl3 : b3 < wr.heap.size := Nat.lt_of_lt_of_le hlt34 hbr.size
      have hl4 : b4 < wr.heap.size := Nat.lt_of_lt_of_le hlt4 hbr.size
      by_cases hxy : x = y
      · have hbq : (x == y) = true := by simpa using hxy
        have HTf : Hid (lift1 s x y = false) := by show _ = _; simp [lift1, hxy]
        clear hno
        subst hxy
        go_wp2_with fail
        go_quiet (fail)
        go_wp2_with fail
        go_roundw
        case rel => exact ⟨k + 1, by simp, by omega, by show _ = _; rw [HTk.out, HTf.out], hk1 _ _ hbr⟩
        case measure => simp [intOf]; omega
      · have hbq : (x == y) = false := by simpa using hxy
        by_cases hsx : s < x
        · have HTf : Hid (okNum s NA NB = false) := HEk.out (by simp [lift1, hxy, hsx])
          have hdx : decide (x > s) = true := by simpa using hsx
          clear hno
          go_wp2_with fail
          go_quiet (fail)
          go_wp2_with fail
          go_ret
          exact ⟨by rw [HMay.out, HTf.out]; rfl, belowP HBW.out (hk1 _ _ hbr)⟩
        · by_cases hsy : s < y
          · have HTf : Hid (okNum s NA NB = false) := HEk.out (by simp [lift1, hxy, hsy])
            clear hno
            go_wp2_with fail
            go_quiet (fail)
            go_wp2_with fail
            go_ret
            exact ⟨by rw [HMay.out, HTf.out]; rfl, belowP HBW.out (hk1 _ _ hbr)⟩
          · have HTf : Hid (lift1 s x y = false) := by show _ = _; simp [lift1, hsx, hsy]
            clear hno
            go_wp2_with fail
            go_quiet (fail)
            go_wp2_with fail
            go_roundw
            case rel => exact ⟨k + 1, by simp, by omega, by show _ = _; rw [HTk.out, HTf.out], hk1 _ _ hbr⟩
            case measure => simp [intOf]; omega
    · obtain rfl : k = 7 := by omega
      have HON : Hid (okNum s NA NB = true) := by
        show _ = _
        unfold okNum
        have := hno.out
        rw [List.take_of_length_le (by rw [List.length_zip, HL7.out.1, HL7.out.2]; omega)] at this
        rw [this]; rfl
      clear hno
      obtain ⟨e0, e1⟩ := HK.out wr (belowP HB0.out hbr)
      have c7 := cellP e0 7 _ rfl; have c8 := cellP e0 8 _ rfl; have d7 := cellP e1 7 _ rfl; have d8 := cellP e1 8 _ rfl
      have hT := HT.out wr (belowP HBW.out hbr)
      clear e0 e1
      cases OT with
      | false =>
        go_wp2_with (go_at_call 28; refine hT.mono ?_; rintro e w6 ⟨rfl, hb6⟩)
        go_ret
        exact ⟨by rw [HMay.out, HON.out]; rfl, belowP HBW.out (belowP hbr hb6)⟩
      | true =>
        go_wp2_with (first
          | (have _h := hdone; go_at_call 28; refine hU2.mono ?_; rintro e w7 ⟨rfl, hb7⟩)
          | (go_at_call 28; refine hT.mono ?_; rintro e w6 ⟨rfl, hb6⟩
             have hdone : True := trivial
             obtain ⟨e0, e1⟩ := HK.out w6 (belowP HB0.out (belowP hbr hb6))
             clear c7 c8 d7 d8
             have c7 := cellP e0 7 _ rfl; have d7 := cellP e1 7 _ rfl
             have hU2 := HUs.out w6 (belowP HBW.out (belowP hbr hb6))
             clear e0 e1))
        go_ret
        exact ⟨by rw [HMay.out, HON.out]; rfl, belowP HBW.out (belowP hbr (belowP hb6 hb7))⟩
end Go.Proofs.Ytalmghbkdelaoaa

/-
  Chapter 10's examples: by contracts.
  Servers' names, local names and types, as the document answers: by contracts.
  Names taken apart as the document answers, by contracts; and where a name is at home.
  The document's users and types: by contracts.
  PowerTells: the walk of the law.
-/
import Derived.Test.YtcaknajjkfiaoaaPT10
set_option maxRecDepth 100000
set_option maxHeartbeats 16000000
namespace Go.Proofs.Ytcaknajjkfiaoaa
open Go.RowKit
theorem num_any {w : World} (n : Int) : Calls Try.prog 9 #[.int .i64 n] w fun e w' => e = .returned (.agg #[.int .i64 2, .int .i64 n, .string ⟨#[]⟩, .slice none 0 0, .slice none 0 0]) ∧ Below w.heap.size w w' := by
 have h5 := newP (w := w) (.cells #[.int .i64 2, .int .i64 n, .string ⟨#[]⟩, .slice none 0 0, .slice none 0 0] 25)
 have hb : Below w.heap.size w (w.alloc (.cells #[.int .i64 2, .int .i64 n, .string ⟨#[]⟩, .slice none 0 0, .slice none 0 0] 25)) := (Below.refl _ _).alloc (Nat.le_refl _) _
 go_enter Try.func9, Try.ntmps9
 go_wp2
 refine bodyPost_ret (resultsP_cell rfl _ _ _ rfl (loadJP h5)) rfl ?_
 exact ⟨rfl, hb⟩
def usersJ (s : ByteArray) (n : Int) : J := .mk 5 0 nix [kByUser] [.mk 5 0 nix [s] [.mk 2 n nix [] []]]
theorem isJ_empty (O : Nat → Prop) (w : World) : isJ O w (.mk 5 0 nix [] []) [.int .i64 5, .int .i64 0, .string ⟨#[]⟩, .slice none 0 0, .slice none 0 0] := by
 unfold isJ
 exact ⟨none, 0, none, 0, rfl, RdK.nil _ _, Nat.le_refl _, by unfold isJs; trivial⟩
theorem isJ_int (O : Nat → Prop) (w : World) (n : Int) : isJ O w (.mk 2 n nix [] []) [.int .i64 2, .int .i64 n, .string ⟨#[]⟩, .slice none 0 0, .slice none 0 0] := by
 unfold isJ
 exact ⟨none, 0, none, 0, rfl, RdK.nil _ _, Nat.le_refl _, by unfold isJs; trivial⟩
theorem users_any {w : World} (s : ByteArray) (n : Int) : Calls Try.prog 15 #[.string s, .int .i64 n] w fun e w' => (∃ k i t p m c q r d, e = .returned (.agg #[.int .i64 k, .int .i64 i, .string t, .slice p m c, .slice q r d]) ∧ isJ (fun b => b < w'.heap.size) w' (usersJ s n) [.int .i64 k, .int .i64 i, .string t, .slice p m c, .slice q r d]) ∧ Below w.heap.size w w' := by
 obtain ⟨wA, hwA⟩ : ∃ wA, wA = w.alloc (.cells #[.int .i64 0, .int .i64 0, .string ⟨#[]⟩, .slice none 0 0, .slice none 0 0] 25) := ⟨_, rfl⟩
 have hbA : Below w.heap.size w wA := by rw [hwA]; exact (Below.refl _ _).alloc (Nat.le_refl _) _
 have hA : wA.heap[w.heap.size]? = some (.cells #[.int .i64 0, .int .i64 0, .string ⟨#[]⟩, .slice none 0 0, .slice none 0 0] 25 (0, 0)) := by rw [hwA]; exact newP _
 have hsA := objP_lt hA
 have HA := (show Hid _ from hA)
 have hNum := num_any (w := wA) n
 have HP : Hid (∀ X : World, Calls Try.prog 8 #[.agg #[.int .i64 5, .int .i64 0, .string ⟨#[]⟩, .slice none 0 0, .slice none 0 0], .string s, .agg #[.int .i64 2, .int .i64 n, .string ⟨#[]⟩, .slice none 0 0, .slice none 0 0]] X fun x w' => (∃ b1 c1 b2 c2, x = .returned (.agg #[.int .i64 5, .int .i64 0, .string ⟨#[]⟩, .slice (some ⟨b1, 0, none⟩) (0 + 1) c1, .slice (some ⟨b2, 0, none⟩) (0 + 1) c2]) ∧ isJ (fun b => False ∨ New X w' b) w' (.mk 5 0 nix [s] [.mk 2 n nix [] []]) [.int .i64 5, .int .i64 0, .string ⟨#[]⟩, .slice (some ⟨b1, 0, none⟩) (0 + 1) c1, .slice (some ⟨b2, 0, none⟩) (0 + 1) c2]) ∧ Below X.heap.size X w') := fun X =>
  Pt.rPut_any (O := fun _ => False) s (fun _ h => h.elim) (isJ_empty _ _) (isJ_int _ _ n) (fun _ => rfl) (fun _ => rfl) (by omega) (by omega)
 have HP2 : Hid (∀ (X : World) b1 c1 b2 c2, isJ (fun b => wA.heap.size ≤ b ∧ b < X.heap.size) X (.mk 5 0 nix [s] [.mk 2 n nix [] []]) [.int .i64 5, .int .i64 0, .string ⟨#[]⟩, .slice (some ⟨b1, 0, none⟩) 1 c1, .slice (some ⟨b2, 0, none⟩) 1 c2] → Calls Try.prog 8 #[.agg #[.int .i64 5, .int .i64 0, .string ⟨#[]⟩, .slice none 0 0, .slice none 0 0], .string kByUser, .agg #[.int .i64 5, .int .i64 0, .string ⟨#[]⟩, .slice (some ⟨b1, 0, none⟩) 1 c1, .slice (some ⟨b2, 0, none⟩) 1 c2]] X fun x w' => (∃ b1 c1 b2 c2, x = .returned (.agg #[.int .i64 5, .int .i64 0, .string ⟨#[]⟩, .slice (some ⟨b1, 0, none⟩) (0 + 1) c1, .slice (some ⟨b2, 0, none⟩) (0 + 1) c2]) ∧ isJ (fun b => (wA.heap.size ≤ b ∧ b < X.heap.size) ∨ New X w' b) w' (usersJ s n) [.int .i64 5, .int .i64 0, .string ⟨#[]⟩, .slice (some ⟨b1, 0, none⟩) (0 + 1) c1, .slice (some ⟨b2, 0, none⟩) (0 + 1) c2]) ∧ Below X.heap.size X w') := fun X b1 c1 b2 c2 hj =>
  Pt.rPut_any (O := fun b => wA.heap.size ≤ b ∧ b < X.heap.size) kByUser (fun _ h => h.2) (isJ_empty _ _) hj (fun _ => rfl) (fun _ => rfl) (by omega) (by omega)
 clear hA
 go_enter Try.func15, Try.ntmps15
 go_upto_region 1 with fail
 rw [← hwA]
 clear hwA
 go_wp2_with (first
  | (go_at_call 9; refine hNum.mono ?_; rintro e w1 ⟨rfl, hb1⟩; have hP := HP.out w1; clear hNum)
  | (go_at_call 8; refine hP.mono ?_; rintro e w2 ⟨⟨b1, c1, b2, c2, rfl, hj2⟩, hb2⟩
     have hbB : Below w2.heap.size w2 (w2.alloc (.cells #[.int .i64 5, .int .i64 0, .string ⟨#[]⟩, .slice (some ⟨b1, 0, none⟩) 1 c1, .slice (some ⟨b2, 0, none⟩) 1 c2] 25)) := (Below.refl _ _).alloc (Nat.le_refl _) _
     have hP2 := HP2.out (w2.alloc (.cells #[.int .i64 5, .int .i64 0, .string ⟨#[]⟩, .slice (some ⟨b1, 0, none⟩) 1 c1, .slice (some ⟨b2, 0, none⟩) 1 c2] 25)) b1 c1 b2 c2 (hj2.carry fun b hb => by
      have hn : New w1 w2 b := hb.elim (fun h => h.elim) (fun h => h)
      exact ⟨⟨Nat.le_trans hb1.size hn.1, Nat.lt_of_lt_of_le hn.2 hbB.size⟩, hbB.block b hn.2⟩)
     clear hP hj2)
  | (go_at_call 8; refine hP2.mono ?_; rintro e w3 ⟨⟨b1', c1', b2', c2', rfl, hj3⟩, hb3⟩
     have hbC : Below wA.heap.size wA w3 := belowP hb1 (belowP hb2 (belowP hbB hb3))
     have hres := (hbC.block _ hsA).trans HA.out
     have i0 := cellP hres 0 _ rfl; have i1 := cellP hres 1 _ rfl; have i2 := cellP hres 2 _ rfl; have i3 := cellP hres 3 _ rfl; have i4 := cellP hres 4 _ rfl
     have z0 := fzP hres 0; have z1 := fzP hres 1; have z2 := fzP hres 2; have z3 := fzP hres 3; have z4 := fzP hres 4
     have HJ3 := (show Hid _ from hj3)
     clear hj3 hP2))
 have h5 := setL_all (b := w.heap.size) [.int .i64 5, .int .i64 0, .string ⟨#[]⟩, .slice (some ⟨b1', 0, none⟩) 1 c1', .slice (some ⟨b2', 0, none⟩) 1 c2'] hres rfl
 have HK5 := setL_keep w.heap.size [.int .i64 5, .int .i64 0, .string ⟨#[]⟩, .slice (some ⟨b1', 0, none⟩) 1 c1', .slice (some ⟨b2', 0, none⟩) 1 c2'] w3 0
 simp only [setL, Nat.zero_add, Nat.reduceAdd] at h5 HK5
 refine bodyPost_ret (resultsP_cell rfl _ _ _ rfl (loadJP h5)) rfl ?_
 have hb := belowP hbA hbC
 refine ⟨⟨_, _, _, _, _, _, _, _, _, rfl, ?_⟩, hb.trans (HK5.below hb.size fun q hq e => by unfold OneP at e; omega)⟩
 refine isJ.carry (fun b hb' => ?_) _ _ HJ3.out
 have hlt : b < w3.heap.size ∧ wA.heap.size ≤ b := by
  have s1 := hb1.size; have s2 := hb2.size; have s3 := hb3.size; have sB := hbB.size
  rcases hb' with h | h
  · exact ⟨Nat.lt_of_lt_of_le h.2 s3, h.1⟩
  · exact ⟨h.2, by have := h.1; omega⟩
 exact ⟨Nat.lt_of_lt_of_le hlt.1 HK5.size, HK5.block b hlt.1 (by unfold OneP; omega)⟩
def sampL : Lv := ⟨50, 50, 0, 50, 50, 0, 0, [(⟨#[64, 97, 58, 115]⟩, 50)], []⟩
theorem samp_parse : parseT (ordT (usersJ ⟨#[64, 97, 58, 115]⟩ 50)) = (sampL, 0) := by kernel_rfl
theorem samp_sz : szJ 12 (usersJ ⟨#[64, 97, 58, 115]⟩ 50) = true := by kernel_rfl
def sampM (x : Int) : Lv := { sampL with byUser := (⟨#[64, 98, 58, 115]⟩, x) :: sampL.byUser }
theorem samp_u1 : usr sampL ⟨#[64, 97, 58, 115]⟩ = 50 := by kernel_rfl
theorem samp_u2 : usr sampL ⟨#[64, 98, 58, 115]⟩ = 0 := by kernel_rfl
theorem samp_m1 : mayL sampL (sampM 51) ⟨#[64, 97, 58, 115]⟩ = false := by kernel_rfl
theorem samp_m2 : mayL sampL (sampM 50) ⟨#[64, 97, 58, 115]⟩ = true := by kernel_rfl
theorem own_new1 {w : World} (s : ByteArray) (x : Int) : (w.alloc (.cells #[.string s, .int .i64 x] 45)).ownsRow w.heap.size 45 2 (.slice (some ⟨w.heap.size, 0, none⟩) 1 1) [(s, x)].length (flatN [(s, x)]) :=
 ⟨rfl, .inr ⟨w.heap.size, 1, _, rfl, Nat.le_refl _, newP _, Nat.le_refl _, by unfold maxLen; omega, rfl, rfl⟩⟩
theorem own_open {w : World} {B : Nat} {v : Value} {l : Nms} (h : w.ownsRow B 45 2 v l.length (flatN l)) : ∃ p c, v = .slice p l.length c ∧ RdN (fun k => B ≤ k ∧ k < w.heap.size) w p c l := own_rdN h
theorem awake_any {w : World} : Calls Try.prog 5 #[] w fun e w' => e = .returned (.bool true) ∧ Below w.heap.size w w' := by
 have hUs := users_any (w := w) ⟨#[64, 97, 58, 115]⟩ 50
 have HPa : Hid (∀ X k i t p m c q r d, Below w.heap.size w X → isJ (fun b => b < X.heap.size) X (usersJ ⟨#[64, 97, 58, 115]⟩ 50) [.int .i64 k, .int .i64 i, .string t, .slice p m c, .slice q r d] → Calls Try.prog 6 #[.agg #[.int .i64 k, .int .i64 i, .string t, .slice p m c, .slice q r d]] X fun e w' => (∃ p, e = .returned (.tuple #[valL sampL p, .int .i64 0]) ∧ IsL (fun b => X.heap.size ≤ b ∧ b < w'.heap.size) w' sampL p) ∧ Below X.heap.size X w') := fun X k i t p m c q r d _ hj => by
  have h := parse_any hj (fun _ h => h) samp_sz
  rw [samp_parse] at h
  exact h
 go_enter Try.func5, Try.ntmps5
 go_upto_region 2 with (first
  | (go_at_call 15; refine hUs.mono ?_; rintro e w1 ⟨⟨k, i, t, p, m, c, q, r, d, rfl, hj⟩, hb1⟩; have hPa := HPa.out w1 k i t p m c q r d hb1 hj; clear hj hUs)
  | (go_at_call 6; refine hPa.mono ?_; rintro e w2 ⟨⟨⟨pu, cu, pt, ct⟩, rfl, hIs⟩, hb2⟩; simp only [valL, cellsL, sampL, List.length_cons, List.length_nil, Nat.zero_add]; clear hPa))
 obtain ⟨W1, hW1⟩ : ∃ W1, W1 = w2.alloc (.cells #[.int .i64 50, .int .i64 50, .int .i64 0, .int .i64 50, .int .i64 50, .int .i64 0, .int .i64 0, .slice pu 1 cu, .slice pt 0 ct] 30) := ⟨_, rfl⟩
 rw [← hW1]
 have hB1 : W1.heap[w2.heap.size]? = some (.cells #[.int .i64 50, .int .i64 50, .int .i64 0, .int .i64 50, .int .i64 50, .int .i64 0, .int .i64 0, .slice pu 1 cu, .slice pt 0 ct] 30 (0, 0)) := by rw [hW1]; exact newP _
 have hbW1 : Below w2.heap.size w2 W1 := by rw [hW1]; exact (Below.refl _ _).alloc (Nat.le_refl _) _
 have hs1 : w2.heap.size < W1.heap.size := by rw [hW1]; simp
 have HIS : Hid (IsL (fun b => b < w2.heap.size) w2 sampL ⟨pu, cu, pt, ct⟩) := hIs.carry fun b hb => ⟨hb.2, rfl⟩
 have c0 := cellP hB1 0 _ rfl; have c1 := cellP hB1 1 _ rfl; have c2 := cellP hB1 2 _ rfl; have c3 := cellP hB1 3 _ rfl; have c4 := cellP hB1 4 _ rfl; have c5 := cellP hB1 5 _ rfl; have c6 := cellP hB1 6 _ rfl; have c7 := cellP hB1 7 _ rfl; have c8 := cellP hB1 8 _ rfl
 clear hW1 hIs
 go_upto_region 3 with fail
 clear c0 c1 c2 c3 c4 c5 c6 c7 c8
 obtain ⟨W2, hW2⟩ : ∃ W2, W2 = W1.alloc (.cells #[.int .i64 50, .int .i64 50, .int .i64 0, .int .i64 50, .int .i64 50, .int .i64 0, .int .i64 0, .slice pu 1 cu, .slice pt 0 ct] 30) := ⟨_, rfl⟩
 have hB3 : W2.heap[W1.heap.size]? = some (.cells #[.int .i64 50, .int .i64 50, .int .i64 0, .int .i64 50, .int .i64 50, .int .i64 0, .int .i64 0, .slice pu 1 cu, .slice pt 0 ct] 30 (0, 0)) := by rw [hW2]; exact newP _
 have hbW2 : Below W1.heap.size W1 W2 := by rw [hW2]; exact (Below.refl _ _).alloc (Nat.le_refl _) _
 have hs2 : W1.heap.size < W2.heap.size := by rw [hW2]; simp
 have hB1' := (hbW2.block w2.heap.size (by omega)).trans hB1
 have hb22 : Below w2.heap.size w2 W2 := belowP hbW1 hbW2
 rw [← hW2]
 have y7 := cellP (((Below.refl W2.heap.size W2).alloc (Nat.le_refl _) (.cells #[.string ⟨#[64, 98, 58, 115]⟩, .int .i64 51] 45)).block w2.heap.size (by omega) |>.trans hB1') 7 _ rfl
 have hownA := own_new1 (w := W2) ⟨#[64, 98, 58, 115]⟩ 51
 have hrdA : RdN (fun b => b < w2.heap.size) (W2.alloc (.cells #[.string ⟨#[64, 98, 58, 115]⟩, .int .i64 51] 45)) pu cu [(⟨#[64, 97, 58, 115]⟩, 50)] := (HIS.out.us.below (fun _ h => h) hb22).below (B := W2.heap.size) (w' := W2.alloc (.cells #[.string ⟨#[64, 98, 58, 115]⟩, .int .i64 51] 45)) (fun k hk => by omega) ((Below.refl _ _).alloc (Nat.le_refl _) _)
 have HX3 : Hid (∀ X, (W2.alloc (.cells #[.string ⟨#[64, 98, 58, 115]⟩, .int .i64 51] 45)).grownBy X (some W2.heap.size) → Below W2.heap.size W2 X) := fun X hX => ((Below.refl _ _).alloc (Nat.le_refl _) _).grown hX (by simp) (fun k e => by cases e; exact Nat.le_refl _)
 clear hW2
 go_upto_region 4 with (refine wpList_append_rdN rfl _ _ rfl W2.heap.size _ [(⟨#[64, 98, 58, 115]⟩, 51)] rfl hownA hrdA rfl (by simp) (by simp) (by simp) ?_
                        intro v4 w4 hown4 hg4
                        have hb4 : Below W2.heap.size W2 w4 := HX3.out w4 hg4
                        obtain ⟨q4, d4, hq4, hrd4⟩ := own_open hown4; replace hq4 : v4 = .slice q4 2 d4 := hq4; subst hq4
                        have hB34 := (hb4.block W1.heap.size (by omega)).trans hB3
                        have g7 := cellP hB34 7 _ rfl
                        have f7 := fzP hB34 7
                        clear hown4 hg4)
 clear g7 f7 y7 hownA hrdA
 have hs4 := hb4.size
 obtain ⟨W5, hW5⟩ : ∃ W5, W5 = w4.setCell ⟨W1.heap.size, 7, none⟩ (.slice q4 2 d4) := ⟨_, rfl⟩
 have hB35 : W5.heap[W1.heap.size]? = some (.cells #[.int .i64 50, .int .i64 50, .int .i64 0, .int .i64 50, .int .i64 50, .int .i64 0, .int .i64 0, .slice q4 2 d4, .slice pt 0 ct] 30 (0, 0)) := by
  rw [hW5, heap_setCell_same w4 W1.heap.size 7 _ _ _ hB34]; rfl
 have hs5 : W5.heap.size ≤ w4.heap.size ∧ w4.heap.size ≤ W5.heap.size := by rw [hW5]; simp
 have hk5 : ∀ k, k ≠ W1.heap.size → W5.heap[k]? = w4.heap[k]? := fun k hk => by rw [hW5]; exact Below.heap_setCell _ _ _ _ hk
 have hb5 : Below w2.heap.size w2 W5 := by rw [hW5]; exact (belowP hb22 hb4).setCell (p := ⟨W1.heap.size, 7, none⟩) (by simp; omega) _
 have hB15 : W5.heap[w2.heap.size]? = some (.cells #[.int .i64 50, .int .i64 50, .int .i64 0, .int .i64 50, .int .i64 50, .int .i64 0, .int .i64 0, .slice pu 1 cu, .slice pt 0 ct] 30 (0, 0)) := (hk5 _ (by omega)).trans ((hb4.block _ (by omega)).trans hB1')
 have hrd5 : RdN (fun k => k < W5.heap.size ∧ k ≠ W1.heap.size) W5 q4 d4 [(⟨#[64, 98, 58, 115]⟩, 51), (⟨#[64, 97, 58, 115]⟩, 50)] := RdN.carry hrd4 fun k hk => ⟨⟨by omega, by omega⟩, hk5 k (by omega)⟩
 have HR5 := (show Hid _ from hrd5)
 have c0 := cellP hB15 0 _ rfl; have c1 := cellP hB15 1 _ rfl; have c2 := cellP hB15 2 _ rfl; have c3 := cellP hB15 3 _ rfl; have c4 := cellP hB15 4 _ rfl; have c5 := cellP hB15 5 _ rfl; have c6 := cellP hB15 6 _ rfl; have c7 := cellP hB15 7 _ rfl; have c8 := cellP hB15 8 _ rfl
 rw [← hW5]
 clear hW5 hB34 hB3 hB1 hB1' hrd4 hrd5
 go_upto_region 5 with fail
 clear c0 c1 c2 c3 c4 c5 c6 c7 c8
 obtain ⟨W6, hW6⟩ : ∃ W6, W6 = W5.alloc (.cells #[.int .i64 50, .int .i64 50, .int .i64 0, .int .i64 50, .int .i64 50, .int .i64 0, .int .i64 0, .slice pu 1 cu, .slice pt 0 ct] 30) := ⟨_, rfl⟩
 have hbW6 : Below W5.heap.size W5 W6 := by rw [hW6]; exact (Below.refl _ _).alloc (Nat.le_refl _) _
 have hs6 : W5.heap.size < W6.heap.size := by rw [hW6]; simp
 have hB46 : W6.heap[W5.heap.size]? = some (.cells #[.int .i64 50, .int .i64 50, .int .i64 0, .int .i64 50, .int .i64 50, .int .i64 0, .int .i64 0, .slice pu 1 cu, .slice pt 0 ct] 30 (0, 0)) := by rw [hW6]; exact newP _
 have hB16 := (hbW6.block w2.heap.size (by omega)).trans hB15
 have hB36 := (hbW6.block W1.heap.size (by omega)).trans hB35
 have hb26 : Below w2.heap.size w2 W6 := belowP hb5 hbW6
 rw [← hW6]
 have y7 := cellP (((Below.refl W6.heap.size W6).alloc (Nat.le_refl _) (.cells #[.string ⟨#[64, 98, 58, 115]⟩, .int .i64 50] 45)).block w2.heap.size (by omega) |>.trans hB16) 7 _ rfl
 have hownA := own_new1 (w := W6) ⟨#[64, 98, 58, 115]⟩ 50
 have hrdA : RdN (fun b => b < w2.heap.size) (W6.alloc (.cells #[.string ⟨#[64, 98, 58, 115]⟩, .int .i64 50] 45)) pu cu [(⟨#[64, 97, 58, 115]⟩, 50)] := (HIS.out.us.below (fun _ h => h) hb26).below (B := W6.heap.size) (w' := W6.alloc (.cells #[.string ⟨#[64, 98, 58, 115]⟩, .int .i64 50] 45)) (fun k hk => by have := hb26.size; omega) ((Below.refl _ _).alloc (Nat.le_refl _) _)
 have HX6 : Hid (∀ X, (W6.alloc (.cells #[.string ⟨#[64, 98, 58, 115]⟩, .int .i64 50] 45)).grownBy X (some W6.heap.size) → Below W6.heap.size W6 X) := fun X hX => ((Below.refl _ _).alloc (Nat.le_refl _) _).grown hX (by simp) (fun k e => by cases e; exact Nat.le_refl _)
 clear hW6
 go_upto_region 6 with (refine wpList_append_rdN rfl _ _ rfl W6.heap.size _ [(⟨#[64, 98, 58, 115]⟩, 50)] rfl hownA hrdA rfl (by simp) (by simp) (by simp) ?_
                        intro v7 w7 hown7 hg7
                        have hb7 : Below W6.heap.size W6 w7 := HX6.out w7 hg7
                        obtain ⟨q7, d7, hq7, hrd7⟩ := own_open hown7; replace hq7 : v7 = .slice q7 2 d7 := hq7; subst hq7
                        have hB47 := (hb7.block W5.heap.size (by omega)).trans hB46
                        have g7 := cellP hB47 7 _ rfl
                        have f7 := fzP hB47 7
                        clear hown7 hg7)
 clear g7 f7 y7 hownA hrdA
 have hs7 := hb7.size
 obtain ⟨W8, hW8⟩ : ∃ W8, W8 = w7.setCell ⟨W5.heap.size, 7, none⟩ (.slice q7 2 d7) := ⟨_, rfl⟩
 have hB48 : W8.heap[W5.heap.size]? = some (.cells #[.int .i64 50, .int .i64 50, .int .i64 0, .int .i64 50, .int .i64 50, .int .i64 0, .int .i64 0, .slice q7 2 d7, .slice pt 0 ct] 30 (0, 0)) := by
  rw [hW8, heap_setCell_same w7 W5.heap.size 7 _ _ _ hB47]; rfl
 have hs8 : W8.heap.size ≤ w7.heap.size ∧ w7.heap.size ≤ W8.heap.size := by rw [hW8]; simp
 have hk8 : ∀ k, k ≠ W5.heap.size → W8.heap[k]? = w7.heap[k]? := fun k hk => by rw [hW8]; exact Below.heap_setCell _ _ _ _ hk
 have hb8 : Below w2.heap.size w2 W8 := by rw [hW8]; exact (belowP hb26 hb7).setCell (p := ⟨W5.heap.size, 7, none⟩) (by have := hb5.size; simp; omega) _
 have hb58 : ∀ k, k < W5.heap.size → W8.heap[k]? = W5.heap[k]? := fun k hk => (hk8 k (by omega)).trans ((hb7.block k (by omega)).trans (hbW6.block k hk))
 have hB18 : W8.heap[w2.heap.size]? = some (.cells #[.int .i64 50, .int .i64 50, .int .i64 0, .int .i64 50, .int .i64 50, .int .i64 0, .int .i64 0, .slice pu 1 cu, .slice pt 0 ct] 30 (0, 0)) := (hb58 _ (by omega)).trans hB15
 have hB38 : W8.heap[W1.heap.size]? = some (.cells #[.int .i64 50, .int .i64 50, .int .i64 0, .int .i64 50, .int .i64 50, .int .i64 0, .int .i64 0, .slice q4 2 d4, .slice pt 0 ct] 30 (0, 0)) := (hb58 _ (by omega)).trans hB35
 have HB8 : Hid (∀ X, Below W8.heap.size W8 X → X.heap[w2.heap.size]? = some (.cells #[.int .i64 50, .int .i64 50, .int .i64 0, .int .i64 50, .int .i64 50, .int .i64 0, .int .i64 0, .slice pu 1 cu, .slice pt 0 ct] 30 (0, 0)) ∧ X.heap[W1.heap.size]? = some (.cells #[.int .i64 50, .int .i64 50, .int .i64 0, .int .i64 50, .int .i64 50, .int .i64 0, .int .i64 0, .slice q4 2 d4, .slice pt 0 ct] 30 (0, 0)) ∧ X.heap[W5.heap.size]? = some (.cells #[.int .i64 50, .int .i64 50, .int .i64 0, .int .i64 50, .int .i64 50, .int .i64 0, .int .i64 0, .slice q7 2 d7, .slice pt 0 ct] 30 (0, 0))) := fun X hX => ⟨(hX.block _ (objP_lt hB18)).trans hB18, (hX.block _ (objP_lt hB38)).trans hB38, (hX.block _ (objP_lt hB48)).trans hB48⟩
 have HI0 : Hid (∀ X, Below W8.heap.size W8 X → IsL (fun k => k < W8.heap.size) X sampL ⟨pu, cu, pt, ct⟩) := fun X hX => (HIS.out.carry (O' := fun k => k < W8.heap.size) (w' := W8) fun k hk => ⟨Nat.lt_of_lt_of_le hk hb8.size, hb8.block k hk⟩).below (fun _ h => h) hX
 have HI1 : Hid (∀ X, Below W8.heap.size W8 X → IsL (fun k => k < W8.heap.size) X (sampM 51) ⟨q4, d4, pt, ct⟩) := fun X hX => ⟨(RdN.carry HR5.out (O' := fun k => k < W8.heap.size) (w' := W8) fun k hk => ⟨by have := hk.1; omega, hb58 k hk.1⟩).below (fun _ h => h) hX, (HI0.out X hX).ty⟩
 have HI2 : Hid (∀ X, Below W8.heap.size W8 X → IsL (fun k => k < W8.heap.size) X (sampM 50) ⟨q7, d7, pt, ct⟩) := fun X hX => ⟨(RdN.carry hrd7 (O' := fun k => k < W8.heap.size) (w' := W8) fun k hk => ⟨by omega, hk8 k (by omega)⟩).below (fun _ h => h) hX, (HI0.out X hX).ty⟩
 have HBE : Hid (Below w.heap.size w W8) := belowP (belowP hb1 hb2) hb8
 rw [← hW8]
 have hsL : SzL sampL := ⟨⟨by decide, fun p hp => by simp [sampL] at hp; subst hp; decide⟩, ⟨by decide, fun p hp => by simp [sampL] at hp⟩⟩
 have hsM : ∀ x, SzL (sampM x) := fun x => ⟨⟨by show 2 ≤ _; omega, fun p hp => by simp [sampM, sampL] at hp; rcases hp with rfl | rfl <;> simp [ByteArray.size]⟩, ⟨by show 0 ≤ _; omega, fun p hp => by simp [sampM, sampL] at hp⟩⟩
 have HU : Hid (∀ X s, Below W8.heap.size W8 X → Calls Try.prog 12 #[.agg #[.int .i64 50, .int .i64 50, .int .i64 0, .int .i64 50, .int .i64 50, .int .i64 0, .int .i64 0, .slice pu 1 cu, .slice pt 0 ct], .string s] X fun e w' => e = .returned (.int .i64 (usr sampL s)) ∧ Below X.heap.size X w') := fun X s hX => user_lv (HI0.out X hX) (fun k hk => Nat.lt_of_lt_of_le hk hX.size) hsL s
 have HM1 : Hid (∀ X, Below W8.heap.size W8 X → Calls Try.prog 16 #[.agg #[.int .i64 50, .int .i64 50, .int .i64 0, .int .i64 50, .int .i64 50, .int .i64 0, .int .i64 0, .slice pu 1 cu, .slice pt 0 ct], .agg #[.int .i64 50, .int .i64 50, .int .i64 0, .int .i64 50, .int .i64 50, .int .i64 0, .int .i64 0, .slice q4 2 d4, .slice pt 0 ct], .string ⟨#[64, 97, 58, 115]⟩] X fun e w' => e = .returned (.bool false) ∧ Below X.heap.size X w') := fun X hX => by
  have h := may_lv (HI0.out X hX) (HI1.out X hX) (fun k hk => Nat.lt_of_lt_of_le hk hX.size) hsL (hsM 51) ⟨#[64, 97, 58, 115]⟩
  rw [samp_m1] at h
  exact h
 have HM2 : Hid (∀ X, Below W8.heap.size W8 X → Calls Try.prog 16 #[.agg #[.int .i64 50, .int .i64 50, .int .i64 0, .int .i64 50, .int .i64 50, .int .i64 0, .int .i64 0, .slice pu 1 cu, .slice pt 0 ct], .agg #[.int .i64 50, .int .i64 50, .int .i64 0, .int .i64 50, .int .i64 50, .int .i64 0, .int .i64 0, .slice q7 2 d7, .slice pt 0 ct], .string ⟨#[64, 97, 58, 115]⟩] X fun e w' => e = .returned (.bool true) ∧ Below X.heap.size X w') := fun X hX => by
  have h := may_lv (HI0.out X hX) (HI2.out X hX) (fun k hk => Nat.lt_of_lt_of_le hk hX.size) hsL (hsM 50) ⟨#[64, 97, 58, 115]⟩
  rw [samp_m2] at h
  exact h
 obtain ⟨e1, e3, e4⟩ := HB8.out W8 (Below.refl _ _)
 have c0 := cellP e1 0 _ rfl; have c1 := cellP e1 1 _ rfl; have c2 := cellP e1 2 _ rfl; have c3 := cellP e1 3 _ rfl; have c4 := cellP e1 4 _ rfl; have c5 := cellP e1 5 _ rfl; have c6 := cellP e1 6 _ rfl; have c7 := cellP e1 7 _ rfl; have c8 := cellP e1 8 _ rfl
 have hU1 := HU.out W8 ⟨#[64, 97, 58, 115]⟩ (Below.refl _ _)
 rw [samp_u1] at hU1
 clear hW8 hB47 hB46 hB48 hrd7 hB16 hB36 hB15 hB35 hB18 hB38 e1 e3 e4
 go_wp2_with (first
  | (go_at_call 12; refine hU1.mono ?_; rintro e x1 ⟨rfl, hx1⟩
     obtain ⟨e1, e3, e4⟩ := HB8.out x1 hx1
     clear c0 c1 c2 c3 c4 c5 c6 c7 c8
     have c0 := cellP e1 0 _ rfl; have c1 := cellP e1 1 _ rfl; have c2 := cellP e1 2 _ rfl; have c3 := cellP e1 3 _ rfl; have c4 := cellP e1 4 _ rfl; have c5 := cellP e1 5 _ rfl; have c6 := cellP e1 6 _ rfl; have c7 := cellP e1 7 _ rfl; have c8 := cellP e1 8 _ rfl
     have hU2 := HU.out x1 ⟨#[64, 98, 58, 115]⟩ hx1
     rw [samp_u2] at hU2
     clear hU1 e1 e3 e4)
  | (go_at_call 12; refine hU2.mono ?_; rintro e x2 ⟨rfl, hx2⟩
     have hX2 : Below W8.heap.size W8 x2 := belowP hx1 hx2
     obtain ⟨e1, e3, e4⟩ := HB8.out x2 hX2
     clear c0 c1 c2 c3 c4 c5 c6 c7 c8
     have c0 := cellP e1 0 _ rfl; have c1 := cellP e1 1 _ rfl; have c2 := cellP e1 2 _ rfl; have c3 := cellP e1 3 _ rfl; have c4 := cellP e1 4 _ rfl; have c5 := cellP e1 5 _ rfl; have c6 := cellP e1 6 _ rfl; have c7 := cellP e1 7 _ rfl; have c8 := cellP e1 8 _ rfl
     have d0 := cellP e3 0 _ rfl; have d1 := cellP e3 1 _ rfl; have d2 := cellP e3 2 _ rfl; have d3 := cellP e3 3 _ rfl; have d4 := cellP e3 4 _ rfl; have d5 := cellP e3 5 _ rfl; have d6 := cellP e3 6 _ rfl; have d7 := cellP e3 7 _ rfl; have d8 := cellP e3 8 _ rfl
     have hM1 := HM1.out x2 hX2
     clear hU2 e1 e3 e4)
  | (go_at_call 16; refine hM1.mono ?_; rintro e x3 ⟨rfl, hx3⟩
     have hX3 : Below W8.heap.size W8 x3 := belowP hX2 hx3
     obtain ⟨e1, e3, e4⟩ := HB8.out x3 hX3
     clear c0 c1 c2 c3 c4 c5 c6 c7 c8 d0 d1 d2 d3 d4 d5 d6 d7 d8
     have c0 := cellP e1 0 _ rfl; have c1 := cellP e1 1 _ rfl; have c2 := cellP e1 2 _ rfl; have c3 := cellP e1 3 _ rfl; have c4 := cellP e1 4 _ rfl; have c5 := cellP e1 5 _ rfl; have c6 := cellP e1 6 _ rfl; have c7 := cellP e1 7 _ rfl; have c8 := cellP e1 8 _ rfl
     have d0 := cellP e4 0 _ rfl; have d1 := cellP e4 1 _ rfl; have d2 := cellP e4 2 _ rfl; have d3 := cellP e4 3 _ rfl; have d4 := cellP e4 4 _ rfl; have d5 := cellP e4 5 _ rfl; have d6 := cellP e4 6 _ rfl; have d7 := cellP e4 7 _ rfl; have d8 := cellP e4 8 _ rfl
     have hM2 := HM2.out x3 hX3
     clear hM1 e1 e3 e4)
  | (go_at_call 16; refine hM2.mono ?_; rintro e x4 ⟨rfl, hx4⟩))
 go_ret
 exact ⟨rfl, belowP HBE.out (belowP hX3 hx4)⟩
end Go.Proofs.Ytcaknajjkfiaoaa
namespace Go.Proofs.Ytcaknajjkfiaoaa.Id
open Go.RowKit
theorem refServer_any (s : ByteArray) (w : World) (hs : s.size ≤ 140737488351232) :
    Calls Try.prog 46 #[.string s] w fun e w' => e = .returned (.bool (srv s)) ∧ w = w' := by
 unfold srv
 by_cases he : s.size = 0
 · have he' : (s.size : Int) = 0 := by omega
   go_enter Try.func46, Try.ntmps46
   go_wp2
   go_ret
   exact ⟨ret_bool (okText_none _ _ _ he).symm, rfl⟩
 by_cases hm : 32 < (s.size : Int)
 · go_enter Try.func46, Try.ntmps46
   go_wp2
   go_ret
   exact ⟨ret_bool (okText_long _ _ _ hm).symm, rfl⟩
 go_enter Try.func46, Try.ntmps46
 go_wp2
 go_loop [3] (fun i => ∃ k : Nat, k ≤ s.size ∧ i = .int .i64 k ∧ ∀ j, j < k → kSrv ((ints s).getD j 0) = true) (fun i => s.size - (intOf i).toNat)
 case atStart => exact ⟨0, Nat.zero_le _, rfl, fun j hj => by omega⟩
 case round =>
  obtain ⟨k, hk, rfl, hall⟩ := hrel
  have HA : Hid (∀ j, j < k → kSrv ((ints s).getD j 0) = true) := hall
  clear hall
  by_cases hlt : k < s.size
  · have HG : Hid ((ints s).getD k 0 = (s[k].toNat : Int)) := ints_getD s k hlt
    have hb1 : (s[k].toNat : Int) ≤ 255 := by have := s[k].toNat_lt; omega
    by_cases h0 : small (s[k].toNat : Int) = true
    · have HB : Hid (kSrv ((ints s).getD k 0) = true) := by rw [HG.out]; unfold kSrv; simp [h0]; exact trivial
      go_wp2_with (go_at_call 23; refine (small_any _ _).mono ?_; rintro e w' ⟨rfl, rfl⟩)
      go_round
      case rel => exact ⟨k + 1, by omega, by go_num, fun j hj => by
                            by_cases e : j = k
                            · rw [e]; exact HB.out
                            · exact HA.out j (by omega)⟩
      case measure => simp [intOf]; omega
    have h0' : small (s[k].toNat : Int) = false := by simpa using h0
    clear h0
    by_cases h45 : (s[k].toNat : Int) = 45
    · have HB : Hid (kSrv ((ints s).getD k 0) = true) := by rw [HG.out]; unfold kSrv; simp [h45]; exact trivial
      go_wp2_with (go_at_call 23; refine (small_any _ _).mono ?_; rintro e w' ⟨rfl, rfl⟩)
      go_round
      case rel => exact ⟨k + 1, by omega, by go_num, fun j hj => by
                            by_cases e : j = k
                            · rw [e]; exact HB.out
                            · exact HA.out j (by omega)⟩
      case measure => simp [intOf]; omega
    have HB : Hid (kSrv ((ints s).getD k 0) = false) := by rw [HG.out]; unfold kSrv; simp [h0', h45]; exact trivial
    go_wp2_with (go_at_call 23; refine (small_any _ _).mono ?_; rintro e w' ⟨rfl, rfl⟩)
    go_ret
    exact ⟨ret_bool (okText_bad _ _ _ k hlt HB.out).symm, rfl⟩
  · obtain rfl : k = s.size := by omega
    go_wp2
    go_ret
    exact ⟨ret_bool (okText_all _ _ _ (by omega) (by omega) HA.out).symm, rfl⟩
theorem refLocal_any (s : ByteArray) (w : World) (hs : s.size ≤ 140737488351232) :
    Calls Try.prog 45 #[.string s] w fun e w' => e = .returned (.bool (loc s)) ∧ w = w' := by
 unfold loc
 by_cases he : s.size = 0
 · have he' : (s.size : Int) = 0 := by omega
   go_enter Try.func45, Try.ntmps45
   go_wp2
   go_ret
   exact ⟨ret_bool (okText_none _ _ _ he).symm, rfl⟩
 by_cases hm : 32 < (s.size : Int)
 · go_enter Try.func45, Try.ntmps45
   go_wp2
   go_ret
   exact ⟨ret_bool (okText_long _ _ _ hm).symm, rfl⟩
 go_enter Try.func45, Try.ntmps45
 go_wp2
 go_loop [3] (fun i => ∃ k : Nat, k ≤ s.size ∧ i = .int .i64 k ∧ ∀ j, j < k → kLoc ((ints s).getD j 0) = true) (fun i => s.size - (intOf i).toNat)
 case atStart => exact ⟨0, Nat.zero_le _, rfl, fun j hj => by omega⟩
 case round =>
  obtain ⟨k, hk, rfl, hall⟩ := hrel
  have HA : Hid (∀ j, j < k → kLoc ((ints s).getD j 0) = true) := hall
  clear hall
  by_cases hlt : k < s.size
  · have HG : Hid ((ints s).getD k 0 = (s[k].toNat : Int)) := ints_getD s k hlt
    have hb1 : (s[k].toNat : Int) ≤ 255 := by have := s[k].toNat_lt; omega
    by_cases h0 : small (s[k].toNat : Int) = true
    · have HB : Hid (kLoc ((ints s).getD k 0) = true) := by rw [HG.out]; unfold kLoc; simp [h0]; exact trivial
      go_wp2_with (go_at_call 23; refine (small_any _ _).mono ?_; rintro e w' ⟨rfl, rfl⟩)
      go_round
      case rel => exact ⟨k + 1, by omega, by go_num, fun j hj => by
                            by_cases e : j = k
                            · rw [e]; exact HB.out
                            · exact HA.out j (by omega)⟩
      case measure => simp [intOf]; omega
    have h0' : small (s[k].toNat : Int) = false := by simpa using h0
    clear h0
    by_cases h45 : (s[k].toNat : Int) = 45
    · have HB : Hid (kLoc ((ints s).getD k 0) = true) := by rw [HG.out]; unfold kLoc; simp [h45]; exact trivial
      go_wp2_with (go_at_call 23; refine (small_any _ _).mono ?_; rintro e w' ⟨rfl, rfl⟩)
      go_round
      case rel => exact ⟨k + 1, by omega, by go_num, fun j hj => by
                            by_cases e : j = k
                            · rw [e]; exact HB.out
                            · exact HA.out j (by omega)⟩
      case measure => simp [intOf]; omega
    by_cases h95 : (s[k].toNat : Int) = 95
    · have HB : Hid (kLoc ((ints s).getD k 0) = true) := by rw [HG.out]; unfold kLoc; simp [h95]; exact trivial
      go_wp2_with (go_at_call 23; refine (small_any _ _).mono ?_; rintro e w' ⟨rfl, rfl⟩)
      go_round
      case rel => exact ⟨k + 1, by omega, by go_num, fun j hj => by
                            by_cases e : j = k
                            · rw [e]; exact HB.out
                            · exact HA.out j (by omega)⟩
      case measure => simp [intOf]; omega
    have HB : Hid (kLoc ((ints s).getD k 0) = false) := by rw [HG.out]; unfold kLoc; simp [h0', h45, h95]; exact trivial
    have b45 : ((s[k].toNat : Int) != 45) = true := by simp [h45]
    have b95 : ((s[k].toNat : Int) != 95) = true := by simp [h95]
    go_wp2_with (go_at_call 23; refine (small_any _ _).mono ?_; rintro e w' ⟨rfl, rfl⟩)
    go_ret
    exact ⟨ret_bool (okText_bad _ _ _ k hlt HB.out).symm, rfl⟩
  · obtain rfl : k = s.size := by omega
    go_wp2
    go_ret
    exact ⟨ret_bool (okText_all _ _ _ (by omega) (by omega) HA.out).symm, rfl⟩
theorem refType_any (s : ByteArray) (w : World) (hs : s.size ≤ 140737488351232) :
    Calls Try.prog 11 #[.string s] w fun e w' => e = .returned (.bool (typ s)) ∧ w = w' := by
 unfold typ
 by_cases he : s.size = 0
 · have he' : (s.size : Int) = 0 := by omega
   go_enter Try.func11, Try.ntmps11
   go_wp2
   go_ret
   exact ⟨ret_bool (okText_none _ _ _ he).symm, rfl⟩
 by_cases hm : 64 < (s.size : Int)
 · go_enter Try.func11, Try.ntmps11
   go_wp2
   go_ret
   exact ⟨ret_bool (okText_long _ _ _ hm).symm, rfl⟩
 go_enter Try.func11, Try.ntmps11
 go_wp2
 go_loop [3] (fun i => ∃ k : Nat, k ≤ s.size ∧ i = .int .i64 k ∧ ∀ j, j < k → kTyp ((ints s).getD j 0) = true) (fun i => s.size - (intOf i).toNat)
 case atStart => exact ⟨0, Nat.zero_le _, rfl, fun j hj => by omega⟩
 case round =>
  obtain ⟨k, hk, rfl, hall⟩ := hrel
  have HA : Hid (∀ j, j < k → kTyp ((ints s).getD j 0) = true) := hall
  clear hall
  by_cases hlt : k < s.size
  · have HG : Hid ((ints s).getD k 0 = (s[k].toNat : Int)) := ints_getD s k hlt
    have hb1 : (s[k].toNat : Int) ≤ 255 := by have := s[k].toNat_lt; omega
    by_cases h0 : small (s[k].toNat : Int) = true
    · have HB : Hid (kTyp ((ints s).getD k 0) = true) := by rw [HG.out]; unfold kTyp; simp [h0]; exact trivial
      go_wp2_with (go_at_call 23; refine (small_any _ _).mono ?_; rintro e w' ⟨rfl, rfl⟩)
      go_round
      case rel => exact ⟨k + 1, by omega, by go_num, fun j hj => by
                            by_cases e : j = k
                            · rw [e]; exact HB.out
                            · exact HA.out j (by omega)⟩
      case measure => simp [intOf]; omega
    have h0' : small (s[k].toNat : Int) = false := by simpa using h0
    clear h0
    by_cases h95 : (s[k].toNat : Int) = 95
    · have HB : Hid (kTyp ((ints s).getD k 0) = true) := by rw [HG.out]; unfold kTyp; simp [h95]; exact trivial
      go_wp2_with (go_at_call 23; refine (small_any _ _).mono ?_; rintro e w' ⟨rfl, rfl⟩)
      go_round
      case rel => exact ⟨k + 1, by omega, by go_num, fun j hj => by
                            by_cases e : j = k
                            · rw [e]; exact HB.out
                            · exact HA.out j (by omega)⟩
      case measure => simp [intOf]; omega
    have HB : Hid (kTyp ((ints s).getD k 0) = false) := by rw [HG.out]; unfold kTyp; simp [h0', h95]; exact trivial
    go_wp2_with (go_at_call 23; refine (small_any _ _).mono ?_; rintro e w' ⟨rfl, rfl⟩)
    go_ret
    exact ⟨ret_bool (okText_bad _ _ _ k hlt HB.out).symm, rfl⟩
  · obtain rfl : k = s.size := by omega
    go_wp2
    go_ret
    exact ⟨ret_bool (okText_all _ _ _ (by omega) (by omega) HA.out).symm, rfl⟩
theorem refParts_any (s : ByteArray) (c : Int) (w : World) (hs : s.size ≤ 1000000000) :
    Calls Try.prog 35 #[.int .u8 c, .string s] w fun e w' => e = .returned (told (parts c s)) ∧ Below w.heap.size w w' := by
 go_enter Try.func35, Try.ntmps35
 go_wp2
 go_loop [7] (fun i => ∃ k : Nat, 1 ≤ k ∧ (k ≤ s.size ∨ k = 1) ∧ i = .int .i64 k ∧ ∀ j, 1 ≤ j → j < k → (ints s).getD j 0 ≠ 58) (fun i => s.size - (intOf i).toNat)
 case atStart => exact ⟨1, Nat.le_refl _, .inr rfl, rfl, fun j h1 h2 => by omega⟩
 case round =>
  obtain ⟨k, h1, hk, rfl, hall⟩ := hrel
  have HA : Hid (∀ j, 1 ≤ j → j < k → (ints s).getD j 0 ≠ 58) := hall
  clear hall
  by_cases hlt : k < s.size
  · have h0 : 0 < s.size := by omega
    have HG0 : Hid ((ints s).getD 0 0 = (s[0].toNat : Int)) := ints_getD s 0 h0
    by_cases hc : (s[0].toNat : Int) = c
    · have HG : Hid ((ints s).getD k 0 = (s[k].toNat : Int)) := ints_getD s k hlt
      by_cases h58 : (s[k].toNat : Int) = 58
      · have HP : Hid (parts c s = if loc (s.extract 1 k) = true ∧ srv (s.extract (k + 1) s.size) = true then (s.extract 1 k, s.extract (k + 1) s.size, true) else (nix, nix, false)) :=
          parts_hit c s k (by rw [HG0.out]; exact hc) h1 hlt (by rw [HG.out]; exact h58) HA.out
        have hl1 : (s.extract 1 k).size ≤ 140737488351232 := by simp; omega
        have hl2 : (s.extract (k + 1) s.size).size ≤ 140737488351232 := by simp; omega
        by_cases hL : loc (s.extract 1 k) = true
        · by_cases hS : srv (s.extract (k + 1) s.size) = true
          · go_wp2_with (first
              | (go_at_call 45; refine (refLocal_any _ _ hl1).mono ?_; rintro e w' ⟨rfl, rfl⟩)
              | (go_at_call 46; refine (refServer_any _ _ hl2).mono ?_; rintro e w' ⟨rfl, rfl⟩))
            go_quiet (fail)
            go_wp2
            go_ret3
            exact ⟨ret_told (by rw [HP.out, if_pos ⟨hL, hS⟩]), below_drewN _ _⟩
          · have hS' : srv (s.extract (k + 1) s.size) = false := by simpa using hS
            go_wp2_with (first
             | (go_at_call 45; refine (refLocal_any _ _ hl1).mono ?_; rintro e w' ⟨rfl, rfl⟩)
             | (go_at_call 46; refine (refServer_any _ _ hl2).mono ?_; rintro e w' ⟨rfl, rfl⟩))
            go_ret3
            exact ⟨ret_told (by rw [HP.out, if_neg (by simp [hS'])]; rfl), Below.refl _ _⟩
        · have hL' : loc (s.extract 1 k) = false := by simpa using hL
          go_wp2_with (go_at_call 45; refine (refLocal_any _ _ hl1).mono ?_; rintro e w' ⟨rfl, rfl⟩)
          go_ret3
          exact ⟨ret_told (by rw [HP.out, if_neg (by simp [hL'])]; rfl), Below.refl _ _⟩
      · go_wp2
        go_round
        case rel => exact ⟨k + 1, by omega, .inl (by omega), by go_num, fun j hj hj' => by
                              by_cases e : j = k
                              · rw [e, HG.out]; exact h58
                              · exact HA.out j hj (by omega)⟩
        case measure => simp [intOf]; omega
    · go_wp2
      go_ret3
      exact ⟨ret_told (parts_other c s (.inr (.inl (by rw [HG0.out]; exact hc)))), Below.refl _ _⟩
  · go_wp2
    go_ret3
    refine ⟨ret_told (parts_other c s ?_), Below.refl _ _⟩
    exact .inr (.inr fun j hj hj' => HA.out j hj (by omega))
theorem refUser_any (s : ByteArray) (w : World) (hs : s.size ≤ 1000000000) :
    Calls Try.prog 22 #[.string s] w fun e w' => e = .returned (told (parts 64 s)) ∧ Below w.heap.size w w' := by
 go_enter Try.func22, Try.ntmps22
 go_wp2_with (go_at_call 35; refine (refParts_any s 64 _ hs).mono ?_; rintro e w1 ⟨rfl, hb1⟩; unfold told)
 go_ret3
 exact ⟨rfl, hb1⟩
end Go.Proofs.Ytcaknajjkfiaoaa.Id
namespace Go.Proofs.Ytcaknajjkfiaoaa
open Go.RowKit
theorem rIsU_any (s : ByteArray) (w : World) (hs : s.size ≤ 1000000000) : Calls Try.prog 10 #[.string s] w fun x w' => x = .returned (.bool (isU s)) ∧ Below w.heap.size w w' := by
 unfold isU
 go_enter Try.func10, Try.ntmps10
 go_wp2_with (go_at_call 22; refine (Id.refUser_any s _ hs).mono ?_; rintro e w1 ⟨rfl, hb1⟩; unfold Id.told)
 go_ret
 exact ⟨rfl, hb1⟩
theorem rIsT_any (s : ByteArray) (w : World) (hs : s.size ≤ 1000000000) : Calls Try.prog 11 #[.string s] w fun x w' => x = .returned (.bool (isT s)) ∧ Below w.heap.size w w' :=
 (Id.refType_any s w (by omega)).mono fun _ w' h => ⟨h.1, h.2 ▸ Below.refl _ _⟩
theorem get_some {O : Nat → Prop} {w : World} {j : J} {k i : Int} {t : ByteArray} {pk pl : Option Addr} {nk ck nl cl : Nat} (hj : isJ O w j [.int .i64 k, .int .i64 i, .string t, .slice pk nk ck, .slice pl nl cl]) (hO : ∀ b, O b → b < w.heap.size) (hz : j.ks.length ≤ 100000) (s : ByteArray) :
    Calls Try.prog 7 #[.agg #[.int .i64 k, .int .i64 i, .string t, .slice pk nk ck, .slice pl nl cl], .string s] w fun e w' => (∃ k i t p n c q m d, e = .returned (.tuple #[.agg #[.int .i64 k, .int .i64 i, .string t, .slice p n c, .slice q m d], .bool (getT j s).isSome])) ∧ Below w.heap.size w w' := by
 refine (get_any hj hO hz s).mono fun e w' h => ?_
 generalize getT j s = o at h
 cases o with
 | none => exact ⟨⟨0, 0, ⟨#[]⟩, none, 0, 0, none, 0, 0, h.1⟩, h.2⟩
 | some v =>
  obtain ⟨⟨k, i, t, p, n, c, q, m, d, he, _⟩, hb⟩ := h
  exact ⟨⟨k, i, t, p, n, c, q, m, d, he⟩, hb⟩
theorem isJ_lens (O : Nat → Prop) (w : World) (k i : Int) (t : ByteArray) (p q : Option Addr) (n c m d : Nat) (j : J) (h : isJ O w j [.int .i64 k, .int .i64 i, .string t, .slice p n c, .slice q m d]) : j.ks.length = n ∧ j.ls.length = m := by
 obtain ⟨_, _, _, _, _⟩ := j
 obtain ⟨rfl, rfl, rfl, rfl, rfl, _⟩ := isJP_parts h
 exact ⟨rfl, rfl⟩
theorem sz_putJ {c : J} {s : ByteArray} {v : J} (hs : szJ 15 c = true) (ht : TinyJ c) (hk : s.size ≤ 1000) (hz : szJ 11 v = true) : szJ 12 (putJ c s v) = true := by
 have h12 := small12 hs
 obtain ⟨k, i, t, ks, l⟩ := c
 unfold szJ at h12
 simp only [Bool.and_eq_true, decide_eq_true_eq] at h12
 obtain ⟨_, _, h3, _, h5⟩ := h12
 have t1 := ht.1; have t2 := ht.2
 simp only [J.ks, J.ls] at t1 t2
 unfold putJ szJ
 simp only [J.ks, J.ls, List.length_append, List.length_singleton, List.all_append, List.all_cons, List.all_nil, Bool.and_true, Bool.and_eq_true, decide_eq_true_eq]
 exact ⟨by decide, by omega, ⟨h3, by omega⟩, by omega, h5, hz⟩
theorem sz_oneL {s : ByteArray} {n : Int} (hk : s.size ≤ 1000) : szJ 11 (oneL s n) = true := by
 unfold oneL szJ szJ
 simp only [List.length_singleton, List.all_cons, List.all_nil, Bool.and_true, Bool.and_eq_true, decide_eq_true_eq]
 have e0 : nix.size = 0 := rfl
 rw [e0]
 exact ⟨by decide, by decide, by omega, by decide, by rfl⟩
theorem powerTells_any {w : World} {c : J} {k i : Int} {t : ByteArray} {pk pl : Option Addr} {nk ck nl cl : Nat} (hj : isJ (· < w.heap.size) w c [.int .i64 k, .int .i64 i, .string t, .slice pk nk ck, .slice pl nl cl]) (hkp : pk = none → ck = 0) (hlp : pl = none → cl = 0) (s : ByteArray) (n : Int) :
    Calls Try.prog 3 #[.agg #[.int .i64 k, .int .i64 i, .string t, .slice pk nk ck, .slice pl nl cl], .string s, .int .i64 n] w fun e w' => e = .returned (.bool true) ∧ Below w.heap.size w w' := by
 obtain ⟨W0, hW0⟩ : ∃ W0, W0 = w.alloc (.cells #[.int .i64 k, .int .i64 i, .string t, .slice pk nk ck, .slice pl nl cl] 25) := ⟨_, rfl⟩
 have hb0 : Below w.heap.size w W0 := by rw [hW0]; exact (Below.refl _ _).alloc (Nat.le_refl _) _
 have hX0 : W0.heap[w.heap.size]? = some (.cells #[.int .i64 k, .int .i64 i, .string t, .slice pk nk ck, .slice pl nl cl] 25 (0, 0)) := by rw [hW0]; exact newP _
 have hlt0 := objP_lt hX0
 have HX : Hid (∀ X, Below W0.heap.size W0 X → X.heap[w.heap.size]? = some (.cells #[.int .i64 k, .int .i64 i, .string t, .slice pk nk ck, .slice pl nl cl] 25 (0, 0))) := fun X hX => (hX.block _ hlt0).trans hX0
 have HJ : Hid (∀ X, Below W0.heap.size W0 X → isJ (· < w.heap.size) X c [.int .i64 k, .int .i64 i, .string t, .slice pk nk ck, .slice pl nl cl]) := fun X hX => hj.carry fun b hb => ⟨hb, (belowP hb0 hX).block b hb⟩
 have HO : Hid (∀ X, Below W0.heap.size W0 X → ∀ b, b < w.heap.size → b < X.heap.size) := fun X hX b hb => Nat.lt_of_lt_of_le hb (belowP hb0 hX).size
 have hSm := small_any (fun b hb => Nat.lt_of_lt_of_le hb hb0.size) (HJ.out W0 (Below.refl _ _))
 have HAw : Hid (∀ X : World, Calls Try.prog 5 #[] X fun e w' => e = .returned (.bool true) ∧ Below X.heap.size X w') := fun X => awake_any
 have q := HX.out W0 (Below.refl _ _)
 have c0 := cellP q 0 _ rfl; have c1 := cellP q 1 _ rfl; have c2 := cellP q 2 _ rfl; have c3 := cellP q 3 _ rfl; have c4 := cellP q 4 _ rfl
 clear q hX0
 by_cases hs : s.size ≤ 200
 case neg =>
  have hs' : (200 : Int) < s.size := by omega
  clear hj
  go_enter Try.func3, Try.ntmps3
  go_upto_region 1 with fail
  rw [← hW0]
  clear hW0
  go_wp2_with (first
   | (go_at_call 4; refine hSm.mono ?_; rintro e w1 ⟨rfl | ⟨rfl, _⟩, hb1⟩ <;> have hAw := HAw.out w1)
   | (go_at_call 5; refine hAw.mono ?_; rintro e w2 ⟨rfl, hb2⟩))
  all_goals (go_ret; exact ⟨rfl, belowP hb0 (belowP hb1 hb2)⟩)
 by_cases hn1 : -1073741824 ≤ n
 case neg =>
  have hn' : n < -1073741824 := by omega
  clear hj
  go_enter Try.func3, Try.ntmps3
  go_upto_region 1 with fail
  rw [← hW0]
  clear hW0
  go_wp2_with (first
   | (go_at_call 4; refine hSm.mono ?_; rintro e w1 ⟨rfl | ⟨rfl, _⟩, hb1⟩ <;> have hAw := HAw.out w1)
   | (go_at_call 5; refine hAw.mono ?_; rintro e w2 ⟨rfl, hb2⟩))
  all_goals (go_ret; exact ⟨rfl, belowP hb0 (belowP hb1 hb2)⟩)
 by_cases hn2 : n ≤ 1073741824
 case neg =>
  have hn' : 1073741824 < n := by omega
  clear hj
  go_enter Try.func3, Try.ntmps3
  go_upto_region 1 with fail
  rw [← hW0]
  clear hW0
  go_wp2_with (first
   | (go_at_call 4; refine hSm.mono ?_; rintro e w1 ⟨rfl | ⟨rfl, _⟩, hb1⟩ <;> have hAw := HAw.out w1)
   | (go_at_call 5; refine hAw.mono ?_; rintro e w2 ⟨rfl, hb2⟩))
  all_goals (go_ret; exact ⟨rfl, belowP hb0 (belowP hb1 hb2)⟩)
 have HPa : Hid (szJ 15 c = true → ∀ X, Below W0.heap.size W0 X → Calls Try.prog 6 #[.agg #[.int .i64 k, .int .i64 i, .string t, .slice pk nk ck, .slice pl nl cl]] X fun e w' => (∃ p, e = .returned (.tuple #[valL (parseT (ordT c)).1 p, .int .i64 (parseT (ordT c)).2]) ∧ IsL (fun b => X.heap.size ≤ b ∧ b < w'.heap.size) w' (parseT (ordT c)).1 p) ∧ Below X.heap.size X w') := fun h X hX => parse_any (HJ.out X hX) (HO.out X hX) (small12 h)
 have HG : Hid (szJ 15 c = true → ∀ s X, Below W0.heap.size W0 X → Calls Try.prog 7 #[.agg #[.int .i64 k, .int .i64 i, .string t, .slice pk nk ck, .slice pl nl cl], .string s] X fun e w' => (∃ k i t p n d q m r, e = .returned (.tuple #[.agg #[.int .i64 k, .int .i64 i, .string t, .slice p n d, .slice q m r], .bool (getT c s).isSome])) ∧ Below X.heap.size X w') := fun h s X hX => get_some (HJ.out X hX) (HO.out X hX) (szP_keys (small12 h)) s
 have HBare : Hid ((parseT (ordT c)).2 = 0 → (getT c kByUser).isSome = false → (getT c kByType).isSome = false → Bare c) := fun h1 h2 h3 => bare_of h1 (by simpa using h2) (by simpa using h3)
 clear hj
 go_enter Try.func3, Try.ntmps3
 go_upto_region 1 with fail
 rw [← hW0]
 clear hW0
 go_upto_region 3 with (first
  | (go_at_call 4; refine hSm.mono ?_; rintro e w1 ⟨rfl | ⟨rfl, hsz, hti⟩, hb1⟩ <;> have hAw := HAw.out w1)
  | (go_at_call 5; refine hAw.mono ?_; rintro e w2 ⟨rfl, hb2⟩))
 all_goals (first | (go_ret; exact ⟨rfl, belowP hb0 (belowP hb1 hb2)⟩) | skip)
 clear hAw hSm c0 c1 c2 c3 c4
 have hB1 : Below W0.heap.size W0 w1 := hb1
 have hP1 := HPa.out hsz w1 hB1
 have HGG := (show Hid _ from HG.out hsz)
 have q := HX.out w1 hB1
 have c0 := cellP q 0 _ rfl; have c1 := cellP q 1 _ rfl; have c2 := cellP q 2 _ rfl; have c3 := cellP q 3 _ rfl; have c4 := cellP q 4 _ rfl
 clear q
 generalize hER : parseT (ordT c) = R at hP1 HBare
 obtain ⟨L, E⟩ := R
 have HE : Hid (E = 0 ∨ E = 1) := by have := parse_err (ordT c); rw [hER] at this; exact this
 clear hER HPa HG
 go_upto_region 4 with (go_at_call 6; refine hP1.mono ?_; rintro e w2 ⟨⟨p2, rfl, _⟩, hb2⟩; simp only [valL, cellsL])
 obtain ⟨W2, hW2⟩ : ∃ W2, W2 = w2.alloc (.cells #[.int .i64 L.ban, .int .i64 L.kick, .int .i64 L.invite, .int .i64 L.redact, .int .i64 L.state, .int .i64 L.events, .int .i64 L.users, .slice p2.pu L.byUser.length p2.cu, .slice p2.pt L.byType.length p2.ct] 30) := ⟨_, rfl⟩
 have hB2 : Below W0.heap.size W0 W2 := by rw [hW2]; exact belowP hB1 (belowP hb2 ((Below.refl _ _).alloc (Nat.le_refl _) _))
 rw [← hW2]
 clear hW2 c0 c1 c2 c3 c4 hP1
 have hG1 := HGG.out kByUser W2 hB2
 have q := HX.out W2 hB2
 have c0 := cellP q 0 _ rfl; have c1 := cellP q 1 _ rfl; have c2 := cellP q 2 _ rfl; have c3 := cellP q 3 _ rfl; have c4 := cellP q 4 _ rfl
 clear q
 go_upto_region 5 with (go_at_call 7; refine hG1.mono ?_; rintro e w3 ⟨⟨k3, i3, t3, p3, n3, d3, q3, m3, r3, rfl⟩, hb3⟩)
 obtain ⟨W3, hW3⟩ : ∃ W3, W3 = w3.alloc (.cells #[.int .i64 k3, .int .i64 i3, .string t3, .slice p3 n3 d3, .slice q3 m3 r3] 25) := ⟨_, rfl⟩
 have hB3 : Below W0.heap.size W0 W3 := by rw [hW3]; exact belowP hB2 (belowP hb3 ((Below.refl _ _).alloc (Nat.le_refl _) _))
 rw [← hW3]
 clear hW3 c0 c1 c2 c3 c4 hG1
 have hG2 := HGG.out kByType W3 hB3
 have q := HX.out W3 hB3
 have c0 := cellP q 0 _ rfl; have c1 := cellP q 1 _ rfl; have c2 := cellP q 2 _ rfl; have c3 := cellP q 3 _ rfl; have c4 := cellP q 4 _ rfl
 clear q
 go_upto_region 6 with (go_at_call 7; refine hG2.mono ?_; rintro e w4 ⟨⟨k4, i4, t4, p4, n4, d4, q4, m4, r4, rfl⟩, hb4⟩)
 obtain ⟨W4, hW4⟩ : ∃ W4, W4 = w4.alloc (.cells #[.int .i64 k4, .int .i64 i4, .string t4, .slice p4 n4 d4, .slice q4 m4 r4] 25) := ⟨_, rfl⟩
 have hB4 : Below W0.heap.size W0 W4 := by rw [hW4]; exact belowP hB3 (belowP hb4 ((Below.refl _ _).alloc (Nat.le_refl _) _))
 rw [← hW4]
 clear hW4 c0 c1 c2 c3 c4 hG2 HGG
 have hAw := HAw.out W4
 have HB4 : Hid (Below W0.heap.size W0 W4) := hB4
 have HB04 : Hid (∀ X, Below W4.heap.size W4 X → Below w.heap.size w X) := fun X hX => belowP hb0 (belowP hB4 hX)
 clear hB1 hB2 hB3 hB4 hb2 hb3 hb4 hb1
 generalize (getT c kByUser).isSome = bu at HBare
 generalize (getT c kByType).isSome = bt at HBare
 rcases HE.out with rfl | rfl
 case inr =>
  go_wp2_with (go_at_call 5; refine hAw.mono ?_; rintro e w5 ⟨rfl, hb5⟩)
  go_ret
  exact ⟨rfl, HB04.out _ hb5⟩
 cases bu with
 | true =>
  go_wp2_with (go_at_call 5; refine hAw.mono ?_; rintro e w5 ⟨rfl, hb5⟩)
  go_ret
  exact ⟨rfl, HB04.out _ hb5⟩
 | false =>
  cases bt with
  | true =>
   go_wp2_with (go_at_call 5; refine hAw.mono ?_; rintro e w5 ⟨rfl, hb5⟩)
   go_ret
   exact ⟨rfl, HB04.out _ hb5⟩
  | false =>
   have HBr := (show Hid _ from HBare.out rfl rfl rfl)
   clear HBare hAw
   go_upto_region 8 with fail
   have HTI : Hid (nk ≤ 100 ∧ nl ≤ 200) := by
    have h := isJ_lens _ _ _ _ _ _ _ _ _ _ _ _ (HJ.out W4 HB4.out)
    have h1 := hti.1; have h2 := hti.2
    show _ ∧ _
    omega
   have HP1 : Hid (∀ X : World, Calls Try.prog 8 #[.agg #[.int .i64 5, .int .i64 0, .string ⟨#[]⟩, .slice none 0 0, .slice none 0 0], .string s, .agg #[.int .i64 2, .int .i64 n, .string ⟨#[]⟩, .slice none 0 0, .slice none 0 0]] X fun x w' => (∃ b1 c1 b2 c2, x = .returned (.agg #[.int .i64 5, .int .i64 0, .string ⟨#[]⟩, .slice (some ⟨b1, 0, none⟩) (0 + 1) c1, .slice (some ⟨b2, 0, none⟩) (0 + 1) c2]) ∧ isJ (fun b => False ∨ New X w' b) w' (oneL s n) [.int .i64 5, .int .i64 0, .string ⟨#[]⟩, .slice (some ⟨b1, 0, none⟩) (0 + 1) c1, .slice (some ⟨b2, 0, none⟩) (0 + 1) c2]) ∧ Below X.heap.size X w') := fun X =>
    Pt.rPut_any (O := fun _ => False) s (fun _ h => h.elim) (isJ_empty _ _) (isJ_int _ _ n) (fun _ => rfl) (fun _ => rfl) (by omega) (by omega)
   have HPU : Hid (∀ (key : ByteArray) (X : World) b1 c1 b2 c2, Below W4.heap.size W4 X → isJ (· < X.heap.size) X (oneL s n) [.int .i64 5, .int .i64 0, .string ⟨#[]⟩, .slice (some ⟨b1, 0, none⟩) 1 c1, .slice (some ⟨b2, 0, none⟩) 1 c2] → Calls Try.prog 8 #[.agg #[.int .i64 k, .int .i64 i, .string t, .slice pk nk ck, .slice pl nl cl], .string key, .agg #[.int .i64 5, .int .i64 0, .string ⟨#[]⟩, .slice (some ⟨b1, 0, none⟩) 1 c1, .slice (some ⟨b2, 0, none⟩) 1 c2]] X fun x w' => (∃ b1 c1 b2 c2, x = .returned (.agg #[.int .i64 5, .int .i64 0, .string ⟨#[]⟩, .slice (some ⟨b1, 0, none⟩) (nk + 1) c1, .slice (some ⟨b2, 0, none⟩) (nl + 1) c2]) ∧ isJ (· < w'.heap.size) w' (putJ c key (oneL s n)) [.int .i64 5, .int .i64 0, .string ⟨#[]⟩, .slice (some ⟨b1, 0, none⟩) (nk + 1) c1, .slice (some ⟨b2, 0, none⟩) (nl + 1) c2]) ∧ Below X.heap.size X w') := fun key X b1 c1 b2 c2 hX hm => by
    have hbX : Below W0.heap.size W0 X := belowP HB4.out hX
    refine (Pt.rPut_any (O := (· < X.heap.size)) key (fun _ h => h) ((HJ.out X hbX).carry fun b hb => ⟨HO.out X hbX b hb, rfl⟩) hm hkp hlp (by have := HTI.out; omega) (by have := HTI.out; omega)).mono ?_
    rintro x w' ⟨⟨e1, f1, e2, f2, rfl, hj'⟩, hb'⟩
    refine ⟨⟨e1, f1, e2, f2, rfl, ?_⟩, hb'⟩
    have : putJ c key (oneL s n) = .mk 5 0 nix (c.keys ++ [key]) (c.list ++ [oneL s n]) := by cases c; rfl
    rw [this]
    exact hj'.carry fun b hb => ⟨hb.elim (fun h => Nat.lt_of_lt_of_le h hb'.size) (fun h => h.2), rfl⟩
   have hs3 : s.size ≤ 1000 := by omega
   have HSZ : Hid (∀ key : ByteArray, key.size ≤ 1000 → szJ 12 (putJ c key (oneL s n)) = true) := fun key hk => sz_putJ hsz hti hk (sz_oneL hs3)
   have HPP : Hid (∀ (key : ByteArray) (X : World) b1 c1 b2 c2, key.size ≤ 1000 → isJ (· < X.heap.size) X (putJ c key (oneL s n)) [.int .i64 5, .int .i64 0, .string ⟨#[]⟩, .slice (some ⟨b1, 0, none⟩) (nk + 1) c1, .slice (some ⟨b2, 0, none⟩) (nl + 1) c2] → Calls Try.prog 6 #[.agg #[.int .i64 5, .int .i64 0, .string ⟨#[]⟩, .slice (some ⟨b1, 0, none⟩) (nk + 1) c1, .slice (some ⟨b2, 0, none⟩) (nl + 1) c2]] X fun e w' => (∃ p, e = .returned (.tuple #[valL (parseT (ordT (putJ c key (oneL s n)))).1 p, .int .i64 (parseT (ordT (putJ c key (oneL s n)))).2]) ∧ IsL (fun b => X.heap.size ≤ b ∧ b < w'.heap.size) w' (parseT (ordT (putJ c key (oneL s n)))).1 p) ∧ Below X.heap.size X w') := fun key X b1 c1 b2 c2 hk h => parse_any h (fun _ h => h) (HSZ.out key hk)
   have HTU := (show Hid _ from tell_users HBr.out (s := s) (n := n) hn1 hn2)
   have HTT := (show Hid _ from tell_types HBr.out (s := s) (n := n) hn1 hn2)
   have HZU : Hid (SzL (parseT (ordT (putJ c kByUser (oneL s n)))).1) := parse_sz (HSZ.out kByUser (by decide))
   have HZT : Hid (SzL (parseT (ordT (putJ c kByType (oneL s n)))).1) := parse_sz (HSZ.out kByType (by decide))
   have HP3 := (show Hid _ from fun X b1 c1 b2 c2 => HPP.out kByUser X b1 c1 b2 c2 (by decide))
   have HP4 := (show Hid _ from fun X b1 c1 b2 c2 => HPP.out kByType X b1 c1 b2 c2 (by decide))
   clear HPP HBr HSZ hsz hti
   obtain ⟨JU, hJU⟩ : ∃ J, putJ c kByUser (oneL s n) = J := ⟨_, rfl⟩
   obtain ⟨JT, hJT⟩ : ∃ J, putJ c kByType (oneL s n) = J := ⟨_, rfl⟩
   have HPU1 := (show Hid _ from HPU.out kByUser)
   have HPU2 := (show Hid _ from HPU.out kByType)
   clear HPU
   rw [hJU] at HTU HZU HP3 HPU1
   rw [hJT] at HTT HZT HP4 HPU2
   clear hJU hJT
   generalize parseT (ordT JU) = RU at HTU HZU HP3
   generalize parseT (ordT JT) = RT at HTT HZT HP4
   obtain ⟨LU, EU⟩ := RU
   obtain ⟨LT, ET⟩ := RT
   simp only at HTU HTT HZU HZT HP3 HP4
   have hNum := num_any (w := W4) n
   go_upto_region 9 with (first
    | (go_at_call 9; refine hNum.mono ?_; rintro e w5 ⟨rfl, hb5⟩; have hP := HP1.out w5)
    | (go_at_call 8; refine hP.mono ?_; rintro e w6 ⟨⟨b1, c1, b2, c2, rfl, hj6⟩, hb6⟩))
   obtain ⟨W6, hW6⟩ : ∃ W6, W6 = w6.alloc (.cells #[.int .i64 5, .int .i64 0, .string ⟨#[]⟩, .slice (some ⟨b1, 0, none⟩) 1 c1, .slice (some ⟨b2, 0, none⟩) 1 c2] 25) := ⟨_, rfl⟩
   have hbW6 : Below w6.heap.size w6 W6 := by rw [hW6]; exact (Below.refl _ _).alloc (Nat.le_refl _) _
   have hX6 : W6.heap[w6.heap.size]? = some (.cells #[.int .i64 5, .int .i64 0, .string ⟨#[]⟩, .slice (some ⟨b1, 0, none⟩) 1 c1, .slice (some ⟨b2, 0, none⟩) 1 c2] 25 (0, 0)) := by rw [hW6]; exact newP _
   have hB6 : Below W4.heap.size W4 W6 := belowP hb5 (belowP hb6 hbW6)
   have HM : Hid (∀ X, Below W6.heap.size W6 X → X.heap[w6.heap.size]? = some (.cells #[.int .i64 5, .int .i64 0, .string ⟨#[]⟩, .slice (some ⟨b1, 0, none⟩) 1 c1, .slice (some ⟨b2, 0, none⟩) 1 c2] 25 (0, 0)) ∧ isJ (· < X.heap.size) X (oneL s n) [.int .i64 5, .int .i64 0, .string ⟨#[]⟩, .slice (some ⟨b1, 0, none⟩) 1 c1, .slice (some ⟨b2, 0, none⟩) 1 c2]) := fun X hX => ⟨(hX.block _ (objP_lt hX6)).trans hX6, hj6.carry fun b hb => by
    have hn : New w5 w6 b := hb.elim (fun h => h.elim) (fun h => h)
    exact ⟨Nat.lt_of_lt_of_le hn.2 (Nat.le_trans hbW6.size hX.size), ((hX.block b (Nat.lt_of_lt_of_le hn.2 hbW6.size)).trans (hbW6.block b hn.2))⟩⟩
   rw [← hW6]
   clear hW6 hP hNum HP1
   obtain ⟨q6, hm6⟩ := HM.out W6 (Below.refl _ _)
   have hPU := HPU1.out W6 b1 c1 b2 c2 hB6 hm6
   have q := HX.out W6 (belowP HB4.out hB6)
   have c0 := cellP q 0 _ rfl; have c1' := cellP q 1 _ rfl; have c2' := cellP q 2 _ rfl; have c3 := cellP q 3 _ rfl; have c4 := cellP q 4 _ rfl
   have m0 := cellP q6 0 _ rfl; have m1 := cellP q6 1 _ rfl; have m2 := cellP q6 2 _ rfl; have m3 := cellP q6 3 _ rfl; have m4 := cellP q6 4 _ rfl
   clear q q6 hm6 hj6 hX6
   go_upto_region 10 with (first
    | (go_at_call 8; refine hPU.mono ?_; rintro e w7 ⟨⟨e1, f1, e2, f2, rfl, hj7⟩, hb7⟩; have hPa := HP3.out w7 e1 f1 e2 f2 hj7; clear hPU)
    | (go_at_call 6; refine hPa.mono ?_; rintro e w8 ⟨⟨⟨pu, cu, pt, ct⟩, rfl, hIU⟩, hb8⟩; simp only [valL, cellsL]))
   obtain ⟨W8, hW8⟩ : ∃ W8, W8 = w8.alloc (.cells #[.int .i64 LU.ban, .int .i64 LU.kick, .int .i64 LU.invite, .int .i64 LU.redact, .int .i64 LU.state, .int .i64 LU.events, .int .i64 LU.users, .slice pu LU.byUser.length cu, .slice pt LU.byType.length ct] 30) := ⟨_, rfl⟩
   have hbW8 : Below w8.heap.size w8 W8 := by rw [hW8]; exact (Below.refl _ _).alloc (Nat.le_refl _) _
   have hX8 : W8.heap[w8.heap.size]? = some (.cells #[.int .i64 LU.ban, .int .i64 LU.kick, .int .i64 LU.invite, .int .i64 LU.redact, .int .i64 LU.state, .int .i64 LU.events, .int .i64 LU.users, .slice pu LU.byUser.length cu, .slice pt LU.byType.length ct] 30 (0, 0)) := by rw [hW8]; exact newP _
   have hB8 : Below W6.heap.size W6 W8 := belowP hb7 (belowP hb8 hbW8)
   have HLU : Hid (∀ X, Below W8.heap.size W8 X → X.heap[w8.heap.size]? = some (.cells #[.int .i64 LU.ban, .int .i64 LU.kick, .int .i64 LU.invite, .int .i64 LU.redact, .int .i64 LU.state, .int .i64 LU.events, .int .i64 LU.users, .slice pu LU.byUser.length cu, .slice pt LU.byType.length ct] 30 (0, 0)) ∧ IsL (· < X.heap.size) X LU ⟨pu, cu, pt, ct⟩) := fun X hX => ⟨(hX.block _ (objP_lt hX8)).trans hX8, hIU.carry fun b hb => ⟨Nat.lt_of_lt_of_le hb.2 (Nat.le_trans hbW8.size hX.size), (hX.block b (Nat.lt_of_lt_of_le hb.2 hbW8.size)).trans (hbW8.block b hb.2)⟩⟩
   rw [← hW8]
   clear hW8 hPa hIU hX8 hj7 HP3 HPU1 c0 c1' c2' c3 c4 m0 m1 m2 m3 m4
   obtain ⟨q6, hm6⟩ := HM.out W8 hB8
   have hPU := HPU2.out W8 b1 c1 b2 c2 (belowP hB6 hB8) hm6
   have q := HX.out W8 (belowP HB4.out (belowP hB6 hB8))
   have c0 := cellP q 0 _ rfl; have c1' := cellP q 1 _ rfl; have c2' := cellP q 2 _ rfl; have c3 := cellP q 3 _ rfl; have c4 := cellP q 4 _ rfl
   have m0 := cellP q6 0 _ rfl; have m1 := cellP q6 1 _ rfl; have m2 := cellP q6 2 _ rfl; have m3 := cellP q6 3 _ rfl; have m4 := cellP q6 4 _ rfl
   clear q q6 hm6 HM
   go_upto_region 11 with (first
    | (go_at_call 8; refine hPU.mono ?_; rintro e w9 ⟨⟨e1, f1, e2, f2, rfl, hj9⟩, hb9⟩; have hPa := HP4.out w9 e1 f1 e2 f2 hj9; clear hPU)
    | (go_at_call 6; refine hPa.mono ?_; rintro e w10 ⟨⟨⟨pu2, cu2, pt2, ct2⟩, rfl, hIT⟩, hb10⟩; simp only [valL, cellsL]))
   obtain ⟨WA, hWA⟩ : ∃ WA, WA = w10.alloc (.cells #[.int .i64 LT.ban, .int .i64 LT.kick, .int .i64 LT.invite, .int .i64 LT.redact, .int .i64 LT.state, .int .i64 LT.events, .int .i64 LT.users, .slice pu2 LT.byUser.length cu2, .slice pt2 LT.byType.length ct2] 30) := ⟨_, rfl⟩
   have hbWA : Below w10.heap.size w10 WA := by rw [hWA]; exact (Below.refl _ _).alloc (Nat.le_refl _) _
   have hXA : WA.heap[w10.heap.size]? = some (.cells #[.int .i64 LT.ban, .int .i64 LT.kick, .int .i64 LT.invite, .int .i64 LT.redact, .int .i64 LT.state, .int .i64 LT.events, .int .i64 LT.users, .slice pu2 LT.byUser.length cu2, .slice pt2 LT.byType.length ct2] 30 (0, 0)) := by rw [hWA]; exact newP _
   have hBA : Below W8.heap.size W8 WA := belowP hb9 (belowP hb10 hbWA)
   have HLT : Hid (∀ X, Below WA.heap.size WA X → X.heap[w10.heap.size]? = some (.cells #[.int .i64 LT.ban, .int .i64 LT.kick, .int .i64 LT.invite, .int .i64 LT.redact, .int .i64 LT.state, .int .i64 LT.events, .int .i64 LT.users, .slice pu2 LT.byUser.length cu2, .slice pt2 LT.byType.length ct2] 30 (0, 0)) ∧ IsL (· < X.heap.size) X LT ⟨pu2, cu2, pt2, ct2⟩) := fun X hX => ⟨(hX.block _ (objP_lt hXA)).trans hXA, hIT.carry fun b hb => ⟨Nat.lt_of_lt_of_le hb.2 (Nat.le_trans hbWA.size hX.size), (hX.block b (Nat.lt_of_lt_of_le hb.2 hbWA.size)).trans (hbWA.block b hb.2)⟩⟩
   have HLV : Hid (∀ X, Below WA.heap.size WA X → X.heap[w8.heap.size]? = some (.cells #[.int .i64 LU.ban, .int .i64 LU.kick, .int .i64 LU.invite, .int .i64 LU.redact, .int .i64 LU.state, .int .i64 LU.events, .int .i64 LU.users, .slice pu LU.byUser.length cu, .slice pt LU.byType.length ct] 30 (0, 0)) ∧ IsL (· < X.heap.size) X LU ⟨pu, cu, pt, ct⟩) := fun X hX => HLU.out X (belowP hBA hX)
   have HEnd : Hid (∀ X, Below WA.heap.size WA X → Below w.heap.size w X) := fun X hX => HB04.out X (belowP hB6 (belowP hB8 (belowP hBA hX)))
   have HUs : Hid (isU s = true → ∀ X, Below WA.heap.size WA X → Calls Try.prog 12 #[.agg #[.int .i64 LU.ban, .int .i64 LU.kick, .int .i64 LU.invite, .int .i64 LU.redact, .int .i64 LU.state, .int .i64 LU.events, .int .i64 LU.users, .slice pu LU.byUser.length cu, .slice pt LU.byType.length ct], .string s] X fun e w' => e = .returned (.int .i64 n) ∧ Below X.heap.size X w') := fun h X hX => by
    have := user_lv (HLV.out X hX).2 (fun _ h => h) HZU.out s
    rw [HTU.out.2 h] at this
    exact this
   have HTy : Hid (isT s = true → ∀ X st, Below WA.heap.size WA X → Calls Try.prog 13 #[.agg #[.int .i64 LT.ban, .int .i64 LT.kick, .int .i64 LT.invite, .int .i64 LT.redact, .int .i64 LT.state, .int .i64 LT.events, .int .i64 LT.users, .slice pu2 LT.byUser.length cu2, .slice pt2 LT.byType.length ct2], .string s, .bool st] X fun e w' => e = .returned (.int .i64 n) ∧ Below X.heap.size X w') := fun h X st hX => by
    have := type_lv (HLT.out X hX).2 (fun _ h => h) HZT.out s st
    rw [HTT.out.2 h st] at this
    exact this
   have HEU : Hid (EU = if isU s = true then 0 else 1) := HTU.out.1
   have HET : Hid (ET = if isT s = true then 0 else 1) := HTT.out.1
   rw [← hWA]
   have hIsU := rIsU_any s WA (by omega)
   have HIsT : Hid (∀ X, Calls Try.prog 11 #[.string s] X fun x w' => x = .returned (.bool (isT s)) ∧ Below X.heap.size X w') := fun X => rIsT_any s X (by omega)
   clear hWA hPa hIT hXA hj9 HP4 HPU2 c0 c1' c2' c3 c4 m0 m1 m2 m3 m4 HTU HTT HZU HZT HLU
   generalize isU s = uu at hIsU HUs HEU
   generalize isT s = tt at HIsT HTy HET
   have HLT1 : Hid (∀ X, Below WA.heap.size WA X → X.heap[w10.heap.size]? = some (.cells #[.int .i64 LT.ban, .int .i64 LT.kick, .int .i64 LT.invite, .int .i64 LT.redact, .int .i64 LT.state, .int .i64 LT.events, .int .i64 LT.users, .slice pu2 LT.byUser.length cu2, .slice pt2 LT.byType.length ct2] 30 (0, 0))) := fun X hX => (HLT.out X hX).1
   have HLV1 : Hid (∀ X, Below WA.heap.size WA X → X.heap[w8.heap.size]? = some (.cells #[.int .i64 LU.ban, .int .i64 LU.kick, .int .i64 LU.invite, .int .i64 LU.redact, .int .i64 LU.state, .int .i64 LU.events, .int .i64 LU.users, .slice pu LU.byUser.length cu, .slice pt LU.byType.length ct] 30 (0, 0))) := fun X hX => (HLV.out X hX).1
   clear HLT HLV
   cases uu with
   | true =>
    obtain ⟨rfl⟩ : EU = 0 := HEU.out
    cases tt with
    | true =>
     obtain ⟨rfl⟩ : ET = 0 := HET.out
     go_upto_region 13 with (first
      | (go_at_call 10; refine hIsU.mono ?_; rintro e w11 ⟨rfl, hb11⟩; have hIsT := HIsT.out w11)
      | (go_at_call 11; refine hIsT.mono ?_; rintro e w12 ⟨rfl, hb12⟩))
     have hB12 : Below WA.heap.size WA w12 := belowP hb11 hb12
     have qa := HLV1.out w12 hB12
     have x0 := cellP qa 0 _ rfl; have x1 := cellP qa 1 _ rfl; have x2 := cellP qa 2 _ rfl; have x3 := cellP qa 3 _ rfl; have x4 := cellP qa 4 _ rfl; have x5 := cellP qa 5 _ rfl; have x6 := cellP qa 6 _ rfl; have x7 := cellP qa 7 _ rfl; have x8 := cellP qa 8 _ rfl
     have hU := HUs.out (by simp) w12 hB12
     clear qa hIsU hIsT
     go_wp2_with (first
      | (go_at_call 12; refine hU.mono ?_; rintro e w13 ⟨rfl, hb13⟩
         have hB13 := belowP hB12 hb13
         have qb := HLT1.out w13 hB13
         have y0 := cellP qb 0 _ rfl; have y1 := cellP qb 1 _ rfl; have y2 := cellP qb 2 _ rfl; have y3 := cellP qb 3 _ rfl; have y4 := cellP qb 4 _ rfl; have y5 := cellP qb 5 _ rfl; have y6 := cellP qb 6 _ rfl; have y7 := cellP qb 7 _ rfl; have y8 := cellP qb 8 _ rfl
         have hTy := HTy.out (by simp) w13 true hB13
         clear qb hU x0 x1 x2 x3 x4 x5 x6 x7 x8)
      | (go_at_call 13; refine hTy.mono ?_; rintro e w14 ⟨rfl, hb14⟩
         have hB14 := belowP hB13 hb14
         have qc := HLT1.out w14 hB14
         clear y0 y1 y2 y3 y4 y5 y6 y7 y8 hTy
         have z0 := cellP qc 0 _ rfl; have z1 := cellP qc 1 _ rfl; have z2 := cellP qc 2 _ rfl; have z3 := cellP qc 3 _ rfl; have z4 := cellP qc 4 _ rfl; have z5 := cellP qc 5 _ rfl; have z6 := cellP qc 6 _ rfl; have z7 := cellP qc 7 _ rfl; have z8 := cellP qc 8 _ rfl
         have hTz := HTy.out (by simp) w14 false hB14
         clear qc)
      | (go_at_call 13; refine hTz.mono ?_; rintro e w15 ⟨rfl, hb15⟩
         have hB15 := belowP hB14 hb15
         clear z0 z1 z2 z3 z4 z5 z6 z7 z8 hTz
         have hAw := HAw.out w15)
      | (go_at_call 5; refine hAw.mono ?_; rintro e w16 ⟨rfl, hb16⟩))
     go_ret
     exact ⟨rfl, HEnd.out _ (belowP hB15 hb16)⟩
    | false =>
     obtain ⟨rfl⟩ : ET = 1 := HET.out
     go_upto_region 13 with (first
      | (go_at_call 10; refine hIsU.mono ?_; rintro e w11 ⟨rfl, hb11⟩; have hIsT := HIsT.out w11)
      | (go_at_call 11; refine hIsT.mono ?_; rintro e w12 ⟨rfl, hb12⟩))
     have hB12 : Below WA.heap.size WA w12 := belowP hb11 hb12
     have qa := HLV1.out w12 hB12
     have x0 := cellP qa 0 _ rfl; have x1 := cellP qa 1 _ rfl; have x2 := cellP qa 2 _ rfl; have x3 := cellP qa 3 _ rfl; have x4 := cellP qa 4 _ rfl; have x5 := cellP qa 5 _ rfl; have x6 := cellP qa 6 _ rfl; have x7 := cellP qa 7 _ rfl; have x8 := cellP qa 8 _ rfl
     have hU := HUs.out (by simp) w12 hB12
     clear qa hIsU hIsT
     go_wp2_with (first
      | (go_at_call 12; refine hU.mono ?_; rintro e w13 ⟨rfl, hb13⟩
         have hB13 := belowP hB12 hb13
         have hAw := HAw.out w13
         clear hU x0 x1 x2 x3 x4 x5 x6 x7 x8)
      | (go_at_call 5; refine hAw.mono ?_; rintro e w16 ⟨rfl, hb16⟩))
     go_ret
     exact ⟨rfl, HEnd.out _ (belowP hB13 hb16)⟩
   | false =>
    obtain ⟨rfl⟩ : EU = 1 := HEU.out
    cases tt with
    | true =>
     obtain ⟨rfl⟩ : ET = 0 := HET.out
     go_upto_region 13 with (first
      | (go_at_call 10; refine hIsU.mono ?_; rintro e w11 ⟨rfl, hb11⟩; have hIsT := HIsT.out w11)
      | (go_at_call 11; refine hIsT.mono ?_; rintro e w12 ⟨rfl, hb12⟩))
     have hB12 : Below WA.heap.size WA w12 := belowP hb11 hb12
     have qb := HLT1.out w12 hB12
     have y0 := cellP qb 0 _ rfl; have y1 := cellP qb 1 _ rfl; have y2 := cellP qb 2 _ rfl; have y3 := cellP qb 3 _ rfl; have y4 := cellP qb 4 _ rfl; have y5 := cellP qb 5 _ rfl; have y6 := cellP qb 6 _ rfl; have y7 := cellP qb 7 _ rfl; have y8 := cellP qb 8 _ rfl
     have hTy := HTy.out (by simp) w12 true hB12
     clear qb hIsU hIsT
     go_wp2_with (first
      | (go_at_call 13; refine hTy.mono ?_; rintro e w14 ⟨rfl, hb14⟩
         have hB14 := belowP hB12 hb14
         have qc := HLT1.out w14 hB14
         clear y0 y1 y2 y3 y4 y5 y6 y7 y8 hTy
         have z0 := cellP qc 0 _ rfl; have z1 := cellP qc 1 _ rfl; have z2 := cellP qc 2 _ rfl; have z3 := cellP qc 3 _ rfl; have z4 := cellP qc 4 _ rfl; have z5 := cellP qc 5 _ rfl; have z6 := cellP qc 6 _ rfl; have z7 := cellP qc 7 _ rfl; have z8 := cellP qc 8 _ rfl
         have hTz := HTy.out (by simp) w14 false hB14
         clear qc)
      | (go_at_call 13; refine hTz.mono ?_; rintro e w15 ⟨rfl, hb15⟩
         have hB15 := belowP hB14 hb15
         clear z0 z1 z2 z3 z4 z5 z6 z7 z8 hTz
         have hAw := HAw.out w15)
      | (go_at_call 5; refine hAw.mono ?_; rintro e w16 ⟨rfl, hb16⟩))
     go_ret
     exact ⟨rfl, HEnd.out _ (belowP hB15 hb16)⟩
    | false =>
     obtain ⟨rfl⟩ : ET = 1 := HET.out
     go_upto_region 13 with (first
      | (go_at_call 10; refine hIsU.mono ?_; rintro e w11 ⟨rfl, hb11⟩; have hIsT := HIsT.out w11)
      | (go_at_call 11; refine hIsT.mono ?_; rintro e w12 ⟨rfl, hb12⟩))
     have hB12 : Below WA.heap.size WA w12 := belowP hb11 hb12
     have hAw := HAw.out w12
     clear hIsU hIsT
     go_wp2_with (go_at_call 5; refine hAw.mono ?_; rintro e w16 ⟨rfl, hb16⟩)
     go_ret
     exact ⟨rfl, HEnd.out _ (belowP hB12 hb16)⟩
end Go.Proofs.Ytcaknajjkfiaoaa

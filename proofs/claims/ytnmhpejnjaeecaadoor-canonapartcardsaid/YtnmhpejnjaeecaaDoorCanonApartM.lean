/-
  CanonApart: whatever two values of JSON there are, if both are encoded, their bytes are the same just if they are the same in order; and chapter 1's examples hold.
-/
import Derived.Test.YtnmhpejnjaeecaaDoorLeftM
import Derived.Test.YtnmhpejnjaeecaaDoorOrM
import Derived.Test.YtnmhpejnjaeecaaDoorSameM
import Derived.Test.YtnmhpejnjaeecaaDoorM9
import Derived.Test.YtnmhpejnjaeecaaDoorLaidM
import Derived.Test.YtnmhpejnjaeecaaDoorViewM
import Derived.Test.YtnmhpejnjaeecaaDoorViewJM
namespace Go.Proofs.YtnmhpejnjaeecaaDoor
open Go.RowKit

theorem tab_at4 {w w2 : World} (hT : Tab w.heap.size w) (hb : Below w.heap.size w w2) : Tab w2.heap.size w2 := fun w' h' => hT w' (below_in hb h')
theorem isJ_on4 {w w2 : World} {j : J} {cs : List Value} (h : isJ (fun b => b < w.heap.size) w j cs) (hb : Below w.heap.size w w2) : isJ (fun b => b < w2.heap.size) w2 j cs :=
  h.carry fun b hb' => ⟨Nat.lt_of_lt_of_le hb' hb.size, hb.block b hb'⟩
theorem enc_shape {w w' : World} {j : J} {x : Ending} (h : encTold w w' j x) : ∃ p n c e, x = .returned (.tuple #[.slice p n c, .int .i64 e]) ∧ Below w.heap.size w w' ∧ (e = 0 → goodJ 12 j = true ∧ (enc' (ord j)).length ≤ 16384 ∧ n = (enc' (ord j)).length ∧ Rd w'.heap.size w' p c (enc' (ord j))) := by
  obtain ⟨h1, h2, h3, hb⟩ := h
  cases hg : goodJ 12 j with
  | false => exact ⟨none, 0, 0, 1, h1 hg, hb, fun h => absurd h (by decide)⟩
  | true =>
    by_cases hl : 16384 < (enc' (ord j)).length
    · exact ⟨none, 0, 0, 13, h2 hg hl, hb, fun h => absurd h (by decide)⟩
    · obtain ⟨v, hx, hown⟩ := h3 hg (by omega)
      obtain ⟨p, c, rfl, hrd⟩ := enc_rd hg hown
      exact ⟨p, _, c, 0, hx, hb, fun _ => ⟨rfl, by omega, rfl, hrd⟩⟩
theorem enc_inj {x y : J} (hx : goodJ 12 x = true) (hy : goodJ 12 y = true) (hlx : (enc' (ord x)).length ≤ 16384) (h : strOfNums (enc' (ord x)) = strOfNums (enc' (ord y))) : ord x = ord y := by
  have e : enc' (ord x) = enc' (ord y) := by
    rw [← ints_str _ (enc_bd 12 (ord x) (good_ord 12 x hx)), h, ints_str _ (enc_bd 12 (ord y) (good_ord 12 y hy))]
  have d1 := decode_enc hx hlx
  have d2 := decode_enc hy (by rw [← e]; exact hlx)
  rw [e, d2] at d1
  injection d1 with h1 _
  exact h1.symm
theorem rd_text {W : World} {w2 : World} {p : Option Addr} {n c : Nat} {rs : List Int} (hn : n = rs.length) (h : Rd w2.heap.size w2 p c rs) (hb : Below w2.heap.size w2 W) : (convert 27 9 (.slice p n c)).run Tryd.prog W = .ok (.string (strOfNums rs)) W := by
  subst hn
  exact rd_string (h.carry hb)
theorem fit_enc4 {j : J} (hg : goodJ 12 j = true) (hl : (enc' (ord j)).length ≤ 16384) : Fit 12 (ord j) := decode_fit (enc_bd 12 (ord j) (good_ord 12 j hg)) (decode_enc hg hl)
theorem ordR_good {j : J} (hg : goodJ 12 j = true) : ordR j = ord j := by unfold ordR; rw [if_pos hg]
set_option maxRecDepth 100000 in
set_option maxHeartbeats 16000000 in
theorem apart_any {w : World} (hT : Tab w.heap.size w) {x y : J} {kx ix : Int} {tx : ByteArray} {pkx plx : Option Addr} {nkx ckx nlx clx : Nat} {ky iy : Int} {ty : ByteArray} {pky ply : Option Addr} {nky cky nly cly : Nat} (hx : isJ (fun b => b < w.heap.size) w x [.int .i64 kx, .int .i64 ix, .string tx, .slice pkx nkx ckx, .slice plx nlx clx]) (hy : isJ (fun b => b < w.heap.size) w y [.int .i64 ky, .int .i64 iy, .string ty, .slice pky nky cky, .slice ply nly cly]) :
    Calls Tryd.prog 5 #[.agg #[.int .i64 kx, .int .i64 ix, .string tx, .slice pkx nkx ckx, .slice plx nlx clx], .agg #[.int .i64 ky, .int .i64 iy, .string ty, .slice pky nky cky, .slice ply nly cly]] w fun r w' => r = .returned (.bool true) ∧ Below w.heap.size w w' := by
  obtain ⟨wA, hwA⟩ : ∃ wA, wA = (w.alloc (.cells #[.int .i64 kx, .int .i64 ix, .string tx, .slice pkx nkx ckx, .slice plx nlx clx] 25)).alloc (.cells #[.int .i64 ky, .int .i64 iy, .string ty, .slice pky nky cky, .slice ply nly cly] 25) := ⟨_, rfl⟩
  have hbA : Below w.heap.size w wA := by rw [hwA]; exact ((Below.refl _ _).alloc (Nat.le_refl _) _).alloc (by simp) _
  have hA : wA.heap[w.heap.size]? = some (.cells #[.int .i64 kx, .int .i64 ix, .string tx, .slice pkx nkx ckx, .slice plx nlx clx] 25 (0, 0)) := by rw [hwA, Below.heap_alloc _ _ _ (by simp)]; exact heap_alloc_new _ _
  have hAy : wA.heap[w.heap.size + 1]? = some (.cells #[.int .i64 ky, .int .i64 iy, .string ty, .slice pky nky cky, .slice ply nly cly] 25 (0, 0)) := by rw [hwA]; exact two_new2 _ _
  have hsA : w.heap.size < wA.heap.size := (Array.getElem?_eq_some_iff.1 hA).1
  have hsAy : w.heap.size + 1 < wA.heap.size := (Array.getElem?_eq_some_iff.1 hAy).1
  have HCX : Hid (∀ W : World, Below wA.heap.size wA W → ∀ n v, [Value.int .i64 kx, .int .i64 ix, .string tx, .slice pkx nkx ckx, .slice plx nlx clx][n]? = some v → W.cell? ⟨w.heap.size, n, none⟩ = some v) := fun W hW n v hv =>
    (World.cell?_of_block (a := ⟨w.heap.size, n, none⟩) (hW.block w.heap.size hsA)).trans (cell_row (cur := [.int .i64 kx, .int .i64 ix, .string tx, .slice pkx nkx ckx, .slice plx nlx clx]) hA n v hv)
  have HCY : Hid (∀ W : World, Below wA.heap.size wA W → ∀ n v, [Value.int .i64 ky, .int .i64 iy, .string ty, .slice pky nky cky, .slice ply nly cly][n]? = some v → W.cell? ⟨w.heap.size + 1, n, none⟩ = some v) := fun W hW n v hv =>
    (World.cell?_of_block (a := ⟨w.heap.size + 1, n, none⟩) (hW.block (w.heap.size + 1) hsAy)).trans (cell_row (cur := [.int .i64 ky, .int .i64 iy, .string ty, .slice pky nky cky, .slice ply nly cly]) hAy n v hv)
  have HJX : Hid (isJ (fun b => b < wA.heap.size) wA x [.int .i64 kx, .int .i64 ix, .string tx, .slice pkx nkx ckx, .slice plx nlx clx]) := isJ_on4 hx hbA
  have HJY : Hid (isJ (fun b => b < wA.heap.size) wA y [.int .i64 ky, .int .i64 iy, .string ty, .slice pky nky cky, .slice ply nly cly]) := isJ_on4 hy hbA
  have hF1 := few_any (fun _ h => h) HJX.out
  rw [hwA] at hF1
  clear hx hy hA hAy
  go_enter Tryd.func5, Tryd.ntmps5
  go_wp2_with (first
    | (go_at_call 8; refine hF1.mono ?_; rintro r w1 ⟨⟨b1, rfl, hsz1⟩, hb1⟩
       rw [← hwA] at hb1
       clear hF1 hwA
       have hB1 := below_in hbA hb1
       have y0 := HCY.out w1 hb1 0 _ rfl; have y1 := HCY.out w1 hb1 1 _ rfl; have y2 := HCY.out w1 hb1 2 _ rfl; have y3 := HCY.out w1 hb1 3 _ rfl; have y4 := HCY.out w1 hb1 4 _ rfl
       rcases (show b1 = true ∨ b1 = false from by cases b1 <;> simp) with rfl | rfl
       have HS1 : Hid (szJ 12 x = true) := sz_less 12 30 x (by decide) (hsz1 rfl)
       clear hsz1
       have hF2 := few_any (w := w1) (fun _ h => h) (isJ_on4 HJY.out hb1))
    | (go_at_call 8; refine hF2.mono ?_; rintro r w2 ⟨⟨b2, rfl, hsz2⟩, hb2⟩
       clear hF2 y0 y1 y2 y3 y4
       have hA2 := below_in hb1 hb2
       have hB2 := below_in hbA hA2
       have x0 := HCX.out w2 hA2 0 _ rfl; have x1 := HCX.out w2 hA2 1 _ rfl; have x2 := HCX.out w2 hA2 2 _ rfl; have x3 := HCX.out w2 hA2 3 _ rfl; have x4 := HCX.out w2 hA2 4 _ rfl
       rcases (show b2 = true ∨ b2 = false from by cases b2 <;> simp) with rfl | rfl
       have HS2 : Hid (szJ 12 y = true) := sz_less 12 30 y (by decide) (hsz2 rfl)
       clear hsz2
       have hE1 := encode_any (w := w2) (O := fun b => b < w2.heap.size) (fun _ h => h) HS1.out (tab_at4 hT hB2) (fun h => fit_ord h HS1.out) (isJ_on4 HJX.out hA2))
    | (go_at_call 9; refine hE1.mono ?_; intro r w3 hr
       obtain ⟨p1, n1, c1, e1, rfl, hb3, hk1⟩ := enc_shape hr
       clear hE1 hr x0 x1 x2 x3 x4
       have hA3 := below_in hA2 hb3
       have hB3 := below_in hbA hA3
       have z0 := HCY.out w3 hA3 0 _ rfl; have z1 := HCY.out w3 hA3 1 _ rfl; have z2 := HCY.out w3 hA3 2 _ rfl; have z3 := HCY.out w3 hA3 3 _ rfl; have z4 := HCY.out w3 hA3 4 _ rfl
       have hE2 := encode_any (w := w3) (O := fun b => b < w3.heap.size) (fun _ h => h) HS2.out (tab_at4 hT hB3) (fun h => fit_ord h HS2.out) (isJ_on4 HJY.out hA3))
    | (go_at_call 9; refine hE2.mono ?_; intro r w4 hr
       obtain ⟨p2, n2, c2, e2, rfl, hb4, hk2⟩ := enc_shape hr
       clear hE2 hr z0 z1 z2 z3 z4
       have hA4 := below_in hA3 hb4
       have hB4 := below_in hbA hA4
       have hAw := awake_any (tab_at4 hT hB4)
       have HK1 : Hid (e1 = 0 → goodJ 12 x = true ∧ (enc' (ord x)).length ≤ 16384 ∧ n1 = (enc' (ord x)).length ∧ Rd w3.heap.size w3 p1 c1 (enc' (ord x))) := hk1
       have HK2 : Hid (e2 = 0 → goodJ 12 y = true ∧ (enc' (ord y)).length ≤ 16384 ∧ n2 = (enc' (ord y)).length ∧ Rd w4.heap.size w4 p2 c2 (enc' (ord y))) := hk2
       clear hk1 hk2
       rcases (show e1 = 0 ∨ e1 ≠ 0 from by omega) with rfl | he1
       rcases (show e2 = 0 ∨ e2 ≠ 0 from by omega) with rfl | he2)
    | (go_at_call 10; refine hAw.mono ?_; rintro r w9 ⟨rfl, hb9⟩))
  any_goals (go_ret; first | exact ⟨rfl, hB1⟩ | exact ⟨rfl, hB2⟩ | exact ⟨rfl, below_in hB4 hb9⟩)
  obtain ⟨g1, l1, m1, r1⟩ := HK1.out (by trivial)
  obtain ⟨g2, l2, m2, r2⟩ := HK2.out (by trivial)
  have HG1 : Hid (goodJ 12 x = true) := g1
  have HG2 : Hid (goodJ 12 y = true) := g2
  have HL1 : Hid ((enc' (ord x)).length ≤ 16384) := l1
  have HL2 : Hid ((enc' (ord y)).length ≤ 16384) := l2
  have HM1 : Hid (∀ W : World, Below w4.heap.size w4 W → (convert 27 9 (.slice p1 n1 c1)).run Tryd.prog W = .ok (.string (strOfNums (enc' (ord x)))) W) := fun W hW => rd_text m1 r1 (below_in hb4 hW)
  have HM2 : Hid (∀ W : World, Below w4.heap.size w4 W → (convert 27 9 (.slice p2 n2 c2)).run Tryd.prog W = .ok (.string (strOfNums (enc' (ord y)))) W) := fun W hW => rd_text m2 r2 hW
  have HQX : Hid (∀ W : World, Below w4.heap.size w4 W → ∀ n v, [Value.int .i64 kx, .int .i64 ix, .string tx, .slice pkx nkx ckx, .slice plx nlx clx][n]? = some v → W.cell? ⟨w.heap.size, n, none⟩ = some v) := fun W hW n v h => HCX.out W (below_in hA4 hW) n v h
  have HQY : Hid (∀ W : World, Below w4.heap.size w4 W → ∀ n v, [Value.int .i64 ky, .int .i64 iy, .string ty, .slice pky nky cky, .slice ply nly cly][n]? = some v → W.cell? ⟨w.heap.size + 1, n, none⟩ = some v) := fun W hW n v h => HCY.out W (below_in hA4 hW) n v h
  have HF : Hid (Fit 12 (ord x)) := fit_enc4 g1 l1
  have HJX4 : Hid (isJ (fun b => b < w4.heap.size) w4 x [.int .i64 kx, .int .i64 ix, .string tx, .slice pkx nkx ckx, .slice plx nlx clx]) := isJ_on4 HJX.out hA4
  have HJY4 : Hid (isJ (fun b => b < w4.heap.size) w4 y [.int .i64 ky, .int .i64 iy, .string ty, .slice pky nky cky, .slice ply nly cly]) := isJ_on4 HJY.out hA4
  have hC0 : Below w4.heap.size w4 w4.drew := ⟨rfl, rfl, rfl, Nat.le_refl _, fun _ _ => rfl⟩
  have hO1 := rOrder_any (w := w4.drew) (fun _ h => h) HS1.out (isJ_on4 HJX4.out hC0)
  rw [ordR_good g1] at hO1
  obtain ⟨s1, hs1⟩ : ∃ s, strOfNums (enc' (ord x)) = s := ⟨_, rfl⟩
  obtain ⟨s2, hs2⟩ : ∃ s, strOfNums (enc' (ord y)) = s := ⟨_, rfl⟩
  have HE : Hid (ord x = ord y ↔ s1 = s2) := by
    refine ⟨fun h => ?_, fun h => ?_⟩
    · rw [← hs1, ← hs2, h]
    · rw [← hs1, ← hs2] at h
      exact enc_inj g1 g2 l1 h
  rw [hs1] at HM1
  rw [hs2] at HM2
  clear g1 l1 m1 r1 g2 l2 m2 r2 hs1 hs2 hAw
  by_cases hss : s1 = s2
  · have heq : (s1.toList == s2.toList) = true := by rw [hss]; simp
    refine wp_region_in (by kernel_rfl) (fun W => Below w4.heap.size w4 W) ?_
    change wpIn _ _ _ _ _ _ _ _ (World.drew _)
    refine wpIn_take (i := 0) (d := (some 34)) (v := ?vqa0) (a' := ?aqa0) rfl rfl (by kernel_rfl) (by kernel_rfl) (by kernel_rfl) (fun _ _ _ h => h) (Or.inl ⟨by rfl, ?yqa0⟩) ?fqa0 ?_
    case yqa0 => (intro wq hq; go_simp; first | done | with_reducible rfl)
    case fqa0 => (go_frame; rfl)
    refine wpIn_take (i := 1) (d := (some 35)) (v := ?vqa1) (a' := ?aqa1) rfl rfl (by kernel_rfl) (by kernel_rfl) (by kernel_rfl) (fun _ _ _ h => h) (Or.inl ⟨by rfl, ?yqa1⟩) ?fqa1 ?_
    case yqa1 => (intro wq hq; have q0 := HM1.out wq hq; go_simp; first | done | with_reducible rfl)
    case fqa1 => (go_frame; rfl)
    refine wpIn_take (i := 2) (d := (some 36)) (v := ?vqa2) (a' := ?aqa2) rfl rfl (by kernel_rfl) (by kernel_rfl) (by kernel_rfl) (fun _ _ _ h => h) (Or.inl ⟨by rfl, ?yqa2⟩) ?fqa2 ?_
    case yqa2 => (intro wq hq; go_simp; first | done | with_reducible rfl)
    case fqa2 => (go_frame; rfl)
    refine wpIn_take (i := 3) (d := (some 37)) (v := ?vqa3) (a' := ?aqa3) rfl rfl (by kernel_rfl) (by kernel_rfl) (by kernel_rfl) (fun _ _ _ h => h) (Or.inl ⟨by rfl, ?yqa3⟩) ?fqa3 ?_
    case yqa3 => (intro wq hq; have q0 := HM2.out wq hq; go_simp; first | done | with_reducible rfl)
    case fqa3 => (go_frame; rfl)
    refine wpIn_take (i := 4) (d := (some 38)) (v := ?vqa4) (a' := ?aqa4) rfl rfl (by kernel_rfl) (by kernel_rfl) (by kernel_rfl) (fun _ _ _ h => h) (Or.inl ⟨by rfl, ?yqa4⟩) ?fqa4 ?_
    case yqa4 => (intro wq hq; go_simp; first | done | with_reducible rfl)
    case fqa4 => (go_frame; rfl)
    refine wpIn_take (i := 5) (d := (some 39)) (v := ?vqa5) (a' := ?aqa5) rfl rfl (by kernel_rfl) (by kernel_rfl) (by kernel_rfl) (fun _ _ _ h => h) (Or.inl ⟨by rfl, ?yqa5⟩) ?fqa5 ?_
    case yqa5 => (intro wq hq; have q0 := HQX.out wq hq 0 _ rfl; have q1 := HQX.out wq hq 1 _ rfl; have q2 := HQX.out wq hq 2 _ rfl; have q3 := HQX.out wq hq 3 _ rfl; have q4 := HQX.out wq hq 4 _ rfl; go_simp; first | done | with_reducible rfl)
    case fqa5 => (go_frame; rfl)
    refine wpIn_take (i := 7) (d := (some 41)) (v := ?vqa7) (a' := ?aqa7) rfl rfl (by kernel_rfl) (by kernel_rfl) (by kernel_rfl) (fun _ _ _ h => h) (Or.inl ⟨by rfl, ?yqa7⟩) ?fqa7 ?_
    case yqa7 => (intro wq hq; have q0 := HQY.out wq hq 0 _ rfl; have q1 := HQY.out wq hq 1 _ rfl; have q2 := HQY.out wq hq 2 _ rfl; have q3 := HQY.out wq hq 3 _ rfl; have q4 := HQY.out wq hq 4 _ rfl; go_simp; first | done | with_reducible rfl)
    case fqa7 => (go_frame; rfl)
    refine wpIn_do (i := 6) hC0 (by kernel_rfl) rfl (by rfl) ?_
    intro K hK
    go_simp
    go_wp2_with (go_at_call 15; refine hO1.mono ?_; rintro r w5 ⟨⟨kr, ir, tr, pr, nr, cr, qr, mr, dr, rfl, hjr⟩, hb5⟩)
    have hC1 : Below w4.heap.size w4 w5 := below_cat hC0 hC0.size hb5
    have hO2 := rOrder_any (w := w5) (fun _ h => h) HS2.out (isJ_on4 HJY4.out hC1)
    rw [ordR_good HG2.out] at hO2
    have HJR : Hid (isJ (fun b => b < w5.heap.size) w5 (ord x) [.int .i64 kr, .int .i64 ir, .string tr, .slice pr nr cr, .slice qr mr dr]) := hjr
    clear hC0 hO1 hb5 hjr
    refine wpIn_do (i := 8) hC1 (by kernel_rfl) rfl (by rfl) ?_
    intro K hK
    go_simp
    go_wp2_with (go_at_call 15; refine hO2.mono ?_; rintro r w6 ⟨⟨ku, iu, tu, pu, nu, cu, qu, mu, du, rfl, hju⟩, hb6⟩)
    have hC2 : Below w4.heap.size w4 w6 := below_cat hC1 hC1.size hb6
    have hS := sames 12 w6 (fun b => b < w6.heap.size) (ord x) (ord y) kr ir tr pr qr nr cr mr dr ku iu tu pu qu nu cu mu du (fun _ h => h) HF.out.1 HF.out.2.2 (isJ_on4 HJR.out hb6) hju
    clear hC1 hO2 hb6 hju HJR
    refine wpIn_do (i := 9) hC2 (by kernel_rfl) rfl (by rfl) ?_
    intro K hK
    go_simp
    go_wp2_with (go_at_call 12; refine hS.mono ?_; rintro r w7 ⟨⟨b, rfl, hbi⟩, hb7⟩)
    have hC3 : Below w4.heap.size w4 w7 := below_cat hC2 hC2.size hb7
    obtain rfl : b = true := hbi.2 (HE.out.2 hss)
    have hAw := awake_any (tab_at4 hT (below_in hB4 hC3))
    clear hC2 hS hb7 hbi
    refine wpIn_take (i := 10) (d := (some 44)) (v := ?vqa10) (a' := ?aqa10) rfl rfl (by kernel_rfl) (by kernel_rfl) (by kernel_rfl) (fun _ _ _ h => h) (Or.inl ⟨by rfl, ?yqa10⟩) ?fqa10 ?_
    case yqa10 => (intro wq hq; go_simp; first | done | with_reducible rfl)
    case fqa10 => (go_frame; rfl)
    refine wpIn_take (i := 11) (d := (some 45)) (v := ?vqa11) (a' := ?aqa11) rfl rfl (by kernel_rfl) (by kernel_rfl) (by kernel_rfl) (fun _ _ _ h => h) (Or.inl ⟨by rfl, ?yqa11⟩) ?fqa11 ?_
    case yqa11 => (intro wq hq; go_simp; first | done | with_reducible rfl)
    case fqa11 => (go_frame; rfl)
    refine wpIn_do (i := 12) hC3 (by kernel_rfl) rfl (by rfl) ?_
    intro K hK
    go_simp
    go_wp2_with (go_at_call 10; refine hAw.mono ?_; rintro r w8 ⟨rfl, hb8⟩)
    have hC4 : Below w4.heap.size w4 w8 := below_cat hC3 hC3.size hb8
    clear hC3 hAw hb8
    refine wpIn_take (i := 13) (d := (some 47)) (v := ?vqa13) (a' := ?aqa13) rfl rfl (by kernel_rfl) (by kernel_rfl) (by kernel_rfl) (fun _ _ _ h => h) (Or.inl ⟨by rfl, ?yqa13⟩) ?fqa13 ?_
    case yqa13 => (intro wq hq; go_simp; first | done | with_reducible rfl)
    case fqa13 => (go_frame; rfl)
    refine wpIn_take (i := 14) (d := (some 4)) (v := ?vqa14) (a' := ?aqa14) rfl rfl (by kernel_rfl) (by kernel_rfl) (by kernel_rfl) (fun _ _ _ h => h) (Or.inl ⟨by rfl, ?yqa14⟩) ?fqa14 ?_
    case yqa14 => (intro wq hq; go_simp; first | done | with_reducible rfl)
    case fqa14 => (go_frame; rfl)
    refine wpIn_done hC4 (by kernel_rfl) ?_ _
    go_wp2
    go_ret
    exact ⟨rfl, below_in hB4 hC4⟩
  · have heq : (s1.toList == s2.toList) = false := by rw [beq_eq_false_iff_ne]; intro e; exact hss (toList_inj e)
    refine wp_region_in (by kernel_rfl) (fun W => Below w4.heap.size w4 W) ?_
    change wpIn _ _ _ _ _ _ _ _ (World.drew _)
    refine wpIn_take (i := 0) (d := (some 34)) (v := ?vqb0) (a' := ?aqb0) rfl rfl (by kernel_rfl) (by kernel_rfl) (by kernel_rfl) (fun _ _ _ h => h) (Or.inl ⟨by rfl, ?yqb0⟩) ?fqb0 ?_
    case yqb0 => (intro wq hq; go_simp; first | done | with_reducible rfl)
    case fqb0 => (go_frame; rfl)
    refine wpIn_take (i := 1) (d := (some 35)) (v := ?vqb1) (a' := ?aqb1) rfl rfl (by kernel_rfl) (by kernel_rfl) (by kernel_rfl) (fun _ _ _ h => h) (Or.inl ⟨by rfl, ?yqb1⟩) ?fqb1 ?_
    case yqb1 => (intro wq hq; have q0 := HM1.out wq hq; go_simp; first | done | with_reducible rfl)
    case fqb1 => (go_frame; rfl)
    refine wpIn_take (i := 2) (d := (some 36)) (v := ?vqb2) (a' := ?aqb2) rfl rfl (by kernel_rfl) (by kernel_rfl) (by kernel_rfl) (fun _ _ _ h => h) (Or.inl ⟨by rfl, ?yqb2⟩) ?fqb2 ?_
    case yqb2 => (intro wq hq; go_simp; first | done | with_reducible rfl)
    case fqb2 => (go_frame; rfl)
    refine wpIn_take (i := 3) (d := (some 37)) (v := ?vqb3) (a' := ?aqb3) rfl rfl (by kernel_rfl) (by kernel_rfl) (by kernel_rfl) (fun _ _ _ h => h) (Or.inl ⟨by rfl, ?yqb3⟩) ?fqb3 ?_
    case yqb3 => (intro wq hq; have q0 := HM2.out wq hq; go_simp; first | done | with_reducible rfl)
    case fqb3 => (go_frame; rfl)
    refine wpIn_take (i := 4) (d := (some 38)) (v := ?vqb4) (a' := ?aqb4) rfl rfl (by kernel_rfl) (by kernel_rfl) (by kernel_rfl) (fun _ _ _ h => h) (Or.inl ⟨by rfl, ?yqb4⟩) ?fqb4 ?_
    case yqb4 => (intro wq hq; go_simp; first | done | with_reducible rfl)
    case fqb4 => (go_frame; rfl)
    refine wpIn_take (i := 5) (d := (some 39)) (v := ?vqb5) (a' := ?aqb5) rfl rfl (by kernel_rfl) (by kernel_rfl) (by kernel_rfl) (fun _ _ _ h => h) (Or.inl ⟨by rfl, ?yqb5⟩) ?fqb5 ?_
    case yqb5 => (intro wq hq; have q0 := HQX.out wq hq 0 _ rfl; have q1 := HQX.out wq hq 1 _ rfl; have q2 := HQX.out wq hq 2 _ rfl; have q3 := HQX.out wq hq 3 _ rfl; have q4 := HQX.out wq hq 4 _ rfl; go_simp; first | done | with_reducible rfl)
    case fqb5 => (go_frame; rfl)
    refine wpIn_take (i := 7) (d := (some 41)) (v := ?vqb7) (a' := ?aqb7) rfl rfl (by kernel_rfl) (by kernel_rfl) (by kernel_rfl) (fun _ _ _ h => h) (Or.inl ⟨by rfl, ?yqb7⟩) ?fqb7 ?_
    case yqb7 => (intro wq hq; have q0 := HQY.out wq hq 0 _ rfl; have q1 := HQY.out wq hq 1 _ rfl; have q2 := HQY.out wq hq 2 _ rfl; have q3 := HQY.out wq hq 3 _ rfl; have q4 := HQY.out wq hq 4 _ rfl; go_simp; first | done | with_reducible rfl)
    case fqb7 => (go_frame; rfl)
    refine wpIn_do (i := 6) hC0 (by kernel_rfl) rfl (by rfl) ?_
    intro K hK
    go_simp
    go_wp2_with (go_at_call 15; refine hO1.mono ?_; rintro r w5 ⟨⟨kr, ir, tr, pr, nr, cr, qr, mr, dr, rfl, hjr⟩, hb5⟩)
    have hC1 : Below w4.heap.size w4 w5 := below_cat hC0 hC0.size hb5
    have hO2 := rOrder_any (w := w5) (fun _ h => h) HS2.out (isJ_on4 HJY4.out hC1)
    rw [ordR_good HG2.out] at hO2
    have HJR : Hid (isJ (fun b => b < w5.heap.size) w5 (ord x) [.int .i64 kr, .int .i64 ir, .string tr, .slice pr nr cr, .slice qr mr dr]) := hjr
    clear hC0 hO1 hb5 hjr
    refine wpIn_do (i := 8) hC1 (by kernel_rfl) rfl (by rfl) ?_
    intro K hK
    go_simp
    go_wp2_with (go_at_call 15; refine hO2.mono ?_; rintro r w6 ⟨⟨ku, iu, tu, pu, nu, cu, qu, mu, du, rfl, hju⟩, hb6⟩)
    have hC2 : Below w4.heap.size w4 w6 := below_cat hC1 hC1.size hb6
    have hS := sames 12 w6 (fun b => b < w6.heap.size) (ord x) (ord y) kr ir tr pr qr nr cr mr dr ku iu tu pu qu nu cu mu du (fun _ h => h) HF.out.1 HF.out.2.2 (isJ_on4 HJR.out hb6) hju
    clear hC1 hO2 hb6 hju HJR
    refine wpIn_do (i := 9) hC2 (by kernel_rfl) rfl (by rfl) ?_
    intro K hK
    go_simp
    go_wp2_with (go_at_call 12; refine hS.mono ?_; rintro r w7 ⟨⟨b, rfl, hbi⟩, hb7⟩)
    have hC3 : Below w4.heap.size w4 w7 := below_cat hC2 hC2.size hb7
    obtain rfl : b = false := by cases hbb : b with | false => rfl | true => exact absurd (HE.out.1 (hbi.1 hbb)) hss
    have hAw := awake_any (tab_at4 hT (below_in hB4 hC3))
    clear hC2 hS hb7 hbi
    refine wpIn_take (i := 10) (d := (some 44)) (v := ?vqb10) (a' := ?aqb10) rfl rfl (by kernel_rfl) (by kernel_rfl) (by kernel_rfl) (fun _ _ _ h => h) (Or.inl ⟨by rfl, ?yqb10⟩) ?fqb10 ?_
    case yqb10 => (intro wq hq; go_simp; first | done | with_reducible rfl)
    case fqb10 => (go_frame; rfl)
    refine wpIn_take (i := 11) (d := (some 45)) (v := ?vqb11) (a' := ?aqb11) rfl rfl (by kernel_rfl) (by kernel_rfl) (by kernel_rfl) (fun _ _ _ h => h) (Or.inl ⟨by rfl, ?yqb11⟩) ?fqb11 ?_
    case yqb11 => (intro wq hq; go_simp; first | done | with_reducible rfl)
    case fqb11 => (go_frame; rfl)
    refine wpIn_do (i := 12) hC3 (by kernel_rfl) rfl (by rfl) ?_
    intro K hK
    go_simp
    go_wp2_with (go_at_call 10; refine hAw.mono ?_; rintro r w8 ⟨rfl, hb8⟩)
    have hC4 : Below w4.heap.size w4 w8 := below_cat hC3 hC3.size hb8
    clear hC3 hAw hb8
    refine wpIn_take (i := 13) (d := (some 47)) (v := ?vqb13) (a' := ?aqb13) rfl rfl (by kernel_rfl) (by kernel_rfl) (by kernel_rfl) (fun _ _ _ h => h) (Or.inl ⟨by rfl, ?yqb13⟩) ?fqb13 ?_
    case yqb13 => (intro wq hq; go_simp; first | done | with_reducible rfl)
    case fqb13 => (go_frame; rfl)
    refine wpIn_take (i := 14) (d := (some 4)) (v := ?vqb14) (a' := ?aqb14) rfl rfl (by kernel_rfl) (by kernel_rfl) (by kernel_rfl) (fun _ _ _ h => h) (Or.inl ⟨by rfl, ?yqb14⟩) ?fqb14 ?_
    case yqb14 => (intro wq hq; go_simp; first | done | with_reducible rfl)
    case fqb14 => (go_frame; rfl)
    refine wpIn_done hC4 (by kernel_rfl) ?_ _
    go_wp2
    go_ret
    exact ⟨rfl, below_in hB4 hC4⟩
end Go.Proofs.YtnmhpejnjaeecaaDoor
namespace Go.Proofs.YtnmhpejnjaeecaaDoor
open Go.ChangeShapes Go.WideShapes Go.ChangeAt Go.RowKit

set_option maxRecDepth 100000 in
theorem viewV {H : Type} {enc : TypeId × Value → H} {W : World} {base : Nat} {v : Value} {d : DataW H} {p0 : List MemPlace} (hval : Value.okWide Tryd.prog W .any base 25 v)
    (h0 : DataW.Trod enc Tryd.prog W 0 (fun _ => true) true 25 v d p0) : ∃ j k i t pk nk ck pl nl cl, v = .agg #[.int .i64 k, .int .i64 i, .string t, .slice pk nk ck, .slice pl nl cl] ∧ isJ (fun b => b < W.heap.size) W j [.int .i64 k, .int .i64 i, .string t, .slice pk nk ck, .slice pl nl cl] := by
  obtain ⟨cs, rfl, _⟩ := okWide_struct Tryd.underlying25 hval
  obtain ⟨fuel, hf⟩ := h0
  have hf' : DataW.trod enc Tryd.prog W 0 (fun _ => true) true fuel 25 cs.toList = some (d, p0) := by simpa [Value.cells] using hf
  obtain ⟨j, hj⟩ := viewJ fuel cs.toList _ hf'
  obtain ⟨k, i, t, pk, nk, ck, pl, nl, cl, hcs⟩ := isJ_shape hj
  obtain rfl : cs = #[.int .i64 k, .int .i64 i, .string t, .slice pk nk ck, .slice pl nl cl] := by rw [← Array.toList_inj]; exact hcs
  exact ⟨j, k, i, t, pk, nk, ck, pl, nl, cl, rfl, hj⟩
set_option maxRecDepth 100000 in
theorem canonApart_lifted (os : Os) (started : os.Started) (H : Type) (enc : TypeId × Value → H) :
    ReturnsInHanded {} Tryd.checked os 5 .any (fun w args => (Rows.canonApartSpec.pre enc Tryd.prog Tryd.f5 [] false w args ∧ laidMetH Tryd.prog laid3 w) ∧ sizedMet enc Tryd.prog Tryd.f5 (OpenSpec.ofChange Rows.canonApartSpec) false w args)
      (Rows.canonApartSpec.post enc Tryd.prog Tryd.f5 false true false false) := by
  refine returnsInHanded_of_change_and (C := Tryd.checked) (X := fun w _ => laidMetH Tryd.prog laid3 w) (fun _ _ _ hh h => h.of_heap hh) ownK started (by kernel_rfl) Tryd.func5
    (ChangeSpec.witness_shaped (enc := enc) (C := Tryd.checked) (os := os) (X := fun w _ => laidMetH Tryd.prog laid3 w) false (World.doorLaid Tryd.prog 400 os) #[.agg #[.int .i64 0, .int .i64 0, .string ⟨#[]⟩, .slice none 0 0, .slice none 0 0], .agg #[.int .i64 0, .int .i64 0, .string ⟨#[]⟩, .slice none 0 0, .slice none 0 0]] 8 rfl (World.shaped_of_RefB (by kernel_rfl) (by kernel_rfl)) (by kernel_rfl) (by kernel_rfl) (by kernel_rfl) (door_met os _)) ?_
  intro W base args ds gs before hval0 hW _ _ hL _
  have hval : ∀ (j : Nat) t v, Tryd.f5.params[j]? = some t → args[j]? = some v → Value.okWide Tryd.prog W .any base t v := hval0
  have hW' := hW
  obtain ⟨p, q, hA0, hV, rfl, _, _⟩ := hW
  have hA : DataW.TrodAll enc Tryd.prog W 0 (fun _ => true) true Tryd.f5.params.toList args.toList ds p := hA0
  rw [Tryd.params5] at hA hval
  obtain ⟨v0, v1, d0, d1, q0, q1, rfl, rfl, rfl, h0, h1⟩ := trodAll_two hA
  obtain ⟨rfl, rfl⟩ := trodVars_none hV
  clear hA0 hval0
  simp only [List.append_nil] at hW'
  have hlt0 : ∀ x ∈ q0, x.block < W.heap.size := fun x hx => by simpa using hW'.lt x (List.mem_append_left _ hx)
  have hlt1 : ∀ x ∈ q1, x.block < W.heap.size := fun x hx => by simpa using hW'.lt x (List.mem_append_right _ hx)
  obtain ⟨j, k, i, t, pk, nk, ck, pl, nl, cl, rfl, hj⟩ := viewV (hval 0 25 v0 rfl rfl) h0
  obtain ⟨jy, ky, iy, ty, pky, nky, cky, ply, nly, cly, rfl, hjy⟩ := viewV (hval 1 25 v1 rfl rfl) h1
  have hargs0 : ∀ (W' : World), Below W.heap.size W W' → DataW.Trod enc Tryd.prog W' 0 (fun b => decide (b < W.heap.size)) true 25 (.agg #[.int .i64 k, .int .i64 i, .string t, .slice pk nk ck, .slice pl nl cl]) d0 q0 :=
    fun W' hn => Below.trod laidOutK (by kernel_rfl) (of_decide_eq_true (by kernel_rfl)) h0 hn hlt0
  have hargs1 : ∀ (W' : World), Below W.heap.size W W' → DataW.Trod enc Tryd.prog W' 0 (fun b => decide (b < W.heap.size)) true 25 (.agg #[.int .i64 ky, .int .i64 iy, .string ty, .slice pky nky cky, .slice ply nly cly]) d1 q1 :=
    fun W' hn => Below.trod laidOutK (by kernel_rfl) (of_decide_eq_true (by kernel_rfl)) h1 hn hlt1
  refine (apart_any (tab_of_laid hL) hj hjy).mono fun e W' ⟨he, hnx⟩ => ?_
  subst he
  exact ⟨_, rfl, _, _, _, [], q0 ++ q1, [], hW', trodAll_mk1 (shut_bool Tryd.underlying4 true), trodAll_mk2 (hargs0 _ hnx) (hargs1 _ hnx), rfl, hnx.frame _, fun h => by cases h⟩

theorem canonApart_holds : Rows.CanonApartSaid :=
  OpenClaim.holds_of_wide 5 Tryd.f5 rfl rfl rfl rfl rfl rfl rfl ⟨rfl, rfl, rfl, rfl, rfl⟩ rfl rfl rfl rfl rfl (by kernel_rfl) Tryd.func5 (by kernel_rfl)
    (of_decide_eq_true (by kernel_rfl)) (by unfold Func.isWrapper; first | (rw [if_pos (by decide +kernel)]; kernel_rfl) | (rw [if_neg (by decide +kernel)]; exact ⟨rfl, rfl⟩))
    (fun os started H enc _ => canonApart_lifted os started H enc)
/-- The tied card. -/
theorem canonApart_card : Rows.CanonApartCardSaid :=
  Claim7.holds_tied_plain_at .later [] [.data, .data, .data] true (true, "dc26126e0be186c1bdbd85ed75ecf10e95360e209ce5a2f45387d45e782b16df") false
    canonApart_holds (fun _ h => by cases h) (by kernel_rfl) (fun _ h => by cases h) canonApart_row_tie rfl ⟨rfl, rfl⟩ (by kernel_rfl) rfl
    (fun f fn hf hfn => by
      obtain rfl : f = 5 := Option.some.inj ((show Tryd.prog.funcNamed "agora/agoralaw01.CanonApart" = some 5 by kernel_rfl).symm.trans hf) |>.symm
      obtain rfl : fn = Tryd.f5 := (Option.some.inj (Tryd.func5.symm.trans hfn)).symm
      exact ⟨by kernel_rfl, fun j t ht => by
        rw [Tryd.params5] at ht
        have hm : t ∈ [25, 25] := by simpa using Array.mem_of_getElem? ht
        have hall : ([25, 25].all fun u => !Tryd.prog.wantsStandIn u) = true := by kernel_rfl
        exact (show Tryd.prog.wantsStandIn t = false by simpa using List.all_eq_true.1 hall t hm)⟩)
    (by kernel_rfl)
end Go.Proofs.YtnmhpejnjaeecaaDoor

/-
  CanonBack: whatever value of JSON there is, what is encoded of it is decoded as it is in order, or it is refused and no bytes are told; what is in order stays as it is; and chapter 1's examples hold.
-/
import Derived.Test.YtnmhpejnjaeecaaDoorLeftM
import Derived.Test.YtnmhpejnjaeecaaDoorSameM
import Derived.Test.YtnmhpejnjaeecaaDoorM9
import Derived.Test.YtnmhpejnjaeecaaDoorLaidM
import Derived.Test.YtnmhpejnjaeecaaDoorViewM
import Derived.Test.YtnmhpejnjaeecaaDoorViewJM
namespace Go.Proofs.YtnmhpejnjaeecaaDoor
open Go.RowKit

theorem tab_at2 {w w2 : World} (hT : Tab w.heap.size w) (hb : Below w.heap.size w w2) : Tab w2.heap.size w2 := fun w' h' => hT w' (below_in hb h')
theorem isJ_on {w w2 : World} {j : J} {cs : List Value} (h : isJ (fun b => b < w.heap.size) w j cs) (hb : Below w.heap.size w w2) : isJ (fun b => b < w2.heap.size) w2 j cs :=
  h.carry fun b hb' => ⟨Nat.lt_of_lt_of_le hb' hb.size, hb.block b hb'⟩
theorem isJ_new {w w2 : World} {j : J} {cs : List Value} (h : isJ (New w w2) w2 j cs) : isJ (fun b => b < w2.heap.size) w2 j cs :=
  h.carry fun _ hb' => ⟨hb'.2, rfl⟩
/-- Two values in memory that are the same are told so. -/
theorem same_true {w : World} {x : J} {k i : Int} {t : ByteArray} {pk pl : Option Addr} {nk ck nl cl : Nat} {k' i' : Int} {t' : ByteArray} {pk' pl' : Option Addr} {nk' ck' nl' cl' : Nat} (hx : Fit 12 x)
    (hj : isJ (fun b => b < w.heap.size) w x [.int .i64 k, .int .i64 i, .string t, .slice pk nk ck, .slice pl nl cl]) (hj' : isJ (fun b => b < w.heap.size) w x [.int .i64 k', .int .i64 i', .string t', .slice pk' nk' ck', .slice pl' nl' cl']) :
    Calls Tryd.prog 12 #[.agg #[.int .i64 k, .int .i64 i, .string t, .slice pk nk ck, .slice pl nl cl], .agg #[.int .i64 k', .int .i64 i', .string t', .slice pk' nk' ck', .slice pl' nl' cl']] w fun r w' => r = .returned (.bool true) ∧ Below w.heap.size w w' :=
  (sames 12 w (fun b => b < w.heap.size) x x k i t pk pl nk ck nl cl k' i' t' pk' pl' nk' ck' nl' cl' (fun _ h => h) hx.1 hx.2.2 hj hj').mono fun r w' ⟨⟨b, hr, hb⟩, h2⟩ => ⟨by rw [hr, hb.2 rfl], h2⟩
theorem fit_enc {j : J} (hg : goodJ 12 j = true) (hl : (enc' (ord j)).length ≤ 16384) : Fit 12 (ord j) := decode_fit (enc_bd 12 (ord j) (good_ord 12 j hg)) (decode_enc hg hl)
theorem ordT_good {j : J} (hg : goodJ 12 j = true) : ordT j = ord j := by unfold ordT; rw [if_pos hg]
theorem ordT_ord {j : J} (hg : goodJ 12 j = true) : ordT (ord j) = ord j := by
  rw [ordT_good (good_ord 12 j hg)]
  exact ord_same 12 _ (good_ord 12 j hg) (inOrd_ord 12 j hg)
set_option maxRecDepth 100000 in
set_option maxHeartbeats 16000000 in
theorem back_any {w : World} (hT : Tab w.heap.size w) {j : J} {k i : Int} {t : ByteArray} {pk pl : Option Addr} {nk ck nl cl : Nat} (hj : isJ (fun b => b < w.heap.size) w j [.int .i64 k, .int .i64 i, .string t, .slice pk nk ck, .slice pl nl cl]) :
    Calls Tryd.prog 3 #[.agg #[.int .i64 k, .int .i64 i, .string t, .slice pk nk ck, .slice pl nl cl]] w fun x w' => x = .returned (.bool true) ∧ Below w.heap.size w w' := by
  obtain ⟨wA, hwA⟩ : ∃ wA, wA = w.alloc (.cells #[.int .i64 k, .int .i64 i, .string t, .slice pk nk ck, .slice pl nl cl] 25) := ⟨_, rfl⟩
  have hbA : Below w.heap.size w wA := by rw [hwA]; exact (Below.refl _ _).alloc (Nat.le_refl _) _
  have hA : wA.heap[w.heap.size]? = some (.cells #[.int .i64 k, .int .i64 i, .string t, .slice pk nk ck, .slice pl nl cl] 25 (0, 0)) := by rw [hwA]; exact heap_alloc_new _ _
  have hsA : w.heap.size < wA.heap.size := (Array.getElem?_eq_some_iff.1 hA).1
  have HCA : Hid (∀ W : World, Below wA.heap.size wA W → ∀ n v, [Value.int .i64 k, .int .i64 i, .string t, .slice pk nk ck, .slice pl nl cl][n]? = some v → W.cell? ⟨w.heap.size, n, none⟩ = some v) := fun W hW n v hv =>
    (World.cell?_of_block (a := ⟨w.heap.size, n, none⟩) (hW.block w.heap.size hsA)).trans (cell_row (cur := [.int .i64 k, .int .i64 i, .string t, .slice pk nk ck, .slice pl nl cl]) hA n v hv)
  have HJA : Hid (isJ (fun b => b < wA.heap.size) wA j [.int .i64 k, .int .i64 i, .string t, .slice pk nk ck, .slice pl nl cl]) := isJ_on hj hbA
  have hF := few_any (fun _ h => h) HJA.out
  rw [hwA] at hF
  clear hj hA
  go_enter Tryd.func3, Tryd.ntmps3
  go_wp2_with (go_at_call 8; refine hF.mono ?_; rintro x w1 ⟨⟨b, rfl, hsz⟩, hb1⟩
               rw [← hwA] at hb1
               have c0 := HCA.out w1 hb1 0 _ rfl; have c1 := HCA.out w1 hb1 1 _ rfl; have c2 := HCA.out w1 hb1 2 _ rfl; have c3 := HCA.out w1 hb1 3 _ rfl; have c4 := HCA.out w1 hb1 4 _ rfl
               clear hF
               have hB1 := below_in hbA hb1
               rcases (show b = false ∨ b = true from by cases b <;> simp) with rfl | rfl
               rotate_left
               have HSZ : Hid (szJ 12 j = true) := sz_less 12 30 j (by decide) (hsz rfl)
               clear hsz
               have hEn := encode_any (w := w1) (O := fun b => b < w1.heap.size) (fun _ h => h) HSZ.out (tab_at2 hT hB1) (fun h => fit_ord h HSZ.out) (isJ_on HJA.out hb1))
  rotate_left
  · go_ret
    exact ⟨rfl, hB1⟩
  cases hg : goodJ 12 j with
  | false =>
    go_wp2_with (first
      | (go_at_call 9; refine hEn.mono ?_; rintro x w2 ⟨h1, _, _, hb2⟩
         obtain rfl := h1 hg
         clear hEn h1
         have hB2 := below_in hB1 hb2
         have hAw := awake_any (tab_at2 hT hB2))
      | (go_at_call 10; refine hAw.mono ?_; rintro x w9 ⟨rfl, hb9⟩))
    go_ret
    exact ⟨rfl, below_in hB2 hb9⟩
  | true =>
    have HG : Hid (goodJ 12 j = true) := hg
    clear hg
    by_cases hlong : 16384 < (enc' (ord j)).length
    · have HL : Hid (16384 < (enc' (ord j)).length) := hlong
      clear hlong
      go_wp2_with (first
        | (go_at_call 9; refine hEn.mono ?_; rintro x w2 ⟨_, h1, _, hb2⟩
           obtain rfl := h1 HG.out HL.out
           clear hEn h1
           have hB2 := below_in hB1 hb2
           have hAw := awake_any (tab_at2 hT hB2))
        | (go_at_call 10; refine hAw.mono ?_; rintro x w9 ⟨rfl, hb9⟩))
      go_ret
      exact ⟨rfl, below_in hB2 hb9⟩
    · have HL : Hid ((enc' (ord j)).length ≤ 16384) := by show _ ≤ _; omega
      clear hlong
      have HF : Hid (Fit 12 (ord j)) := fit_enc HG.out HL.out
      go_wp2_with (first
        | (go_at_call 9; refine hEn.mono ?_; rintro x w2 ⟨_, _, h3, hb2⟩
           obtain ⟨v, rfl, hown⟩ := h3 HG.out HL.out
           clear h3 hEn
           obtain ⟨p2, cc2, rfl, hrd⟩ := enc_rd HG.out hown
           have hD := decode_any hrd (by have := HL.out; omega)
           rw [decode_enc HG.out HL.out] at hD
           obtain ⟨n2, hn2⟩ : ∃ n, (enc' (ord j)).length = n := ⟨_, rfl⟩
           rw [hn2] at hD ⊢
           clear hown hrd hn2
           have hB2 := below_in hB1 hb2)
        | (go_at_call 11; refine hD.mono ?_; rintro x w3 ⟨⟨k3, i3, t3, pk3, nk3, ck3, pl3, nl3, cl3, rfl, hj3⟩, hb3⟩
           clear hD))
      obtain ⟨wZ, hwZ⟩ : ∃ wZ, wZ = (w3.alloc (.cells #[.int .i64 k3, .int .i64 i3, .string t3, .slice pk3 nk3 ck3, .slice pl3 nl3 cl3] 25)) := ⟨_, rfl⟩
      have hxZ : wZ.heap[w3.heap.size]? = some (.cells #[.int .i64 k3, .int .i64 i3, .string t3, .slice pk3 nk3 ck3, .slice pl3 nl3 cl3] 25 (0, 0)) := by rw [hwZ]; exact heap_alloc_new _ _
      have h3Z : Below w3.heap.size w3 wZ := by rw [hwZ]; exact (Below.refl _ _).alloc (Nat.le_refl _) _
      rw [← hwZ]
      clear hwZ c0 c1 c2 c3 c4
      have s3 : w3.heap.size < wZ.heap.size := (Array.getElem?_eq_some_iff.1 hxZ).1
      have hAZ := below_in hb1 (below_in hb2 (below_in hb3 h3Z))
      have hBZ := below_in hbA hAZ
      have HQK : Hid (∀ W : World, Below wZ.heap.size wZ W → ∀ n v, [Value.int .i64 k3, .int .i64 i3, .string t3, .slice pk3 nk3 ck3, .slice pl3 nl3 cl3][n]? = some v → W.cell? ⟨w3.heap.size, n, none⟩ = some v) := fun W hW n v h => (World.cell?_of_block (a := ⟨w3.heap.size, n, none⟩) (hW.block w3.heap.size s3)).trans (cell_row (cur := [.int .i64 k3, .int .i64 i3, .string t3, .slice pk3 nk3 ck3, .slice pl3 nl3 cl3]) hxZ n v h)
      have HQA : Hid (∀ W : World, Below wZ.heap.size wZ W → ∀ n v, [Value.int .i64 k, .int .i64 i, .string t, .slice pk nk ck, .slice pl nl cl][n]? = some v → W.cell? ⟨w.heap.size, n, none⟩ = some v) := fun W hW n v h => HCA.out W (below_in hAZ hW) n v h
      have HK3 : Hid (isJ (fun b => b < wZ.heap.size) wZ (ord j) [.int .i64 k3, .int .i64 i3, .string t3, .slice pk3 nk3 ck3, .slice pl3 nl3 cl3]) := isJ_on (isJ_new hj3) h3Z
      have HJZ : Hid (isJ (fun b => b < wZ.heap.size) wZ j [.int .i64 k, .int .i64 i, .string t, .slice pk nk ck, .slice pl nl cl]) := isJ_on HJA.out hAZ
      have hC0 : Below wZ.heap.size wZ wZ.drew := ⟨rfl, rfl, rfl, Nat.le_refl _, fun _ _ => rfl⟩
      have hO1 := order_any (w := wZ.drew) (fun _ h => h) HSZ.out (isJ_on HJZ.out hC0)
      rw [ordT_good HG.out] at hO1
      clear hxZ hj3 hb1 hb2 hb3
      refine wp_region_in (by kernel_rfl) (fun W => Below wZ.heap.size wZ W) ?_
      change wpIn _ _ _ _ _ _ _ _ (World.drew _)
      refine wpIn_take (i := 0) (d := (some 30)) (v := ?vqg0) (a' := ?aqg0) rfl rfl (by kernel_rfl) (by kernel_rfl) (by kernel_rfl) (fun _ _ _ h => h) (Or.inl ⟨by rfl, ?yqg0⟩) ?fqg0 ?_
      case yqg0 => (intro wq hq; go_simp; first | done | with_reducible rfl)
      case fqg0 => (go_frame; rfl)
      refine wpIn_take (i := 1) (d := (some 31)) (v := ?vqg1) (a' := ?aqg1) rfl rfl (by kernel_rfl) (by kernel_rfl) (by kernel_rfl) (fun _ _ _ h => h) (Or.inl ⟨by rfl, ?yqg1⟩) ?fqg1 ?_
      case yqg1 => (intro wq hq; go_simp; first | done | with_reducible rfl)
      case fqg1 => (go_frame; rfl)
      refine wpIn_take (i := 2) (d := (some 32)) (v := ?vqg2) (a' := ?aqg2) rfl rfl (by kernel_rfl) (by kernel_rfl) (by kernel_rfl) (fun _ _ _ h => h) (Or.inl ⟨by rfl, ?yqg2⟩) ?fqg2 ?_
      case yqg2 => (intro wq hq; go_simp; first | done | with_reducible rfl)
      case fqg2 => (go_frame; rfl)
      refine wpIn_take (i := 3) (d := (some 33)) (v := ?vqg3) (a' := ?aqg3) rfl rfl (by kernel_rfl) (by kernel_rfl) (by kernel_rfl) (fun _ _ _ h => h) (Or.inl ⟨by rfl, ?yqg3⟩) ?fqg3 ?_
      case yqg3 => (intro wq hq; have q0 := HQK.out wq hq 0 _ rfl; have q1 := HQK.out wq hq 1 _ rfl; have q2 := HQK.out wq hq 2 _ rfl; have q3 := HQK.out wq hq 3 _ rfl; have q4 := HQK.out wq hq 4 _ rfl; go_simp; first | done | with_reducible rfl)
      case fqg3 => (go_frame; rfl)
      refine wpIn_take (i := 4) (d := (some 34)) (v := ?vqg4) (a' := ?aqg4) rfl rfl (by kernel_rfl) (by kernel_rfl) (by kernel_rfl) (fun _ _ _ h => h) (Or.inl ⟨by rfl, ?yqg4⟩) ?fqg4 ?_
      case yqg4 => (intro wq hq; have q0 := HQA.out wq hq 0 _ rfl; have q1 := HQA.out wq hq 1 _ rfl; have q2 := HQA.out wq hq 2 _ rfl; have q3 := HQA.out wq hq 3 _ rfl; have q4 := HQA.out wq hq 4 _ rfl; go_simp; first | done | with_reducible rfl)
      case fqg4 => (go_frame; rfl)
      refine wpIn_do (i := 5) hC0 (by kernel_rfl) rfl (by rfl) ?_
      intro K hK
      go_simp
      go_wp2_with (go_at_call 13; refine hO1.mono ?_; rintro x w4 ⟨⟨kr, ir, tr, pr, nr, cr, qr, mr, dr, rfl, hjr⟩, hb4⟩)
      have hC1 : Below wZ.heap.size wZ w4 := below_cat hC0 hC0.size hb4
      have hS1 := same_true HF.out (isJ_on HK3.out hC1) hjr
      clear hC0 hO1 hb4 hjr
      refine wpIn_do (i := 6) hC1 (by kernel_rfl) rfl (by rfl) ?_
      intro K hK
      go_simp
      go_wp2_with (go_at_call 12; refine hS1.mono ?_; rintro x w5 ⟨rfl, hb5⟩)
      have hC2 : Below wZ.heap.size wZ w5 := below_cat hC1 hC1.size hb5
      have hO2 := order_any (w := w5) (fun _ h => h) HF.out.2.2 (isJ_on HK3.out hC2)
      rw [ordT_ord HG.out] at hO2
      clear hC1 hS1 hb5
      refine wpIn_take (i := 7) (d := (some 37)) (v := ?vqg7) (a' := ?aqg7) rfl rfl (by kernel_rfl) (by kernel_rfl) (by kernel_rfl) (fun _ _ _ h => h) (Or.inl ⟨by rfl, ?yqg7⟩) ?fqg7 ?_
      case yqg7 => (intro wq hq; go_simp; first | done | with_reducible rfl)
      case fqg7 => (go_frame; rfl)
      refine wpIn_take (i := 8) (d := (some 38)) (v := ?vqg8) (a' := ?aqg8) rfl rfl (by kernel_rfl) (by kernel_rfl) (by kernel_rfl) (fun _ _ _ h => h) (Or.inl ⟨by rfl, ?yqg8⟩) ?fqg8 ?_
      case yqg8 => (intro wq hq; go_simp; first | done | with_reducible rfl)
      case fqg8 => (go_frame; rfl)
      refine wpIn_take (i := 9) (d := (some 39)) (v := ?vqg9) (a' := ?aqg9) rfl rfl (by kernel_rfl) (by kernel_rfl) (by kernel_rfl) (fun _ _ _ h => h) (Or.inl ⟨by rfl, ?yqg9⟩) ?fqg9 ?_
      case yqg9 => (intro wq hq; have q0 := HQK.out wq hq 0 _ rfl; have q1 := HQK.out wq hq 1 _ rfl; have q2 := HQK.out wq hq 2 _ rfl; have q3 := HQK.out wq hq 3 _ rfl; have q4 := HQK.out wq hq 4 _ rfl; go_simp; first | done | with_reducible rfl)
      case fqg9 => (go_frame; rfl)
      refine wpIn_take (i := 11) (d := (some 41)) (v := ?vqg11) (a' := ?aqg11) rfl rfl (by kernel_rfl) (by kernel_rfl) (by kernel_rfl) (fun _ _ _ h => h) (Or.inl ⟨by rfl, ?yqg11⟩) ?fqg11 ?_
      case yqg11 => (intro wq hq; have q0 := HQK.out wq hq 0 _ rfl; have q1 := HQK.out wq hq 1 _ rfl; have q2 := HQK.out wq hq 2 _ rfl; have q3 := HQK.out wq hq 3 _ rfl; have q4 := HQK.out wq hq 4 _ rfl; go_simp; first | done | with_reducible rfl)
      case fqg11 => (go_frame; rfl)
      refine wpIn_do (i := 10) hC2 (by kernel_rfl) rfl (by rfl) ?_
      intro K hK
      go_simp
      go_wp2_with (go_at_call 13; refine hO2.mono ?_; rintro x w6 ⟨⟨ku, iu, tu, pu, nu, cu, qu, mu, du, rfl, hju⟩, hb6⟩)
      have hC3 : Below wZ.heap.size wZ w6 := below_cat hC2 hC2.size hb6
      have hS2 := same_true HF.out hju (isJ_on HK3.out hC3)
      clear hC2 hO2 hb6 hju
      refine wpIn_do (i := 12) hC3 (by kernel_rfl) rfl (by rfl) ?_
      intro K hK
      go_simp
      go_wp2_with (go_at_call 12; refine hS2.mono ?_; rintro x w7 ⟨rfl, hb7⟩)
      have hC4 : Below wZ.heap.size wZ w7 := below_cat hC3 hC3.size hb7
      have hAw := awake_any (tab_at2 hT (below_in hBZ hC4))
      clear hC3 hS2 hb7
      refine wpIn_take (i := 13) (d := (some 43)) (v := ?vqg13) (a' := ?aqg13) rfl rfl (by kernel_rfl) (by kernel_rfl) (by kernel_rfl) (fun _ _ _ h => h) (Or.inl ⟨by rfl, ?yqg13⟩) ?fqg13 ?_
      case yqg13 => (intro wq hq; go_simp; first | done | with_reducible rfl)
      case fqg13 => (go_frame; rfl)
      refine wpIn_take (i := 14) (d := (some 44)) (v := ?vqg14) (a' := ?aqg14) rfl rfl (by kernel_rfl) (by kernel_rfl) (by kernel_rfl) (fun _ _ _ h => h) (Or.inl ⟨by rfl, ?yqg14⟩) ?fqg14 ?_
      case yqg14 => (intro wq hq; go_simp; first | done | with_reducible rfl)
      case fqg14 => (go_frame; rfl)
      refine wpIn_do (i := 15) hC4 (by kernel_rfl) rfl (by rfl) ?_
      intro K hK
      go_simp
      go_wp2_with (go_at_call 10; refine hAw.mono ?_; rintro x w8 ⟨rfl, hb8⟩)
      have hC5 : Below wZ.heap.size wZ w8 := below_cat hC4 hC4.size hb8
      clear hC4 hAw hb8
      refine wpIn_take (i := 16) (d := (some 46)) (v := ?vqg16) (a' := ?aqg16) rfl rfl (by kernel_rfl) (by kernel_rfl) (by kernel_rfl) (fun _ _ _ h => h) (Or.inl ⟨by rfl, ?yqg16⟩) ?fqg16 ?_
      case yqg16 => (intro wq hq; go_simp; first | done | with_reducible rfl)
      case fqg16 => (go_frame; rfl)
      refine wpIn_take (i := 17) (d := (some 2)) (v := ?vqg17) (a' := ?aqg17) rfl rfl (by kernel_rfl) (by kernel_rfl) (by kernel_rfl) (fun _ _ _ h => h) (Or.inl ⟨by rfl, ?yqg17⟩) ?fqg17 ?_
      case yqg17 => (intro wq hq; go_simp; first | done | with_reducible rfl)
      case fqg17 => (go_frame; rfl)
      refine wpIn_done hC5 (by kernel_rfl) ?_ _
      go_wp2
      go_ret
      exact ⟨rfl, below_in hBZ hC5⟩
end Go.Proofs.YtnmhpejnjaeecaaDoor
namespace Go.Proofs.YtnmhpejnjaeecaaDoor
open Go.ChangeShapes Go.WideShapes Go.ChangeAt Go.RowKit

set_option maxRecDepth 100000 in
theorem viewV {H : Type} {enc : TypeId × Value → H} {W : World} {base : Nat} {v : Value} {d : DataW H} {p0 : List MemPlace} (hval : Value.okWide Tryd.prog W .any base 25 v)
    (h0 : DataW.Trod enc Tryd.prog W 0 (fun _ => true) true 25 v d p0) : ∃ j k i t pk nk ck pl nl cl, v = .agg #[.int .i64 k, .int .i64 i, .string t, .slice pk nk ck, .slice pl nl cl] ∧ isJ (fun b => b < W.heap.size) W j [.int .i64 k, .int .i64 i, .string t, .slice pk nk ck, .slice pl nl cl] := by
  obtain ⟨cs, rfl, _⟩ := okWide_struct Tryd.underlying25 hval
  obtain ⟨fuel, hf⟩ := h0
  have hf' : DataW.trod enc Tryd.prog W 0 (fun _ => true) true fuel 25 cs.toList = some (d, p0) := by simpa [Value.cells] using hf
  obtain ⟨j, hj⟩ := viewJ fuel cs.toList _ hf'
  obtain ⟨k, i, t, pk, nk, ck, pl, nl, cl, hcs⟩ := isJ_shape hj
  obtain rfl : cs = #[.int .i64 k, .int .i64 i, .string t, .slice pk nk ck, .slice pl nl cl] := by rw [← Array.toList_inj]; exact hcs
  exact ⟨j, k, i, t, pk, nk, ck, pl, nl, cl, rfl, hj⟩
set_option maxRecDepth 100000 in
theorem canonBack_lifted (os : Os) (started : os.Started) (H : Type) (enc : TypeId × Value → H) :
    ReturnsInHanded {} Tryd.checked os 3 .any (fun w args => (Rows.canonBackSpec.pre enc Tryd.prog Tryd.f3 [] false w args ∧ laidMetH Tryd.prog laid3 w) ∧ sizedMet enc Tryd.prog Tryd.f3 (OpenSpec.ofChange Rows.canonBackSpec) false w args)
      (Rows.canonBackSpec.post enc Tryd.prog Tryd.f3 false true false false) := by
  refine returnsInHanded_of_change_and (C := Tryd.checked) (X := fun w _ => laidMetH Tryd.prog laid3 w) (fun _ _ _ hh h => h.of_heap hh) ownK started (by kernel_rfl) Tryd.func3
    (ChangeSpec.witness_shaped (enc := enc) (C := Tryd.checked) (os := os) (X := fun w _ => laidMetH Tryd.prog laid3 w) false (World.doorLaid Tryd.prog 400 os) #[.agg #[.int .i64 0, .int .i64 0, .string ⟨#[]⟩, .slice none 0 0, .slice none 0 0]] 8 rfl (World.shaped_of_RefB (by kernel_rfl) (by kernel_rfl)) (by kernel_rfl) (by kernel_rfl) (by kernel_rfl) (door_met os _)) ?_
  intro W base args ds gs before hval0 hW _ _ hL _
  have hval : ∀ (j : Nat) t v, Tryd.f3.params[j]? = some t → args[j]? = some v → Value.okWide Tryd.prog W .any base t v := hval0
  have hW' := hW
  obtain ⟨p, q, hA0, hV, rfl, _, _⟩ := hW
  have hA : DataW.TrodAll enc Tryd.prog W 0 (fun _ => true) true Tryd.f3.params.toList args.toList ds p := hA0
  rw [Tryd.params3] at hA hval
  obtain ⟨v0, d0, rfl, rfl, h0⟩ := trodAll_one hA
  obtain ⟨rfl, rfl⟩ := trodVars_none hV
  clear hA0 hval0
  simp only [List.append_nil] at hW'
  have hlt : ∀ x ∈ p, x.block < W.heap.size := fun x hx => by simpa using hW'.lt x hx
  obtain ⟨j, k, i, t, pk, nk, ck, pl, nl, cl, rfl, hj⟩ := viewV (hval 0 25 v0 rfl rfl) h0
  have hargs : ∀ (W' : World), Below W.heap.size W W' → DataW.Trod enc Tryd.prog W' 0 (fun b => decide (b < W.heap.size)) true 25 (.agg #[.int .i64 k, .int .i64 i, .string t, .slice pk nk ck, .slice pl nl cl]) d0 p :=
    fun W' hn => Below.trod laidOutK (by kernel_rfl) (of_decide_eq_true (by kernel_rfl)) h0 hn hlt
  refine (back_any (tab_of_laid hL) hj).mono fun e W' ⟨he, hnx⟩ => ?_
  subst he
  exact ⟨_, rfl, _, _, _, [], p, [], hW', trodAll_mk1 (shut_bool Tryd.underlying4 true), trodAll_mk1 (hargs _ hnx), rfl, hnx.frame _, fun h => by cases h⟩

theorem canonBack_holds : Rows.CanonBackSaid :=
  OpenClaim.holds_of_wide 3 Tryd.f3 rfl rfl rfl rfl rfl rfl rfl ⟨rfl, rfl, rfl, rfl, rfl⟩ rfl rfl rfl rfl rfl (by kernel_rfl) Tryd.func3 (by kernel_rfl)
    (of_decide_eq_true (by kernel_rfl)) (by unfold Func.isWrapper; first | (rw [if_pos (by decide +kernel)]; kernel_rfl) | (rw [if_neg (by decide +kernel)]; exact ⟨rfl, rfl⟩))
    (fun os started H enc _ => canonBack_lifted os started H enc)
/-- The tied card. -/
theorem canonBack_card : Rows.CanonBackCardSaid :=
  Claim7.holds_tied_plain_at .later [] [.data, .data, .data] true (true, "dc26126e0be186c1bdbd85ed75ecf10e95360e209ce5a2f45387d45e782b16df") false
    canonBack_holds (fun _ h => by cases h) (by kernel_rfl) (fun _ h => by cases h) canonBack_row_tie rfl ⟨rfl, rfl⟩ (by kernel_rfl) rfl
    (fun f fn hf hfn => by
      obtain rfl : f = 3 := Option.some.inj ((show Tryd.prog.funcNamed "agora/agoralaw01.CanonBack" = some 3 by kernel_rfl).symm.trans hf) |>.symm
      obtain rfl : fn = Tryd.f3 := (Option.some.inj (Tryd.func3.symm.trans hfn)).symm
      exact ⟨by kernel_rfl, fun j t ht => by
        rw [Tryd.params3] at ht
        have hm : t ∈ [25] := by simpa using Array.mem_of_getElem? ht
        have hall : ([25].all fun u => !Tryd.prog.wantsStandIn u) = true := by kernel_rfl
        exact (show Tryd.prog.wantsStandIn t = false by simpa using List.all_eq_true.1 hall t hm)⟩)
    (by kernel_rfl)
end Go.Proofs.YtnmhpejnjaeecaaDoor

/-
  CanonOnce: whatever bytes there are, what is decoded of them is good and in order, and its bytes are decoded as the same, or are too many; an error's place is within the bytes; and chapter 1's examples hold.
-/
import Derived.Test.YtnmhpejnjaeecaaDoorOrM
import Derived.Test.YtnmhpejnjaeecaaDoorSameM
import Derived.Test.YtnmhpejnjaeecaaDoorM9
import Derived.Test.YtnmhpejnjaeecaaDoorLaidM
import Derived.Test.YtnmhpejnjaeecaaDoorViewM
namespace Go.Proofs.YtnmhpejnjaeecaaDoor
open Go.RowKit

theorem tab_at3 {w w2 : World} (hT : Tab w.heap.size w) (hb : Below w.heap.size w w2) : Tab w2.heap.size w2 := fun w' h' => hT w' (below_in hb h')
theorem isJ_on3 {w w2 : World} {j : J} {cs : List Value} (h : isJ (fun b => b < w.heap.size) w j cs) (hb : Below w.heap.size w w2) : isJ (fun b => b < w2.heap.size) w2 j cs :=
  h.carry fun b hb' => ⟨Nat.lt_of_lt_of_le hb' hb.size, hb.block b hb'⟩
theorem isJ_new3 {w w2 : World} {j : J} {cs : List Value} (h : isJ (New w w2) w2 j cs) : isJ (fun b => b < w2.heap.size) w2 j cs :=
  h.carry fun _ hb' => ⟨hb'.2, rfl⟩
theorem same_true3 {w : World} {x : J} {k i : Int} {t : ByteArray} {pk pl : Option Addr} {nk ck nl cl : Nat} {k' i' : Int} {t' : ByteArray} {pk' pl' : Option Addr} {nk' ck' nl' cl' : Nat} (hx : Fit 12 x)
    (hj : isJ (fun b => b < w.heap.size) w x [.int .i64 k, .int .i64 i, .string t, .slice pk nk ck, .slice pl nl cl]) (hj' : isJ (fun b => b < w.heap.size) w x [.int .i64 k', .int .i64 i', .string t', .slice pk' nk' ck', .slice pl' nl' cl']) :
    Calls Tryd.prog 12 #[.agg #[.int .i64 k, .int .i64 i, .string t, .slice pk nk ck, .slice pl nl cl], .agg #[.int .i64 k', .int .i64 i', .string t', .slice pk' nk' ck', .slice pl' nl' cl']] w fun r w' => r = .returned (.bool true) ∧ Below w.heap.size w w' :=
  (sames 12 w (fun b => b < w.heap.size) x x k i t pk pl nk ck nl cl k' i' t' pk' pl' nk' ck' nl' cl' (fun _ h => h) hx.1 hx.2.2 hj hj').mono fun r w' ⟨⟨b, hr, hb⟩, h2⟩ => ⟨by rw [hr, hb.2 rfl], h2⟩
set_option maxRecDepth 100000 in
set_option maxHeartbeats 8000000 in
theorem once_long {w : World} {p : Option Addr} {c : Nat} {rs : List Int} (hl : 20000 < rs.length) :
    Calls Tryd.prog 4 #[.slice p rs.length c] w fun x w' => x = .returned (.bool true) ∧ Below w.heap.size w w' := by
  have hi : (20000 : Int) < (rs.length : Int) := by omega
  go_enter Tryd.func4, Tryd.ntmps4
  go_wp2
  go_ret
  exact ⟨rfl, Below.refl _ _⟩
set_option maxRecDepth 100000 in
set_option maxHeartbeats 8000000 in
theorem once_bad {w : World} (hT : Tab w.heap.size w) {p : Option Addr} {c : Nat} {rs : List Int} (hrd : Rd w.heap.size w p c rs) (hl : rs.length ≤ 20000) {e : Int} {l : Nat} (hd : decode rs = .bad e l) :
    Calls Tryd.prog 4 #[.slice p rs.length c] w fun x w' => x = .returned (.bool true) ∧ Below w.heap.size w w' := by
  have hi : (rs.length : Int) ≤ 20000 := by omega
  have he := nz_decode hd
  have hp := decode_place hd
  have hpi : (l : Int) ≤ (rs.length : Int) := by omega
  have hD : Calls Tryd.prog 11 #[.slice p rs.length c] w fun x w' => x = .returned (.tuple #[.agg #[.int .i64 0, .int .i64 0, .string ⟨#[]⟩, .slice none 0 0, .slice none 0 0], .int .i64 e, .int .i64 l]) ∧ Below w.heap.size w w' := (decode_any hrd (by omega)).mono fun x w' h => by
    rw [hd] at h
    exact h
  clear hd
  go_enter Tryd.func4, Tryd.ntmps4
  go_wp2_with (first
    | (go_at_call 11; refine hD.mono ?_; rintro x w1 ⟨rfl, hb1⟩
       clear hD
       have hB1 : Below w.heap.size w (w1.alloc (.cells #[.int .i64 0, .int .i64 0, .string ⟨#[]⟩, .slice none 0 0, .slice none 0 0] 25)) := hb1.alloc hb1.size _
       have hAw := awake_any (tab_at3 hT hB1))
    | (go_at_call 10; refine hAw.mono ?_; rintro x w9 ⟨rfl, hb9⟩))
  go_ret
  exact ⟨rfl, below_in hB1 hb9⟩
set_option maxRecDepth 100000 in
set_option maxHeartbeats 16000000 in
theorem once_good {w : World} (hT : Tab w.heap.size w) {p : Option Addr} {c : Nat} {rs : List Int} (hrd : Rd w.heap.size w p c rs) (hl : rs.length ≤ 20000) {j : J} {r : Nat} (hd : decode rs = .ok j r) :
    Calls Tryd.prog 4 #[.slice p rs.length c] w fun x w' => x = .returned (.bool true) ∧ Below w.heap.size w w' := by
  have hi : (rs.length : Int) ≤ 20000 := by omega
  have HF : Hid (Fit 12 j) := decode_fit hrd.2.1 hd
  have HO : Hid (ord j = j) := decode_ord hrd.2.1 hd
  have hD := decode_any hrd (by omega)
  rw [hd] at hD
  clear hd
  go_enter Tryd.func4, Tryd.ntmps4
  go_wp2_with (go_at_call 11; refine hD.mono ?_; rintro x w1 ⟨⟨k1, i1, t1, pk1, nk1, ck1, pl1, nl1, cl1, rfl, hj1⟩, hb1⟩
               clear hD
               have hB1 : Below w.heap.size w (w1.alloc (.cells #[.int .i64 k1, .int .i64 i1, .string t1, .slice pk1 nk1 ck1, .slice pl1 nl1 cl1] 25)) := hb1.alloc hb1.size _
               have hEn := encode_any (w := w1.alloc (.cells #[.int .i64 k1, .int .i64 i1, .string t1, .slice pk1 nk1 ck1, .slice pl1 nl1 cl1] 25)) (O := fun b => b < (w1.alloc (.cells #[.int .i64 k1, .int .i64 i1, .string t1, .slice pk1 nk1 ck1, .slice pl1 nl1 cl1] 25)).heap.size) (fun _ h => h) HF.out.2.2 (tab_at3 hT hB1) (fun h => fit_ord h HF.out.2.2) (isJ_on3 (isJ_new3 hj1) ((Below.refl _ _).alloc (Nat.le_refl _) _)))
  by_cases hlong : 16384 < (enc' (ord j)).length
  · have HL : Hid (16384 < (enc' (ord j)).length) := hlong
    clear hlong
    go_wp2_with (first
      | (go_at_call 9; refine hEn.mono ?_; rintro x w2 ⟨_, h1, _, hb2⟩
         obtain rfl := h1 HF.out.1 HL.out
         clear hEn h1
         have hB2 := below_in hB1 hb2
         have hAw := awake_any (tab_at3 hT hB2))
      | (go_at_call 10; refine hAw.mono ?_; rintro x w9 ⟨rfl, hb9⟩))
    go_ret
    exact ⟨rfl, below_in hB2 hb9⟩
  · have HL : Hid ((enc' (ord j)).length ≤ 16384) := by show _ ≤ _; omega
    clear hlong
    go_wp2_with (first
      | (go_at_call 9; refine hEn.mono ?_; rintro x w2 ⟨_, _, h3, hb2⟩
         obtain ⟨v, rfl, hown⟩ := h3 HF.out.1 HL.out
         clear h3 hEn
         obtain ⟨p2, cc2, rfl, hrd2⟩ := enc_rd HF.out.1 hown
         have hD := decode_any hrd2 (by have := HL.out; omega)
         rw [decode_enc HF.out.1 HL.out, HO.out] at hD
         rw [HO.out]
         obtain ⟨n2, hn2⟩ : ∃ n, (enc' j).length = n := ⟨_, rfl⟩
         rw [hn2] at hD ⊢
         clear hown hrd2 hn2
         have hB2 := below_in hB1 hb2)
      | (go_at_call 11; refine hD.mono ?_; rintro x w3 ⟨⟨k3, i3, t3, pk3, nk3, ck3, pl3, nl3, cl3, rfl, hj3⟩, hb3⟩
         clear hD))
    have b1 : Below w1.heap.size w1 (w1.alloc (.cells #[.int .i64 k1, .int .i64 i1, .string t1, .slice pk1 nk1 ck1, .slice pl1 nl1 cl1] 25)) := (Below.refl _ _).alloc (Nat.le_refl _) _
    have hxA : (w1.alloc (.cells #[.int .i64 k1, .int .i64 i1, .string t1, .slice pk1 nk1 ck1, .slice pl1 nl1 cl1] 25)).heap[w1.heap.size]? = some (.cells #[.int .i64 k1, .int .i64 i1, .string t1, .slice pk1 nk1 ck1, .slice pl1 nl1 cl1] 25 (0, 0)) := heap_alloc_new _ _
    obtain ⟨wZ, hwZ⟩ : ∃ wZ, wZ = (w3.alloc (.cells #[.int .i64 k3, .int .i64 i3, .string t3, .slice pk3 nk3 ck3, .slice pl3 nl3 cl3] 25)) := ⟨_, rfl⟩
    have hxZ : wZ.heap[w3.heap.size]? = some (.cells #[.int .i64 k3, .int .i64 i3, .string t3, .slice pk3 nk3 ck3, .slice pl3 nl3 cl3] 25 (0, 0)) := by rw [hwZ]; exact heap_alloc_new _ _
    have h3Z : Below w3.heap.size w3 wZ := by rw [hwZ]; exact (Below.refl _ _).alloc (Nat.le_refl _) _
    rw [← hwZ]
    clear hwZ
    have hAZ := below_in hb2 (below_in hb3 h3Z)
    have h1Z := below_in b1 hAZ
    have hBZ := below_in hB1 hAZ
    have s3 : w3.heap.size < wZ.heap.size := (Array.getElem?_eq_some_iff.1 hxZ).1
    have hx1Z : wZ.heap[w1.heap.size]? = some (.cells #[.int .i64 k1, .int .i64 i1, .string t1, .slice pk1 nk1 ck1, .slice pl1 nl1 cl1] 25 (0, 0)) := (hAZ.block w1.heap.size (by simp)).trans hxA
    have s1 : w1.heap.size < wZ.heap.size := (Array.getElem?_eq_some_iff.1 hx1Z).1
    have HQK : Hid (∀ W : World, Below wZ.heap.size wZ W → ∀ n v, [Value.int .i64 k3, .int .i64 i3, .string t3, .slice pk3 nk3 ck3, .slice pl3 nl3 cl3][n]? = some v → W.cell? ⟨w3.heap.size, n, none⟩ = some v) := fun W hW n v h => (World.cell?_of_block (a := ⟨w3.heap.size, n, none⟩) (hW.block w3.heap.size s3)).trans (cell_row (cur := [.int .i64 k3, .int .i64 i3, .string t3, .slice pk3 nk3 ck3, .slice pl3 nl3 cl3]) hxZ n v h)
    have HQJ : Hid (∀ W : World, Below wZ.heap.size wZ W → ∀ n v, [Value.int .i64 k1, .int .i64 i1, .string t1, .slice pk1 nk1 ck1, .slice pl1 nl1 cl1][n]? = some v → W.cell? ⟨w1.heap.size, n, none⟩ = some v) := fun W hW n v h => (World.cell?_of_block (a := ⟨w1.heap.size, n, none⟩) (hW.block w1.heap.size s1)).trans (cell_row (cur := [.int .i64 k1, .int .i64 i1, .string t1, .slice pk1 nk1 ck1, .slice pl1 nl1 cl1]) hx1Z n v h)
    have HK3 : Hid (isJ (fun b => b < wZ.heap.size) wZ j [.int .i64 k3, .int .i64 i3, .string t3, .slice pk3 nk3 ck3, .slice pl3 nl3 cl3]) := isJ_on3 (isJ_new3 hj3) h3Z
    have HJZ : Hid (isJ (fun b => b < wZ.heap.size) wZ j [.int .i64 k1, .int .i64 i1, .string t1, .slice pk1 nk1 ck1, .slice pl1 nl1 cl1]) := isJ_on3 (isJ_new3 hj1) h1Z
    have HOR : Hid (ordR j = j) := by show _ = _; unfold ordR; rw [if_pos HF.out.1]; exact HO.out
    have hC0 : Below wZ.heap.size wZ wZ.drew := ⟨rfl, rfl, rfl, Nat.le_refl _, fun _ _ => rfl⟩
    have hG := rGood_any (w := wZ.drew) (fun _ h => h) HF.out.2.2 (isJ_on3 HJZ.out hC0)
    rw [HF.out.1] at hG
    clear hxZ hxA hx1Z hj1 hj3 b1 hb2 hb3
    refine wp_region_in (by kernel_rfl) (fun W => Below wZ.heap.size wZ W) ?_
    change wpIn _ _ _ _ _ _ _ _ (World.drew _)
    refine wpIn_take (i := 0) (d := (some 51)) (v := ?vqg0) (a' := ?aqg0) rfl rfl (by kernel_rfl) (by kernel_rfl) (by kernel_rfl) (fun _ _ _ h => h) (Or.inl ⟨by rfl, ?yqg0⟩) ?fqg0 ?_
    case yqg0 => (intro wq hq; have q0 := HQJ.out wq hq 0 _ rfl; have q1 := HQJ.out wq hq 1 _ rfl; have q2 := HQJ.out wq hq 2 _ rfl; have q3 := HQJ.out wq hq 3 _ rfl; have q4 := HQJ.out wq hq 4 _ rfl; go_simp; first | done | with_reducible rfl)
    case fqg0 => (go_frame; rfl)
    refine wpIn_do (i := 1) hC0 (by kernel_rfl) rfl (by rfl) ?_
    intro K hK
    go_simp
    go_wp2_with (go_at_call 14; refine hG.mono ?_; rintro x w4 ⟨rfl, hb4⟩)
    have hC1 : Below wZ.heap.size wZ w4 := below_cat hC0 hC0.size hb4
    have hO1 := rOrder_any (w := w4) (fun _ h => h) HF.out.2.2 (isJ_on3 HJZ.out hC1)
    rw [HOR.out] at hO1
    clear hC0 hG hb4
    refine wpIn_take (i := 2) (d := (some 53)) (v := ?vqg2) (a' := ?aqg2) rfl rfl (by kernel_rfl) (by kernel_rfl) (by kernel_rfl) (fun _ _ _ h => h) (Or.inl ⟨by rfl, ?yqg2⟩) ?fqg2 ?_
    case yqg2 => (intro wq hq; go_simp; first | done | with_reducible rfl)
    case fqg2 => (go_frame; rfl)
    refine wpIn_take (i := 3) (d := (some 54)) (v := ?vqg3) (a' := ?aqg3) rfl rfl (by kernel_rfl) (by kernel_rfl) (by kernel_rfl) (fun _ _ _ h => h) (Or.inl ⟨by rfl, ?yqg3⟩) ?fqg3 ?_
    case yqg3 => (intro wq hq; have q0 := HQJ.out wq hq 0 _ rfl; have q1 := HQJ.out wq hq 1 _ rfl; have q2 := HQJ.out wq hq 2 _ rfl; have q3 := HQJ.out wq hq 3 _ rfl; have q4 := HQJ.out wq hq 4 _ rfl; go_simp; first | done | with_reducible rfl)
    case fqg3 => (go_frame; rfl)
    refine wpIn_take (i := 5) (d := (some 56)) (v := ?vqg5) (a' := ?aqg5) rfl rfl (by kernel_rfl) (by kernel_rfl) (by kernel_rfl) (fun _ _ _ h => h) (Or.inl ⟨by rfl, ?yqg5⟩) ?fqg5 ?_
    case yqg5 => (intro wq hq; have q0 := HQJ.out wq hq 0 _ rfl; have q1 := HQJ.out wq hq 1 _ rfl; have q2 := HQJ.out wq hq 2 _ rfl; have q3 := HQJ.out wq hq 3 _ rfl; have q4 := HQJ.out wq hq 4 _ rfl; go_simp; first | done | with_reducible rfl)
    case fqg5 => (go_frame; rfl)
    refine wpIn_do (i := 4) hC1 (by kernel_rfl) rfl (by rfl) ?_
    intro K hK
    go_simp
    go_wp2_with (go_at_call 15; refine hO1.mono ?_; rintro x w5 ⟨⟨kr, ir, tr, pr, nr, cr, qr, mr, dr, rfl, hjr⟩, hb5⟩)
    have hC2 : Below wZ.heap.size wZ w5 := below_cat hC1 hC1.size hb5
    have hS1 := same_true3 HF.out hjr (isJ_on3 HJZ.out hC2)
    clear hC1 hO1 hb5 hjr
    refine wpIn_do (i := 6) hC2 (by kernel_rfl) rfl (by rfl) ?_
    intro K hK
    go_simp
    go_wp2_with (go_at_call 12; refine hS1.mono ?_; rintro x w6 ⟨rfl, hb6⟩)
    have hC3 : Below wZ.heap.size wZ w6 := below_cat hC2 hC2.size hb6
    have hS2 := same_true3 HF.out (isJ_on3 HJZ.out hC3) (isJ_on3 HK3.out hC3)
    clear hC2 hS1 hb6
    refine wpIn_take (i := 7) (d := (some 58)) (v := ?vqg7) (a' := ?aqg7) rfl rfl (by kernel_rfl) (by kernel_rfl) (by kernel_rfl) (fun _ _ _ h => h) (Or.inl ⟨by rfl, ?yqg7⟩) ?fqg7 ?_
    case yqg7 => (intro wq hq; go_simp; first | done | with_reducible rfl)
    case fqg7 => (go_frame; rfl)
    refine wpIn_take (i := 8) (d := (some 59)) (v := ?vqg8) (a' := ?aqg8) rfl rfl (by kernel_rfl) (by kernel_rfl) (by kernel_rfl) (fun _ _ _ h => h) (Or.inl ⟨by rfl, ?yqg8⟩) ?fqg8 ?_
    case yqg8 => (intro wq hq; go_simp; first | done | with_reducible rfl)
    case fqg8 => (go_frame; rfl)
    refine wpIn_take (i := 9) (d := (some 60)) (v := ?vqg9) (a' := ?aqg9) rfl rfl (by kernel_rfl) (by kernel_rfl) (by kernel_rfl) (fun _ _ _ h => h) (Or.inl ⟨by rfl, ?yqg9⟩) ?fqg9 ?_
    case yqg9 => (intro wq hq; go_simp; first | done | with_reducible rfl)
    case fqg9 => (go_frame; rfl)
    refine wpIn_take (i := 10) (d := (some 61)) (v := ?vqg10) (a' := ?aqg10) rfl rfl (by kernel_rfl) (by kernel_rfl) (by kernel_rfl) (fun _ _ _ h => h) (Or.inl ⟨by rfl, ?yqg10⟩) ?fqg10 ?_
    case yqg10 => (intro wq hq; go_simp; first | done | with_reducible rfl)
    case fqg10 => (go_frame; rfl)
    refine wpIn_take (i := 11) (d := (some 62)) (v := ?vqg11) (a' := ?aqg11) rfl rfl (by kernel_rfl) (by kernel_rfl) (by kernel_rfl) (fun _ _ _ h => h) (Or.inl ⟨by rfl, ?yqg11⟩) ?fqg11 ?_
    case yqg11 => (intro wq hq; go_simp; first | done | with_reducible rfl)
    case fqg11 => (go_frame; rfl)
    refine wpIn_take (i := 12) (d := (some 63)) (v := ?vqg12) (a' := ?aqg12) rfl rfl (by kernel_rfl) (by kernel_rfl) (by kernel_rfl) (fun _ _ _ h => h) (Or.inl ⟨by rfl, ?yqg12⟩) ?fqg12 ?_
    case yqg12 => (intro wq hq; go_simp; first | done | with_reducible rfl)
    case fqg12 => (go_frame; rfl)
    refine wpIn_take (i := 13) (d := (some 64)) (v := ?vqg13) (a' := ?aqg13) rfl rfl (by kernel_rfl) (by kernel_rfl) (by kernel_rfl) (fun _ _ _ h => h) (Or.inl ⟨by rfl, ?yqg13⟩) ?fqg13 ?_
    case yqg13 => (intro wq hq; have q0 := HQJ.out wq hq 0 _ rfl; have q1 := HQJ.out wq hq 1 _ rfl; have q2 := HQJ.out wq hq 2 _ rfl; have q3 := HQJ.out wq hq 3 _ rfl; have q4 := HQJ.out wq hq 4 _ rfl; go_simp; first | done | with_reducible rfl)
    case fqg13 => (go_frame; rfl)
    refine wpIn_take (i := 14) (d := (some 65)) (v := ?vqg14) (a' := ?aqg14) rfl rfl (by kernel_rfl) (by kernel_rfl) (by kernel_rfl) (fun _ _ _ h => h) (Or.inl ⟨by rfl, ?yqg14⟩) ?fqg14 ?_
    case yqg14 => (intro wq hq; have q0 := HQK.out wq hq 0 _ rfl; have q1 := HQK.out wq hq 1 _ rfl; have q2 := HQK.out wq hq 2 _ rfl; have q3 := HQK.out wq hq 3 _ rfl; have q4 := HQK.out wq hq 4 _ rfl; go_simp; first | done | with_reducible rfl)
    case fqg14 => (go_frame; rfl)
    refine wpIn_do (i := 15) hC3 (by kernel_rfl) rfl (by rfl) ?_
    intro K hK
    go_simp
    go_wp2_with (go_at_call 12; refine hS2.mono ?_; rintro x w7 ⟨rfl, hb7⟩)
    have hC4 : Below wZ.heap.size wZ w7 := below_cat hC3 hC3.size hb7
    have hAw := awake_any (tab_at3 hT (below_in hBZ hC4))
    clear hC3 hS2 hb7
    refine wpIn_take (i := 16) (d := (some 67)) (v := ?vqg16) (a' := ?aqg16) rfl rfl (by kernel_rfl) (by kernel_rfl) (by kernel_rfl) (fun _ _ _ h => h) (Or.inl ⟨by rfl, ?yqg16⟩) ?fqg16 ?_
    case yqg16 => (intro wq hq; go_simp; first | done | with_reducible rfl)
    case fqg16 => (go_frame; rfl)
    refine wpIn_take (i := 17) (d := (some 68)) (v := ?vqg17) (a' := ?aqg17) rfl rfl (by kernel_rfl) (by kernel_rfl) (by kernel_rfl) (fun _ _ _ h => h) (Or.inl ⟨by rfl, ?yqg17⟩) ?fqg17 ?_
    case yqg17 => (intro wq hq; go_simp; first | done | with_reducible rfl)
    case fqg17 => (go_frame; rfl)
    refine wpIn_do (i := 18) hC4 (by kernel_rfl) rfl (by rfl) ?_
    intro K hK
    go_simp
    go_wp2_with (go_at_call 10; refine hAw.mono ?_; rintro x w8 ⟨rfl, hb8⟩)
    have hC5 : Below wZ.heap.size wZ w8 := below_cat hC4 hC4.size hb8
    clear hC4 hAw hb8
    refine wpIn_take (i := 19) (d := (some 70)) (v := ?vqg19) (a' := ?aqg19) rfl rfl (by kernel_rfl) (by kernel_rfl) (by kernel_rfl) (fun _ _ _ h => h) (Or.inl ⟨by rfl, ?yqg19⟩) ?fqg19 ?_
    case yqg19 => (intro wq hq; go_simp; first | done | with_reducible rfl)
    case fqg19 => (go_frame; rfl)
    refine wpIn_take (i := 20) (d := (some 2)) (v := ?vqg20) (a' := ?aqg20) rfl rfl (by kernel_rfl) (by kernel_rfl) (by kernel_rfl) (fun _ _ _ h => h) (Or.inl ⟨by rfl, ?yqg20⟩) ?fqg20 ?_
    case yqg20 => (intro wq hq; go_simp; first | done | with_reducible rfl)
    case fqg20 => (go_frame; rfl)
    refine wpIn_done hC5 (by kernel_rfl) ?_ _
    go_wp2
    go_ret
    exact ⟨rfl, below_in hBZ hC5⟩
theorem onceLaw_any {w : World} (hT : Tab w.heap.size w) {p : Option Addr} {c : Nat} {rs : List Int} (hrd : Rd w.heap.size w p c rs) :
    Calls Tryd.prog 4 #[.slice p rs.length c] w fun x w' => x = .returned (.bool true) ∧ Below w.heap.size w w' := by
  rcases Nat.lt_or_ge 20000 rs.length with hl | hl
  · exact once_long hl
  · cases hd : decode rs with
    | bad e l => exact once_bad hT hrd hl hd
    | ok j r => exact once_good hT hrd hl hd
end Go.Proofs.YtnmhpejnjaeecaaDoor
namespace Go.Proofs.YtnmhpejnjaeecaaDoor
open Go.ChangeShapes Go.WideShapes Go.ChangeAt Go.RowKit

set_option maxRecDepth 100000 in
theorem canonOnce_lifted (os : Os) (started : os.Started) (H : Type) (enc : TypeId × Value → H) :
    ReturnsInHanded {} Tryd.checked os 4 .any (fun w args => (Rows.canonOnceSpec.pre enc Tryd.prog Tryd.f4 [] false w args ∧ laidMetH Tryd.prog laid3 w) ∧ sizedMet enc Tryd.prog Tryd.f4 (OpenSpec.ofChange Rows.canonOnceSpec) false w args)
      (Rows.canonOnceSpec.post enc Tryd.prog Tryd.f4 false true false false) := by
  refine returnsInHanded_of_change_and (C := Tryd.checked) (X := fun w _ => laidMetH Tryd.prog laid3 w) (fun _ _ _ hh h => h.of_heap hh) ownK started (by kernel_rfl) Tryd.func4
    (ChangeSpec.witness_shaped (enc := enc) (C := Tryd.checked) (os := os) (X := fun w _ => laidMetH Tryd.prog laid3 w) false (World.doorLaid Tryd.prog 400 os) #[.slice none 0 0] 8 rfl (World.shaped_of_RefB (by kernel_rfl) (by kernel_rfl)) (by kernel_rfl) (by kernel_rfl) (by kernel_rfl) (door_met os _)) ?_
  intro W base args ds gs before hval0 hW _ hsz0 hL _
  have hsz : (DataW.weightsEach Tryd.prog (Tryd.f4.params.toList ++ Rows.canonOnceSpec.plain.varTypes Tryd.prog) (ds ++ gs)).all (· ≤ reachBytes) = true := hsz0
  clear hsz0
  have hval : ∀ (j : Nat) t v, Tryd.f4.params[j]? = some t → args[j]? = some v → Value.okWide Tryd.prog W .any base t v := hval0
  have hW' := hW
  obtain ⟨p, q, hA0, hV, rfl, _, _⟩ := hW
  have hA : DataW.TrodAll enc Tryd.prog W 0 (fun _ => true) true Tryd.f4.params.toList args.toList ds p := hA0
  rw [Tryd.params4] at hA hval hsz
  obtain ⟨v0, d0, rfl, rfl, h0⟩ := trodAll_one hA
  obtain ⟨rfl, rfl⟩ := trodVars_none hV
  clear hA0 hval0
  simp only [List.append_nil] at hW'
  have hlt : ∀ x ∈ p, x.block < W.heap.size := fun x hx => by simpa using hW'.lt x hx
  obtain ⟨p0, zs, c, rfl, hrd, _, _⟩ := viewB (hval 0 27 v0 rfl rfl) h0 hlt (fun elems spare hd => sized_slice hsz (j := 0) (t := 27) (e := 5) rfl (by subst hd; rfl) Tryd.underlying27)
  have hargs : ∀ (W' : World), Below W.heap.size W W' → DataW.Trod enc Tryd.prog W' 0 (fun b => decide (b < W.heap.size)) true 27 (.slice p0 zs.length c) d0 p :=
    fun W' hn => Below.trod laidOutK (by kernel_rfl) (of_decide_eq_true (by kernel_rfl)) h0 hn hlt
  refine (onceLaw_any (tab_of_laid hL) hrd).mono fun e W' ⟨he, hnx⟩ => ?_
  subst he
  exact ⟨_, rfl, _, _, _, [], p, [], hW', trodAll_mk1 (shut_bool Tryd.underlying4 true), trodAll_mk1 (hargs _ hnx), rfl, hnx.frame _, fun h => by cases h⟩

theorem canonOnce_holds : Rows.CanonOnceSaid :=
  OpenClaim.holds_of_wide 4 Tryd.f4 rfl rfl rfl rfl rfl rfl rfl ⟨rfl, rfl, rfl, rfl, rfl⟩ rfl rfl rfl rfl rfl (by kernel_rfl) Tryd.func4 (by kernel_rfl)
    (of_decide_eq_true (by kernel_rfl)) (by unfold Func.isWrapper; first | (rw [if_pos (by decide +kernel)]; kernel_rfl) | (rw [if_neg (by decide +kernel)]; exact ⟨rfl, rfl⟩))
    (fun os started H enc _ => canonOnce_lifted os started H enc)
/-- The tied card. -/
theorem canonOnce_card : Rows.CanonOnceCardSaid :=
  Claim7.holds_tied_plain_at .later [] [.data, .data, .data] true (true, "dc26126e0be186c1bdbd85ed75ecf10e95360e209ce5a2f45387d45e782b16df") false
    canonOnce_holds (fun _ h => by cases h) (by kernel_rfl) (fun _ h => by cases h) canonOnce_row_tie rfl ⟨rfl, rfl⟩ (by kernel_rfl) rfl
    (fun f fn hf hfn => by
      obtain rfl : f = 4 := Option.some.inj ((show Tryd.prog.funcNamed "agora/agoralaw01.CanonOnce" = some 4 by kernel_rfl).symm.trans hf) |>.symm
      obtain rfl : fn = Tryd.f4 := (Option.some.inj (Tryd.func4.symm.trans hfn)).symm
      exact ⟨by kernel_rfl, fun j t ht => by
        rw [Tryd.params4] at ht
        have hm : t ∈ [27] := by simpa using Array.mem_of_getElem? ht
        have hall : ([27].all fun u => !Tryd.prog.wantsStandIn u) = true := by kernel_rfl
        exact (show Tryd.prog.wantsStandIn t = false by simpa using List.all_eq_true.1 hall t hm)⟩)
    (by kernel_rfl)
end Go.Proofs.YtnmhpejnjaeecaaDoor

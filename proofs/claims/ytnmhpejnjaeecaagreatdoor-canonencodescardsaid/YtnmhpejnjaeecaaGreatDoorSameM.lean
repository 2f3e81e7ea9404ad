/-
  Whether two values are the same, by a contract.
-/
import Derived.Test.YtnmhpejnjaeecaaGreatDoorM8
namespace Go.Proofs.YtnmhpejnjaeecaaGreatDoor
open Go.RowKit

theorem list_ext_D {α : Type} {z : α} {a b : List α} (hl : a.length = b.length) (h : ∀ n, n < a.length → a.getD n z = b.getD n z) : a = b := by
  apply List.ext_getElem hl
  intro n h1 h2
  have := h n h1
  rw [List.getD_eq_getElem?_getD, List.getD_eq_getElem?_getD, List.getElem?_eq_getElem h1, List.getElem?_eq_getElem h2] at this
  exact this
/-- How values that may be d deep are told the same. -/
def Sames (d : Nat) : Prop := ∀ (w : World) (O : Nat → Prop) (x y : J) (k i : Int) (t : ByteArray) (pk pl : Option Addr) (nk ck nl cl : Nat) (k' i' : Int) (t' : ByteArray) (pk' pl' : Option Addr) (nk' ck' nl' cl' : Nat), (∀ b, O b → b < w.heap.size) → goodJ d x = true → szJ d x = true →
  isJ O w x [.int .i64 k, .int .i64 i, .string t, .slice pk nk ck, .slice pl nl cl] → isJ O w y [.int .i64 k', .int .i64 i', .string t', .slice pk' nk' ck', .slice pl' nl' cl'] →
  Calls Tryz.prog 9 #[.agg #[.int .i64 k, .int .i64 i, .string t, .slice pk nk ck, .slice pl nl cl], .agg #[.int .i64 k', .int .i64 i', .string t', .slice pk' nk' ck', .slice pl' nl' cl']] w fun r w' => (∃ b, r = .returned (.bool b) ∧ (b = true ↔ x = y)) ∧ Below w.heap.size w w'
theorem isJ_parts {O : Nat → Prop} {w : World} {kx ix : Int} {tx : ByteArray} {ks : List ByteArray} {l : List J} {k i : Int} {t : ByteArray} {pk pl : Option Addr} {nk ck nl cl : Nat} (h : isJ O w (.mk kx ix tx ks l) [.int .i64 k, .int .i64 i, .string t, .slice pk nk ck, .slice pl nl cl]) :
    k = kx ∧ i = ix ∧ t = tx ∧ nk = ks.length ∧ nl = l.length ∧ RdK O w pk ck ks ∧ l.length ≤ cl ∧ isJs O w pl 0 l := by
  unfold isJ at h
  obtain ⟨pk', ck', pl', cl', e, h1, h2, h3⟩ := h
  simp only [List.cons.injEq, Value.int.injEq, Value.string.injEq, Value.slice.injEq, true_and, and_true] at e
  obtain ⟨rfl, rfl, rfl, ⟨rfl, rfl, rfl⟩, rfl, rfl, rfl⟩ := e
  exact ⟨rfl, rfl, rfl, rfl, rfl, h1, h2, h3⟩
theorem RdK.cellAt {O : Nat → Prop} {w : World} {p : Option Addr} {c : Nat} {ks : List ByteArray} (h : RdK O w p c ks) {n : Nat} (hn : n < ks.length) : ∃ a, p = some a ∧ O a.block ∧ w.cell? (a.add n) = some (.string (keyAtK ks n)) := h.2 n hn
theorem same_zero : Sames 0 := fun _ _ x _ _ _ _ _ _ _ _ _ _ _ _ _ _ _ _ _ _ _ _ hg => by unfold goodJ at hg; cases hg
set_option maxRecDepth 100000 in
set_option maxHeartbeats 16000000 in
theorem same_step {d : Nat} (V : Sames d) : Sames (d + 1) := by
  intro w O x y k i t pk pl nk ck nl cl k' i' t' pk' pl' nk' ck' nl' cl' hO hg hsz hx hy
  obtain ⟨kx, ix, tx, ks, l⟩ := x
  obtain ⟨ky, iy, ty, ms, r⟩ := y
  obtain ⟨rfl, rfl, rfl, rfl, rfl, hkx, hlx, hsx⟩ := isJ_parts hx
  obtain ⟨rfl, rfl, rfl, rfl, rfl, hky, hly, hsy⟩ := isJ_parts hy
  clear hx hy
  unfold szJ at hsz
  simp only [Bool.and_eq_true, decide_eq_true_eq] at hsz
  obtain ⟨_, hks, _, hll, hlsz⟩ := hsz
  have HGL : Hid (l.all (goodJ d) = true) := (good_sub hg).1
  have HLS : Hid (l.all (szJ d) = true) := hlsz
  clear hg hlsz
  obtain ⟨nk, hnk⟩ : ∃ n, ks.length = n := ⟨_, rfl⟩
  obtain ⟨nm, hnm⟩ : ∃ n, ms.length = n := ⟨_, rfl⟩
  obtain ⟨nl, hnl⟩ : ∃ n, l.length = n := ⟨_, rfl⟩
  obtain ⟨nr, hnr⟩ : ∃ n, r.length = n := ⟨_, rfl⟩
  have HNK : Hid (ks.length = nk) := hnk
  have HNM : Hid (ms.length = nm) := hnm
  have HNL : Hid (l.length = nl) := hnl
  have HNR : Hid (r.length = nr) := hnr
  have hckx := hkx.1
  have hcky := hky.1
  rw [hnk] at hks hckx ⊢
  rw [hnm] at hcky ⊢
  rw [hnl] at hll hlx ⊢
  rw [hnr] at hly ⊢
  clear hnk hnm hnl hnr
  have hbA : Below w.heap.size w ((w.alloc (.cells #[.int .i64 k, .int .i64 i, .string t, .slice pk nk ck, .slice pl nl cl] 25)).alloc (.cells #[.int .i64 k', .int .i64 i', .string t', .slice pk' nm ck', .slice pl' nr cl'] 25)) := ((Below.refl _ _).alloc (Nat.le_refl _) _).alloc (by simp) _
  by_cases e1 : k = k'
  rotate_left
  · go_enter Tryz.func9, Tryz.ntmps9
    go_wp2
    go_ret
    exact ⟨⟨false, rfl, fun h => (by cases h), fun h => absurd (J.mk.inj h).1 e1⟩, ((Below.refl _ _).alloc (Nat.le_refl _) _).alloc (by simp) _⟩
  by_cases e2 : i = i'
  rotate_left
  · go_enter Tryz.func9, Tryz.ntmps9
    go_wp2
    go_ret
    exact ⟨⟨false, rfl, fun h => (by cases h), fun h => absurd (J.mk.inj h).2.1 e2⟩, ((Below.refl _ _).alloc (Nat.le_refl _) _).alloc (by simp) _⟩
  by_cases e3 : t = t'
  rotate_left
  · have heq : (t.toList == t'.toList) = false := by rw [beq_eq_false_iff_ne]; intro e; exact e3 (toList_inj e)
    go_enter Tryz.func9, Tryz.ntmps9
    go_wp2
    go_ret
    exact ⟨⟨false, rfl, fun h => (by cases h), fun h => absurd (J.mk.inj h).2.2.1 e3⟩, ((Below.refl _ _).alloc (Nat.le_refl _) _).alloc (by simp) _⟩
  by_cases e4 : nk = nm
  rotate_left
  · go_enter Tryz.func9, Tryz.ntmps9
    go_wp2
    go_ret
    exact ⟨⟨false, rfl, fun h => (by cases h), fun h => absurd (by rw [← HNK.out, ← HNM.out, (J.mk.inj h).2.2.2.1]) e4⟩, ((Below.refl _ _).alloc (Nat.le_refl _) _).alloc (by simp) _⟩
  by_cases e5 : nl = nr
  rotate_left
  · go_enter Tryz.func9, Tryz.ntmps9
    go_wp2
    go_ret
    exact ⟨⟨false, rfl, fun h => (by cases h), fun h => absurd (by rw [← HNL.out, ← HNR.out, (J.mk.inj h).2.2.2.2]) e5⟩, ((Below.refl _ _).alloc (Nat.le_refl _) _).alloc (by simp) _⟩
  subst e1 e2 e3 e4 e5
  obtain ⟨wB, hwB⟩ : ∃ wB, wB = ((w.alloc (.cells #[.int .i64 k, .int .i64 i, .string t, .slice pk nk ck, .slice pl nl cl] 25)).alloc (.cells #[.int .i64 k, .int .i64 i, .string t, .slice pk' nk ck', .slice pl' nl cl'] 25)) := ⟨_, rfl⟩
  have hA : wB.heap[w.heap.size]? = some (.cells #[.int .i64 k, .int .i64 i, .string t, .slice pk nk ck, .slice pl nl cl] 25 (0, 0)) := by
    rw [hwB, Below.heap_alloc _ _ _ (by simp)]
    exact heap_alloc_new _ _
  have hB : wB.heap[w.heap.size + 1]? = some (.cells #[.int .i64 k, .int .i64 i, .string t, .slice pk' nk ck', .slice pl' nl cl'] 25 (0, 0)) := by
    rw [hwB]
    have := heap_alloc_new (w.alloc (.cells #[.int .i64 k, .int .i64 i, .string t, .slice pk nk ck, .slice pl nl cl] 25)) (.cells #[.int .i64 k, .int .i64 i, .string t, .slice pk' nk ck', .slice pl' nl cl'] 25)
    simpa using this
  rw [← hwB] at hbA
  have hsB : w.heap.size + 2 ≤ wB.heap.size := by rw [hwB]; simp
  have HCA : Hid (∀ W : World, Below wB.heap.size wB W → ∀ n v, [Value.int .i64 k, .int .i64 i, .string t, .slice pk nk ck, .slice pl nl cl][n]? = some v → W.cell? ⟨w.heap.size, n, none⟩ = some v) := fun W hW n v hv =>
    (World.cell?_of_block (a := ⟨w.heap.size, n, none⟩) (hW.block w.heap.size (by omega))).trans (cell_row (cur := [.int .i64 k, .int .i64 i, .string t, .slice pk nk ck, .slice pl nl cl]) hA n v hv)
  have HCB : Hid (∀ W : World, Below wB.heap.size wB W → ∀ n v, [Value.int .i64 k, .int .i64 i, .string t, .slice pk' nk ck', .slice pl' nl cl'][n]? = some v → W.cell? ⟨w.heap.size + 1, n, none⟩ = some v) := fun W hW n v hv =>
    (World.cell?_of_block (a := ⟨w.heap.size + 1, n, none⟩) (hW.block (w.heap.size + 1) (by omega))).trans (cell_row (cur := [.int .i64 k, .int .i64 i, .string t, .slice pk' nk ck', .slice pl' nl cl']) hB n v hv)
  clear hA hB
  go_enter Tryz.func9, Tryz.ntmps9
  go_wp2
  rw [← hwB]
  clear hwB
  go_loopw [5] (fun v wr => ∃ n : Nat, v = .int .i64 n ∧ n ≤ nk ∧ Hid (∀ m, m < n → keyAtK ks m = keyAtK ms m) ∧ wr.heap = wB.heap ∧ Below wB.heap.size wB wr) (fun v _ => nk - (intOf v).toNat)
  case atStart => exact ⟨0, rfl, Nat.zero_le _, fun m hm => absurd hm (by omega), rfl, Below.refl _ _⟩
  case round =>
    obtain ⟨n, rfl, hn, HE, hheap, hbr⟩ := hrel
    have a3 := HCA.out wr hbr 3 _ rfl
    have b3 := HCB.out wr hbr 3 _ rfl
    by_cases hnk : n < nk
    · have hni : (n : Int) < (nk : Int) := by omega
      obtain ⟨ka, hpk, hOa, hcka⟩ := hkx.cellAt (n := n) (by rw [HNK.out]; exact hnk)
      obtain ⟨kb, hpm, hOb, hckb⟩ := hky.cellAt (n := n) (by rw [HNM.out]; exact hnk)
      subst hpk hpm
      have hKA : ∀ W : World, Below wB.heap.size wB W → W.cell? (ka.add n) = some (.string (keyAtK ks n)) := fun W hW =>
        (World.cell?_of_block (by rw [add_block]; exact (hW.block _ (by have := hO _ hOa; omega)).trans (hbA.block _ (hO _ hOa)))).trans hcka
      have hKB : ∀ W : World, Below wB.heap.size wB W → W.cell? (kb.add n) = some (.string (keyAtK ms n)) := fun W hW =>
        (World.cell?_of_block (by rw [add_block]; exact (hW.block _ (by have := hO _ hOb; omega)).trans (hbA.block _ (hO _ hOb)))).trans hckb
      obtain ⟨u, hu⟩ : ∃ u, keyAtK ks n = u := ⟨_, rfl⟩
      obtain ⟨v, hv⟩ : ∃ v, keyAtK ms n = v := ⟨_, rfl⟩
      have HU : Hid (keyAtK ks n = u) := hu
      have HV : Hid (keyAtK ms n = v) := hv
      rw [hu] at hKA
      rw [hv] at hKB
      have HKA : Hid (∀ W : World, Below wB.heap.size wB W → W.cell? (ka.add n) = some (.string u)) := hKA
      have HKB : Hid (∀ W : World, Below wB.heap.size wB W → W.cell? (kb.add n) = some (.string v)) := hKB
      clear hu hv hKA hKB hcka hckb
      have hC0 : Below wB.heap.size wB wr.drew := ⟨hbr.os, hbr.tape, hbr.output, hbr.size, hbr.block⟩
      by_cases huv : u = v
      · have heq : (u.toList == v.toList) = true := by rw [huv]; simp
        go_wp2
        refine wp_region_in (by kernel_rfl) (fun W => Below wB.heap.size wB W) ?_
        change wpIn _ _ _ _ _ _ _ _ (World.drew _)
        refine wpIn_take (i := 0) (d := (some 51)) (v := ?vqk0) (a' := ?aqk0) rfl rfl (by kernel_rfl) (by kernel_rfl) (by kernel_rfl) (fun _ _ _ h => h) (Or.inl ⟨by rfl, ?yqk0⟩) ?fqk0 ?_
        case yqk0 => (intro wq hq; go_simp; first | done | with_reducible rfl)
        case fqk0 => (go_frame; rfl)
        refine wpIn_take (i := 1) (d := (some 52)) (v := ?vqk1) (a' := ?aqk1) rfl rfl (by kernel_rfl) (by kernel_rfl) (by kernel_rfl) (fun _ _ _ h => h) (Or.inl ⟨by rfl, ?yqk1⟩) ?fqk1 ?_
        case yqk1 => (intro wq hq; have q0 := HCA.out wq hq 3 _ rfl; have q1 := HCB.out wq hq 3 _ rfl; have q2 := HKA.out wq hq; have q3 := HKB.out wq hq; go_simp; first | done | with_reducible rfl)
        case fqk1 => (go_frame; rfl)
        refine wpIn_take (i := 2) (d := (some 53)) (v := ?vqk2) (a' := ?aqk2) rfl rfl (by kernel_rfl) (by kernel_rfl) (by kernel_rfl) (fun _ _ _ h => h) (Or.inl ⟨by rfl, ?yqk2⟩) ?fqk2 ?_
        case yqk2 => (intro wq hq; go_simp; first | done | with_reducible rfl)
        case fqk2 => (go_frame; rfl)
        refine wpIn_take (i := 3) (d := (some 54)) (v := ?vqk3) (a' := ?aqk3) rfl rfl (by kernel_rfl) (by kernel_rfl) (by kernel_rfl) (fun _ _ _ h => h) (Or.inl ⟨by rfl, ?yqk3⟩) ?fqk3 ?_
        case yqk3 => (intro wq hq; go_simp; first | done | with_reducible rfl)
        case fqk3 => (go_frame; rfl)
        refine wpIn_take (i := 4) (d := (some 55)) (v := ?vqk4) (a' := ?aqk4) rfl rfl (by kernel_rfl) (by kernel_rfl) (by kernel_rfl) (fun _ _ _ h => h) (Or.inl ⟨by rfl, ?yqk4⟩) ?fqk4 ?_
        case yqk4 => (intro wq hq; have q0 := HCA.out wq hq 3 _ rfl; have q1 := HCB.out wq hq 3 _ rfl; have q2 := HKA.out wq hq; have q3 := HKB.out wq hq; go_simp; first | done | with_reducible rfl)
        case fqk4 => (go_frame; rfl)
        refine wpIn_take (i := 5) (d := (some 56)) (v := ?vqk5) (a' := ?aqk5) rfl rfl (by kernel_rfl) (by kernel_rfl) (by kernel_rfl) (fun _ _ _ h => h) (Or.inl ⟨by rfl, ?yqk5⟩) ?fqk5 ?_
        case yqk5 => (intro wq hq; go_simp; first | done | with_reducible rfl)
        case fqk5 => (go_frame; rfl)
        refine wpIn_take (i := 6) (d := (some 57)) (v := ?vqk6) (a' := ?aqk6) rfl rfl (by kernel_rfl) (by kernel_rfl) (by kernel_rfl) (fun _ _ _ h => h) (Or.inl ⟨by rfl, ?yqk6⟩) ?fqk6 ?_
        case yqk6 => (intro wq hq; have q0 := HCA.out wq hq 3 _ rfl; have q1 := HCB.out wq hq 3 _ rfl; have q2 := HKA.out wq hq; have q3 := HKB.out wq hq; go_simp; first | done | with_reducible rfl)
        case fqk6 => (go_frame; rfl)
        refine wpIn_take (i := 7) (d := (some 58)) (v := ?vqk7) (a' := ?aqk7) rfl rfl (by kernel_rfl) (by kernel_rfl) (by kernel_rfl) (fun _ _ _ h => h) (Or.inl ⟨by rfl, ?yqk7⟩) ?fqk7 ?_
        case yqk7 => (intro wq hq; go_simp; first | done | with_reducible rfl)
        case fqk7 => (go_frame; rfl)
        refine wpIn_take (i := 8) (d := (some 59)) (v := ?vqk8) (a' := ?aqk8) rfl rfl (by kernel_rfl) (by kernel_rfl) (by kernel_rfl) (fun _ _ _ h => h) (Or.inl ⟨by rfl, ?yqk8⟩) ?fqk8 ?_
        case yqk8 => (intro wq hq; go_simp; first | done | with_reducible rfl)
        case fqk8 => (go_frame; rfl)
        refine wpIn_take (i := 9) (d := (some 60)) (v := ?vqk9) (a' := ?aqk9) rfl rfl (by kernel_rfl) (by kernel_rfl) (by kernel_rfl) (fun _ _ _ h => h) (Or.inl ⟨by rfl, ?yqk9⟩) ?fqk9 ?_
        case yqk9 => (intro wq hq; have q0 := HCA.out wq hq 3 _ rfl; have q1 := HCB.out wq hq 3 _ rfl; have q2 := HKA.out wq hq; have q3 := HKB.out wq hq; go_simp; first | done | with_reducible rfl)
        case fqk9 => (go_frame; rfl)
        refine wpIn_take (i := 10) (d := (some 61)) (v := ?vqk10) (a' := ?aqk10) rfl rfl (by kernel_rfl) (by kernel_rfl) (by kernel_rfl) (fun _ _ _ h => h) (Or.inl ⟨by rfl, ?yqk10⟩) ?fqk10 ?_
        case yqk10 => (intro wq hq; go_simp; first | done | with_reducible rfl)
        case fqk10 => (go_frame; rfl)
        refine wpIn_done hC0 (by kernel_rfl) ?_ _
        go_wp2
        go_roundw
        case rel => exact ⟨n + 1, by go_num, hnk, fun m hm => (Nat.lt_succ_iff_lt_or_eq.1 hm).elim (HE.out m) fun e => by rw [e, HU.out, HV.out, huv], hheap, hC0⟩
        case measure => simp [intOf]; omega
      · have heq : (u.toList == v.toList) = false := by rw [beq_eq_false_iff_ne]; intro e; exact huv (toList_inj e)
        go_wp2
        refine wp_region_in (by kernel_rfl) (fun W => Below wB.heap.size wB W) ?_
        change wpIn _ _ _ _ _ _ _ _ (World.drew _)
        refine wpIn_take (i := 0) (d := (some 51)) (v := ?vqd0) (a' := ?aqd0) rfl rfl (by kernel_rfl) (by kernel_rfl) (by kernel_rfl) (fun _ _ _ h => h) (Or.inl ⟨by rfl, ?yqd0⟩) ?fqd0 ?_
        case yqd0 => (intro wq hq; go_simp; first | done | with_reducible rfl)
        case fqd0 => (go_frame; rfl)
        refine wpIn_take (i := 1) (d := (some 52)) (v := ?vqd1) (a' := ?aqd1) rfl rfl (by kernel_rfl) (by kernel_rfl) (by kernel_rfl) (fun _ _ _ h => h) (Or.inl ⟨by rfl, ?yqd1⟩) ?fqd1 ?_
        case yqd1 => (intro wq hq; have q0 := HCA.out wq hq 3 _ rfl; have q1 := HCB.out wq hq 3 _ rfl; have q2 := HKA.out wq hq; have q3 := HKB.out wq hq; go_simp; first | done | with_reducible rfl)
        case fqd1 => (go_frame; rfl)
        refine wpIn_take (i := 2) (d := (some 53)) (v := ?vqd2) (a' := ?aqd2) rfl rfl (by kernel_rfl) (by kernel_rfl) (by kernel_rfl) (fun _ _ _ h => h) (Or.inl ⟨by rfl, ?yqd2⟩) ?fqd2 ?_
        case yqd2 => (intro wq hq; go_simp; first | done | with_reducible rfl)
        case fqd2 => (go_frame; rfl)
        refine wpIn_take (i := 3) (d := (some 54)) (v := ?vqd3) (a' := ?aqd3) rfl rfl (by kernel_rfl) (by kernel_rfl) (by kernel_rfl) (fun _ _ _ h => h) (Or.inl ⟨by rfl, ?yqd3⟩) ?fqd3 ?_
        case yqd3 => (intro wq hq; go_simp; first | done | with_reducible rfl)
        case fqd3 => (go_frame; rfl)
        refine wpIn_take (i := 4) (d := (some 55)) (v := ?vqd4) (a' := ?aqd4) rfl rfl (by kernel_rfl) (by kernel_rfl) (by kernel_rfl) (fun _ _ _ h => h) (Or.inl ⟨by rfl, ?yqd4⟩) ?fqd4 ?_
        case yqd4 => (intro wq hq; have q0 := HCA.out wq hq 3 _ rfl; have q1 := HCB.out wq hq 3 _ rfl; have q2 := HKA.out wq hq; have q3 := HKB.out wq hq; go_simp; first | done | with_reducible rfl)
        case fqd4 => (go_frame; rfl)
        refine wpIn_take (i := 5) (d := (some 56)) (v := ?vqd5) (a' := ?aqd5) rfl rfl (by kernel_rfl) (by kernel_rfl) (by kernel_rfl) (fun _ _ _ h => h) (Or.inl ⟨by rfl, ?yqd5⟩) ?fqd5 ?_
        case yqd5 => (intro wq hq; go_simp; first | done | with_reducible rfl)
        case fqd5 => (go_frame; rfl)
        refine wpIn_take (i := 6) (d := (some 57)) (v := ?vqd6) (a' := ?aqd6) rfl rfl (by kernel_rfl) (by kernel_rfl) (by kernel_rfl) (fun _ _ _ h => h) (Or.inl ⟨by rfl, ?yqd6⟩) ?fqd6 ?_
        case yqd6 => (intro wq hq; have q0 := HCA.out wq hq 3 _ rfl; have q1 := HCB.out wq hq 3 _ rfl; have q2 := HKA.out wq hq; have q3 := HKB.out wq hq; go_simp; first | done | with_reducible rfl)
        case fqd6 => (go_frame; rfl)
        refine wpIn_take (i := 7) (d := (some 58)) (v := ?vqd7) (a' := ?aqd7) rfl rfl (by kernel_rfl) (by kernel_rfl) (by kernel_rfl) (fun _ _ _ h => h) (Or.inl ⟨by rfl, ?yqd7⟩) ?fqd7 ?_
        case yqd7 => (intro wq hq; go_simp; first | done | with_reducible rfl)
        case fqd7 => (go_frame; rfl)
        refine wpIn_take (i := 8) (d := (some 59)) (v := ?vqd8) (a' := ?aqd8) rfl rfl (by kernel_rfl) (by kernel_rfl) (by kernel_rfl) (fun _ _ _ h => h) (Or.inl ⟨by rfl, ?yqd8⟩) ?fqd8 ?_
        case yqd8 => (intro wq hq; go_simp; first | done | with_reducible rfl)
        case fqd8 => (go_frame; rfl)
        refine wpIn_take (i := 9) (d := (some 60)) (v := ?vqd9) (a' := ?aqd9) rfl rfl (by kernel_rfl) (by kernel_rfl) (by kernel_rfl) (fun _ _ _ h => h) (Or.inl ⟨by rfl, ?yqd9⟩) ?fqd9 ?_
        case yqd9 => (intro wq hq; have q0 := HCA.out wq hq 3 _ rfl; have q1 := HCB.out wq hq 3 _ rfl; have q2 := HKA.out wq hq; have q3 := HKB.out wq hq; go_simp; first | done | with_reducible rfl)
        case fqd9 => (go_frame; rfl)
        refine wpIn_take (i := 10) (d := (some 61)) (v := ?vqd10) (a' := ?aqd10) rfl rfl (by kernel_rfl) (by kernel_rfl) (by kernel_rfl) (fun _ _ _ h => h) (Or.inl ⟨by rfl, ?yqd10⟩) ?fqd10 ?_
        case yqd10 => (intro wq hq; go_simp; first | done | with_reducible rfl)
        case fqd10 => (go_frame; rfl)
        refine wpIn_done hC0 (by kernel_rfl) ?_ _
        go_wp2
        go_ret
        exact ⟨⟨false, rfl, fun h => (by cases h), fun h => absurd (by rw [← HU.out, ← HV.out, (J.mk.inj h).2.2.2.1]) huv⟩, below_cat hbA (by omega) hC0⟩
    · obtain rfl : n = nk := by omega
      have HKS : Hid (ks = ms) := list_ext_D (z := nix) (by rw [HNK.out, HNM.out]) fun m hm => HE.out m (by rw [← HNK.out]; exact hm)
      clear a3 b3
      have a3 := HCA.out wr hbr 3 _ rfl
      go_wp2
      go_loopw [6] (fun v w2 => ∃ m : Nat, v = .int .i64 m ∧ m ≤ nl ∧ Hid (∀ j, j < m → l.getD j J.zero = r.getD j J.zero) ∧ Below wB.heap.size wB w2) (fun v _ => nl - (intOf v).toNat)
      case atStart => exact ⟨0, rfl, Nat.zero_le _, fun m hm => absurd hm (by omega), hbr⟩
      case round =>
        obtain ⟨m, rfl, hm, HJ, hb2⟩ := hrel
        have a4 := HCA.out wr hb2 4 _ rfl
        by_cases hml : m < nl
        · have hmi : (m : Int) < (nl : Int) := by omega
          have hml1 : m < l.length := by rw [HNL.out]; exact hml
          have hml2 : m < r.length := by rw [HNR.out]; exact hml
          obtain ⟨lb, lo, cs, hpl, hOl, hcells, hyj⟩ := isJs.at l 0 m hsx hml1
          obtain ⟨rb, ro, ds, hpr, hOr, hcells', hyj'⟩ := isJs.at r 0 m hsy hml2
          subst hpl hpr
          obtain ⟨x0, x1, x2, p3, n3, c3, p4, n4, c4, rfl⟩ := isJ_shape hyj
          obtain ⟨y0, y1, y2, p3', n3', c3', p4', n4', c4', rfl⟩ := isJ_shape hyj'
          have HXC : Hid (∀ W : World, Below wB.heap.size wB W → ∀ n v, [Value.int .i64 x0, .int .i64 x1, .string x2, .slice p3 n3 c3, .slice p4 n4 c4][n]? = some v → W.cell? ⟨lb, lo + m * 5 + n, none⟩ = some v) := fun W hW n v h => by
            have h1 := hcells n v h
            rw [Nat.zero_add] at h1
            exact (World.cell?_of_block (a := ⟨lb, lo + m * 5 + n, none⟩) ((hW.block lb (by have := hO _ hOl; omega)).trans (hbA.block lb (hO _ hOl)))).trans h1
          have HYC : Hid (∀ W : World, Below wB.heap.size wB W → ∀ n v, [Value.int .i64 y0, .int .i64 y1, .string y2, .slice p3' n3' c3', .slice p4' n4' c4'][n]? = some v → W.cell? ⟨rb, ro + m * 5 + n, none⟩ = some v) := fun W hW n v h => by
            have h1 := hcells' n v h
            rw [Nat.zero_add] at h1
            exact (World.cell?_of_block (a := ⟨rb, ro + m * 5 + n, none⟩) ((hW.block rb (by have := hO _ hOr; omega)).trans (hbA.block rb (hO _ hOr)))).trans h1
          have hC0 : Below wB.heap.size wB wr.drew := ⟨hb2.os, hb2.tape, hb2.output, hb2.size, hb2.block⟩
          have hV := V wr.drew O (l.getD m J.zero) (r.getD m J.zero) x0 x1 x2 p3 p4 n3 c3 n4 c4 y0 y1 y2 p3' p4' n3' c3' n4' c4' (fun b hb => Nat.lt_of_lt_of_le (hO b hb) (by have := hbA.size; have := hC0.size; omega)) (all_at HGL.out hml1) (all_at HLS.out hml1)
            (hyj.carry fun b hb => ⟨hb, (hC0.block _ (by have := hO _ hb; omega)).trans (hbA.block _ (hO _ hb))⟩) (hyj'.carry fun b hb => ⟨hb, (hC0.block _ (by have := hO _ hb; omega)).trans (hbA.block _ (hO _ hb))⟩)
          clear hcells hcells' hyj hyj'
          go_wp2
          refine wp_region_in (by kernel_rfl) (fun W => Below wB.heap.size wB W) ?_
          change wpIn _ _ _ _ _ _ _ _ (World.drew _)
          refine wpIn_take (i := 0) (d := (some 69)) (v := ?vql0) (a' := ?aql0) rfl rfl (by kernel_rfl) (by kernel_rfl) (by kernel_rfl) (fun _ _ _ h => h) (Or.inl ⟨by rfl, ?yql0⟩) ?fql0 ?_
          case yql0 => (intro wq hq; go_simp; first | done | with_reducible rfl)
          case fql0 => (go_frame; rfl)
          refine wpIn_take (i := 1) (d := (some 70)) (v := ?vql1) (a' := ?aql1) rfl rfl (by kernel_rfl) (by kernel_rfl) (by kernel_rfl) (fun _ _ _ h => h) (Or.inl ⟨by rfl, ?yql1⟩) ?fql1 ?_
          case yql1 => (intro wq hq; have q0 := HCA.out wq hq 4 _ rfl; go_simp; first | done | with_reducible rfl)
          case fql1 => (go_frame; rfl)
          refine wpIn_take (i := 2) (d := (some 71)) (v := ?vql2) (a' := ?aql2) rfl rfl (by kernel_rfl) (by kernel_rfl) (by kernel_rfl) (fun _ _ _ h => h) (Or.inl ⟨by rfl, ?yql2⟩) ?fql2 ?_
          case yql2 => (intro wq hq; go_simp; first | done | with_reducible rfl)
          case fql2 => (go_frame; rfl)
          refine wpIn_take (i := 3) (d := (some 72)) (v := ?vql3) (a' := ?aql3) rfl rfl (by kernel_rfl) (by kernel_rfl) (by kernel_rfl) (fun _ _ _ h => h) (Or.inl ⟨by rfl, ?yql3⟩) ?fql3 ?_
          case yql3 => (intro wq hq; go_simp; first | done | with_reducible rfl)
          case fql3 => (go_frame; rfl)
          refine wpIn_take (i := 4) (d := (some 73)) (v := ?vql4) (a' := ?aql4) rfl rfl (by kernel_rfl) (by kernel_rfl) (by kernel_rfl) (fun _ _ _ h => h) (Or.inl ⟨by rfl, ?yql4⟩) ?fql4 ?_
          case yql4 => (intro wq hq; have q0 := HXC.out wq hq 0 _ rfl; rw [Nat.add_zero] at q0; have q1 := HXC.out wq hq 1 _ rfl; have q2 := HXC.out wq hq 2 _ rfl; have q3 := HXC.out wq hq 3 _ rfl; have q4 := HXC.out wq hq 4 _ rfl; go_simp; first | done | with_reducible rfl)
          case fql4 => (go_frame; rfl)
          refine wpIn_take (i := 5) (d := (some 74)) (v := ?vql5) (a' := ?aql5) rfl rfl (by kernel_rfl) (by kernel_rfl) (by kernel_rfl) (fun _ _ _ h => h) (Or.inl ⟨by rfl, ?yql5⟩) ?fql5 ?_
          case yql5 => (intro wq hq; go_simp; first | done | with_reducible rfl)
          case fql5 => (go_frame; rfl)
          refine wpIn_take (i := 6) (d := (some 75)) (v := ?vql6) (a' := ?aql6) rfl rfl (by kernel_rfl) (by kernel_rfl) (by kernel_rfl) (fun _ _ _ h => h) (Or.inl ⟨by rfl, ?yql6⟩) ?fql6 ?_
          case yql6 => (intro wq hq; have q0 := HCB.out wq hq 4 _ rfl; go_simp; first | done | with_reducible rfl)
          case fql6 => (go_frame; rfl)
          refine wpIn_take (i := 7) (d := (some 76)) (v := ?vql7) (a' := ?aql7) rfl rfl (by kernel_rfl) (by kernel_rfl) (by kernel_rfl) (fun _ _ _ h => h) (Or.inl ⟨by rfl, ?yql7⟩) ?fql7 ?_
          case yql7 => (intro wq hq; go_simp; first | done | with_reducible rfl)
          case fql7 => (go_frame; rfl)
          refine wpIn_take (i := 8) (d := (some 77)) (v := ?vql8) (a' := ?aql8) rfl rfl (by kernel_rfl) (by kernel_rfl) (by kernel_rfl) (fun _ _ _ h => h) (Or.inl ⟨by rfl, ?yql8⟩) ?fql8 ?_
          case yql8 => (intro wq hq; go_simp; first | done | with_reducible rfl)
          case fql8 => (go_frame; rfl)
          refine wpIn_take (i := 9) (d := (some 78)) (v := ?vql9) (a' := ?aql9) rfl rfl (by kernel_rfl) (by kernel_rfl) (by kernel_rfl) (fun _ _ _ h => h) (Or.inl ⟨by rfl, ?yql9⟩) ?fql9 ?_
          case yql9 => (intro wq hq; have q0 := HYC.out wq hq 0 _ rfl; rw [Nat.add_zero] at q0; have q1 := HYC.out wq hq 1 _ rfl; have q2 := HYC.out wq hq 2 _ rfl; have q3 := HYC.out wq hq 3 _ rfl; have q4 := HYC.out wq hq 4 _ rfl; go_simp; first | done | with_reducible rfl)
          case fql9 => (go_frame; rfl)
          refine wpIn_do (i := 10) hC0 (by kernel_rfl) rfl (by rfl) ?_
          intro K hK
          go_simp
          go_wp2_with (go_at_call 9; refine hV.mono ?_; rintro x w3 ⟨⟨b, rfl, hbiff⟩, hb3⟩)
          have hC1 : Below wB.heap.size wB w3 := below_cat hC0 hC0.size hb3
          have HBI : Hid (b = true ↔ l.getD m J.zero = r.getD m J.zero) := hbiff
          clear hC0 hbiff hV
          refine wpIn_take (i := 11) (d := (some 80)) (v := ?vql11) (a' := ?aql11) rfl rfl (by kernel_rfl) (by kernel_rfl) (by kernel_rfl) (fun _ _ _ h => h) (Or.inl ⟨by rfl, ?yql11⟩) ?fql11 ?_
          case yql11 => (intro wq hq; go_simp; first | done | with_reducible rfl)
          case fql11 => (go_frame; rfl)
          refine wpIn_done hC1 (by kernel_rfl) ?_ _
          cases b with
          | true =>
            go_wp2
            go_roundw
            case rel => exact ⟨m + 1, by go_num, hml, fun j hj => (Nat.lt_succ_iff_lt_or_eq.1 hj).elim (HJ.out j) fun e => by rw [e]; exact HBI.out.1 rfl, hC1⟩
            case measure => simp [intOf]; omega
          | false =>
            go_wp2
            go_ret
            refine ⟨⟨false, rfl, fun h => (by cases h), fun h => ?_⟩, below_cat hbA (by omega) hC1⟩
            have e := (J.mk.inj h).2.2.2.2
            exact HBI.out.2 (by rw [e])
        · obtain rfl : m = nl := by omega
          go_wp2
          go_ret
          refine ⟨⟨true, rfl, fun _ => ?_, fun _ => rfl⟩, below_cat hbA (by omega) hb2⟩
          rw [HKS.out, list_ext_D (z := J.zero) (by rw [HNL.out, HNR.out]) fun j hj => HJ.out j (by rw [← HNL.out]; exact hj)]
theorem sames : ∀ d, Sames d
  | 0 => same_zero
  | d + 1 => same_step (sames d)
end Go.Proofs.YtnmhpejnjaeecaaGreatDoor

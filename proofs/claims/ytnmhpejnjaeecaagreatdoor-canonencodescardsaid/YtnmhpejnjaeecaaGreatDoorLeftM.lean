/-
  How many of so many values are left, by a contract: what is small is nowhere too long.
  Order, by a contract.
-/
import Derived.Test.YtnmhpejnjaeecaaGreatDoorM8
namespace Go.Proofs.YtnmhpejnjaeecaaGreatDoor
open Go.RowKit

/-- What left tells of values that are followed d deep. -/
def Lefts (d : Nat) : Prop := ∀ (w : World) (O : Nat → Prop) (j : J) (k i deep n : Int) (t : ByteArray) (pk pl : Option Addr) (nk ck nl cl : Nat), (∀ x, O x → x < w.heap.size) → deep = (d : Int) → d ≤ 100 → 0 ≤ n → n ≤ 100000 →
  isJ O w j [.int .i64 k, .int .i64 i, .string t, .slice pk nk ck, .slice pl nl cl] →
  Calls Tryz.prog 13 #[.agg #[.int .i64 k, .int .i64 i, .string t, .slice pk nk ck, .slice pl nl cl], .int .i64 n, .int .i64 deep] w fun x w' => (∃ r : Int, x = .returned (.int .i64 r) ∧ r ≤ n ∧ -1 ≤ r ∧ (0 ≤ r → szJ d j = true)) ∧ Below w.heap.size w w'
theorem key_getD {ks : List ByteArray} {m : Nat} (hm : m < ks.length) : ks.getD m nix = ks[m] := by
  rw [List.getD_eq_getElem?_getD, List.getElem?_eq_getElem hm]; rfl
set_option maxRecDepth 100000 in
set_option maxHeartbeats 8000000 in
theorem left_zero : Lefts 0 := by
  intro w O j k i deep n t pk pl nk ck nl cl hO hdeep _ h0 hn _
  subst hdeep
  have hbA : Below w.heap.size w (w.alloc (.cells #[.int .i64 k, .int .i64 i, .string t, .slice pk nk ck, .slice pl nl cl] 25)) := (Below.refl _ _).alloc (Nat.le_refl _) _
  by_cases h1 : n < 1
  · go_enter Tryz.func13, Tryz.ntmps13
    go_wp2
    go_ret
    exact ⟨⟨-1, rfl, by omega, by omega, fun h => absurd h (by decide)⟩, hbA⟩
  · go_enter Tryz.func13, Tryz.ntmps13
    go_wp2
    go_ret
    exact ⟨⟨-1, rfl, by omega, by omega, fun h => absurd h (by decide)⟩, hbA⟩
set_option maxRecDepth 100000 in
set_option maxHeartbeats 16000000 in
theorem left_step {d : Nat} (V : Lefts d) : Lefts (d + 1) := by
  intro w O j k i deep n t pk pl nk ck nl cl hO hdeep hd h0 hn hj
  obtain ⟨kx, ix, tx, ks, l⟩ := j
  unfold isJ at hj
  obtain ⟨pk', ck', pl', cl', e, hk, hl, hs⟩ := hj
  simp only [List.cons.injEq, Value.int.injEq, Value.string.injEq, Value.slice.injEq, true_and, and_true] at e
  obtain ⟨rfl, rfl, rfl, ⟨rfl, rfl, rfl⟩, rfl, rfl, rfl⟩ := e
  have hd1 : 1 ≤ deep := by omega
  have hd2 : deep ≤ 101 := by omega
  have HD : Hid (deep - 1 = (d : Int)) := by show _ = _; omega
  have HDL : Hid (d ≤ 100) := by show _ ≤ _; omega
  clear hdeep hd
  obtain ⟨nk, hnk⟩ : ∃ n, ks.length = n := ⟨_, rfl⟩
  obtain ⟨nl, hnl⟩ : ∃ n, l.length = n := ⟨_, rfl⟩
  have HNK : Hid (ks.length = nk) := hnk
  have HNL : Hid (l.length = nl) := hnl
  have hck := hk.1
  rw [hnk] at hck ⊢
  rw [hnl] at hl ⊢
  clear hnk hnl
  have hbA : Below w.heap.size w (w.alloc (.cells #[.int .i64 k, .int .i64 i, .string t, .slice pk nk ck, .slice pl nl cl] 25)) := (Below.refl _ _).alloc (Nat.le_refl _) _
  have neg : ∀ (w' : World) (x : Ending), x = .returned (.int .i64 (-1)) → Below w.heap.size w w' → (∃ r : Int, x = .returned (.int .i64 r) ∧ r ≤ n ∧ -1 ≤ r ∧ (0 ≤ r → szJ (d + 1) (.mk k i t ks l) = true)) ∧ Below w.heap.size w w' := fun w' x hx hb => ⟨⟨-1, hx, by omega, by omega, fun h => absurd h (by decide)⟩, hb⟩
  have HNEG : Hid (∀ (w' : World) (x : Ending), x = .returned (.int .i64 (-1)) → Below w.heap.size w w' → (∃ r : Int, x = .returned (.int .i64 r) ∧ r ≤ n ∧ -1 ≤ r ∧ (0 ≤ r → szJ (d + 1) (.mk k i t ks l) = true)) ∧ Below w.heap.size w w') := neg
  clear neg
  by_cases h1 : n < 1
  · go_enter Tryz.func13, Tryz.ntmps13
    go_wp2
    go_ret
    exact HNEG.out _ _ rfl hbA
  by_cases h2 : (2000 : Int) < t.size
  · go_enter Tryz.func13, Tryz.ntmps13
    go_wp2
    go_ret
    exact HNEG.out _ _ rfl hbA
  by_cases h3 : (200 : Int) < nk
  · go_enter Tryz.func13, Tryz.ntmps13
    go_wp2
    go_ret
    exact HNEG.out _ _ rfl hbA
  by_cases h4 : (2000 : Int) < nl
  · go_enter Tryz.func13, Tryz.ntmps13
    go_wp2
    go_ret
    exact HNEG.out _ _ rfl hbA
  obtain ⟨wB, hwB⟩ : ∃ wB, wB = w.alloc (.cells #[.int .i64 k, .int .i64 i, .string t, .slice pk nk ck, .slice pl nl cl] 25) := ⟨_, rfl⟩
  have hA : wB.heap[w.heap.size]? = some (.cells #[.int .i64 k, .int .i64 i, .string t, .slice pk nk ck, .slice pl nl cl] 25 (0, 0)) := by rw [hwB]; exact heap_alloc_new _ _
  have hsB : w.heap.size < wB.heap.size := (Array.getElem?_eq_some_iff.1 hA).1
  rw [← hwB] at hbA
  have HCA : Hid (∀ W : World, Below wB.heap.size wB W → ∀ n v, [Value.int .i64 k, .int .i64 i, .string t, .slice pk nk ck, .slice pl nl cl][n]? = some v → W.cell? ⟨w.heap.size, n, none⟩ = some v) := fun W hW n v hv =>
    (World.cell?_of_block (a := ⟨w.heap.size, n, none⟩) (hW.block w.heap.size hsB)).trans (cell_row (cur := [.int .i64 k, .int .i64 i, .string t, .slice pk nk ck, .slice pl nl cl]) hA n v hv)
  go_enter Tryz.func13, Tryz.ntmps13
  go_wp2
  rw [← hwB]
  clear hwB hA
  go_loopw [7] (fun v wr => ∃ m : Nat, v = .int .i64 m ∧ m ≤ nk ∧ Hid (∀ x, x < m → (ks.getD x nix).size ≤ 2000) ∧ wr = wB) (fun v _ => nk - (intOf v).toNat)
  case atStart => exact ⟨0, rfl, Nat.zero_le _, fun m hm => absurd hm (by omega), rfl⟩
  case round =>
    obtain ⟨m, rfl, hm, HE, rfl⟩ := hrel
    have a3 := HCA.out wr (Below.refl _ _) 3 _ rfl
    by_cases hmk : m < nk
    · have hmi : (m : Int) < (nk : Int) := by omega
      obtain ⟨ka, hpk, hOa, hcka⟩ := hk.2 m (by rw [HNK.out]; exact hmk)
      subst hpk
      have hKA : wr.cell? (ka.add m) = some (.string (ks.getD m nix)) := (World.cell?_of_block (by rw [add_block]; exact hbA.block _ (hO _ hOa))).trans hcka
      obtain ⟨u, hu⟩ : ∃ u, ks.getD m nix = u := ⟨_, rfl⟩
      have HU : Hid (ks.getD m nix = u) := hu
      rw [hu] at hKA
      clear hu hcka
      by_cases hus : (2000 : Int) < u.size
      · go_wp2
        go_ret
        exact HNEG.out _ _ rfl hbA
      · go_wp2
        go_roundw
        case rel => exact ⟨m + 1, by go_num, hmk, fun x hx => (Nat.lt_succ_iff_lt_or_eq.1 hx).elim (HE.out x) fun e => by rw [e, HU.out]; omega, trivial⟩
        case measure => simp [intOf]; omega
    · obtain rfl : m = nk := by omega
      have HKS : Hid (ks.all (fun k => decide (k.size ≤ 1000000000)) = true) := by
        show _ = _
        rw [List.all_eq_true]
        intro x hx
        obtain ⟨y, hy, rfl⟩ := List.getElem_of_mem hx
        have := HE.out y (by rw [← HNK.out]; exact hy)
        rw [key_getD hy] at this
        exact decide_eq_true (by omega)
      go_wp2
      go_loopw [1, 8] (fun u v w2 => ∃ (m : Nat) (r : Int), v = .int .i64 m ∧ u = .int .i64 r ∧ m ≤ nl ∧ r ≤ n - 1 ∧ -1 ≤ r ∧ Hid (0 ≤ r → (l.take m).all (szJ d) = true) ∧ Below wr.heap.size wr w2) (fun _ v _ => nl - (intOf v).toNat)
      case atStart => exact ⟨0, n - 1, rfl, rfl, Nat.zero_le _, by omega, by omega, fun _ => rfl, Below.refl _ _⟩
      case round =>
        obtain ⟨m', r, rfl, rfl, hm', hrn, hr0, HT, hb2⟩ := hrel
        have a4 := HCA.out wr hb2 4 _ rfl
        by_cases hml : m' < nl
        · have hmi : (m' : Int) < (nl : Int) := by omega
          by_cases hr : 0 ≤ r
          · have hml1 : m' < l.length := by rw [HNL.out]; exact hml
            have HML : Hid (m' < l.length) := hml1
            obtain ⟨lb, lo, cs, hpl, hOl, hcells, hyj⟩ := isJs.at l 0 m' hs hml1
            subst hpl
            obtain ⟨x0, x1, x2, p3, n3, c3, p4, n4, c4, rfl⟩ := isJ_shape hyj
            have hblk := (hb2.block lb (by have := hO _ hOl; omega)).trans (hbA.block lb (hO _ hOl))
            have cc : ∀ m v, [Value.int .i64 x0, .int .i64 x1, .string x2, .slice p3 n3 c3, .slice p4 n4 c4][m]? = some v → wr.cell? ⟨lb, lo + m' * 5 + m, none⟩ = some v := fun m v h => by
              have := hcells m v h
              rw [Nat.zero_add] at this
              exact (World.cell?_of_block (a := ⟨lb, lo + m' * 5 + m, none⟩) hblk).trans this
            have y0 : wr.cell? ⟨lb, lo + m' * 5, none⟩ = some (.int .i64 x0) := cc 0 _ rfl
            have y1 := cc 1 _ rfl
            have y2 := cc 2 _ rfl
            have y3 := cc 3 _ rfl
            have y4 := cc 4 _ rfl
            have hB2 := below_cat hbA (by omega) hb2
            have hV := V wr O (l.getD m' J.zero) x0 x1 (deep - 1) r x2 p3 p4 n3 c3 n4 c4 (fun b hb => Nat.lt_of_lt_of_le (hO b hb) hB2.size) HD.out HDL.out hr (by omega) (hyj.carry fun b hb => ⟨hb, hB2.block b (hO b hb)⟩)
            clear cc hcells hml1 hyj hblk
            go_wp2_with (go_at_call 13; refine hV.mono ?_; rintro x w4 ⟨⟨r4, rfl, hr4, hr5, hr6⟩, hb4⟩)
            go_roundw
            case rel => exact ⟨m' + 1, r4, by go_num, rfl, hml, by omega, hr5, fun h => by rw [all_take HML.out, HT.out hr, hr6 h]; rfl, below_cat hb2 hb2.size hb4⟩
            case measure => simp [intOf]; omega
          · go_wp2
            go_ret
            refine ⟨⟨r, rfl, by omega, hr0, fun h => absurd h (by omega)⟩, below_cat hbA (by omega) hb2⟩
        · obtain rfl : m' = nl := by omega
          go_wp2
          go_ret
          refine ⟨⟨r, rfl, by omega, hr0, fun h => ?_⟩, below_cat hbA (by omega) hb2⟩
          have ht := HT.out h
          rw [List.take_of_length_le (by rw [HNL.out]; omega)] at ht
          unfold szJ
          rw [HKS.out, ht, HNK.out, HNL.out, decide_eq_true (show t.size ≤ 1000000000 by omega), decide_eq_true (show m ≤ 100000 by omega), decide_eq_true (show m' ≤ 100000 by omega)]
          rfl
theorem lefts : ∀ d, Lefts d
  | 0 => left_zero
  | d + 1 => left_step (lefts d)
/-- What is small is nowhere too long. -/
theorem few_any {w : World} {O : Nat → Prop} {j : J} {k i : Int} {t : ByteArray} {pk pl : Option Addr} {nk ck nl cl : Nat} (hO : ∀ x, O x → x < w.heap.size) (hj : isJ O w j [.int .i64 k, .int .i64 i, .string t, .slice pk nk ck, .slice pl nl cl]) :
    Calls Tryz.prog 4 #[.agg #[.int .i64 k, .int .i64 i, .string t, .slice pk nk ck, .slice pl nl cl]] w fun x w' => (∃ b, x = .returned (.bool b) ∧ (b = true → szJ 30 j = true)) ∧ Below w.heap.size w w' := by
  have hbA : Below w.heap.size w (w.alloc (.cells #[.int .i64 k, .int .i64 i, .string t, .slice pk nk ck, .slice pl nl cl] 25)) := (Below.refl _ _).alloc (Nat.le_refl _) _
  have hV := lefts 30 (w.alloc (.cells #[.int .i64 k, .int .i64 i, .string t, .slice pk nk ck, .slice pl nl cl] 25)) O j k i 30 2000 t pk pl nk ck nl cl (fun b hb => Nat.lt_of_lt_of_le (hO b hb) hbA.size) rfl (by decide) (by decide) (by decide) (hj.carry fun b hb => ⟨hb, hbA.block b (hO b hb)⟩)
  go_enter Tryz.func4, Tryz.ntmps4
  go_wp2_with (go_at_call 13; refine hV.mono ?_; rintro x w4 ⟨⟨r4, rfl, hr4, hr5, hr6⟩, hb4⟩)
  go_ret
  exact ⟨⟨_, rfl, fun h => hr6 (of_decide_eq_true h)⟩, below_in hbA hb4⟩
theorem sz_less : ∀ (d e : Nat) (j : J), d ≤ e → szJ e j = true → szJ d j = true
  | 0, _, _, _, _ => by unfold szJ; rfl
  | d + 1, 0, _, h, _ => by omega
  | d + 1, e + 1, .mk k i t ks l, h, hs => by
    unfold szJ at hs ⊢
    simp only [Bool.and_eq_true] at hs ⊢
    refine ⟨hs.1, hs.2.1, hs.2.2.1, hs.2.2.2.1, ?_⟩
    rw [List.all_eq_true]
    intro x hx
    exact sz_less d e x (by omega) (List.all_eq_true.1 hs.2.2.2.2 x hx)
end Go.Proofs.YtnmhpejnjaeecaaGreatDoor
namespace Go.Proofs.YtnmhpejnjaeecaaGreatDoor
open Go.RowKit

/-- What Order makes of a value. -/
def ordT (j : J) : J := if goodJ 12 j = true then ord j else J.zero
theorem two_new {w : World} (o1 o2 : Obj) : ((w.alloc o1).alloc o2).heap[w.heap.size + 1]? = some o2 := by
  have := heap_alloc_new (w.alloc o1) o2
  simpa using this
theorem below_then2 {w w2 w3 : World} (h : Below w.heap.size w w2) (hk : Keep (One (w.heap.size + 1)) w2 w3) : Below w.heap.size w w3 :=
  h.trans (hk.below h.size fun k hk' e => by unfold One at e; omega)
set_option maxRecDepth 100000 in
set_option maxHeartbeats 8000000 in
theorem order_any {w : World} {O : Nat → Prop} {j : J} {k i : Int} {t : ByteArray} {pk pl : Option Addr} {nk ck nl cl : Nat} (hO : ∀ x, O x → x < w.heap.size) (hsz : szJ 12 j = true)
    (hj : isJ O w j [.int .i64 k, .int .i64 i, .string t, .slice pk nk ck, .slice pl nl cl]) :
    Calls Tryz.prog 10 #[.agg #[.int .i64 k, .int .i64 i, .string t, .slice pk nk ck, .slice pl nl cl]] w fun x w' => (∃ kr ir tr pr nr cr qr mr dr, x = .returned (.agg #[.int .i64 kr, .int .i64 ir, .string tr, .slice pr nr cr, .slice qr mr dr]) ∧ isJ (fun b => b < w'.heap.size) w' (ordT j) [.int .i64 kr, .int .i64 ir, .string tr, .slice pr nr cr, .slice qr mr dr]) ∧ Below w.heap.size w w' := by
  have hbB : Below w.heap.size w ((w.alloc (.cells #[.int .i64 k, .int .i64 i, .string t, .slice pk nk ck, .slice pl nl cl] 25)).alloc (.cells #[.int .i64 0, .int .i64 0, .string ⟨#[]⟩, .slice none 0 0, .slice none 0 0] 25)) := ((Below.refl _ _).alloc (Nat.le_refl _) _).alloc (by simp) _
  obtain ⟨wB, hwB⟩ : ∃ wB, wB = ((w.alloc (.cells #[.int .i64 k, .int .i64 i, .string t, .slice pk nk ck, .slice pl nl cl] 25)).alloc (.cells #[.int .i64 0, .int .i64 0, .string ⟨#[]⟩, .slice none 0 0, .slice none 0 0] 25)) := ⟨_, rfl⟩
  have hA : wB.heap[w.heap.size]? = some (.cells #[.int .i64 k, .int .i64 i, .string t, .slice pk nk ck, .slice pl nl cl] 25 (0, 0)) := by
    rw [hwB, Below.heap_alloc _ _ _ (by simp)]
    exact heap_alloc_new _ _
  have hR : wB.heap[w.heap.size + 1]? = some (.cells #[.int .i64 0, .int .i64 0, .string ⟨#[]⟩, .slice none 0 0, .slice none 0 0] 25 (0, 0)) := by rw [hwB]; exact two_new _ _
  rw [← hwB] at hbB
  have hOB : ∀ x, O x → x < wB.heap.size := fun x hx => Nat.lt_of_lt_of_le (hO x hx) hbB.size
  have hjB := hj.carry (O' := O) (w' := wB) fun x hx => ⟨hx, hbB.block x (hO x hx)⟩
  have hG := good_any hOB hsz hjB
  have hsA : w.heap.size < wB.heap.size := (Array.getElem?_eq_some_iff.1 hA).1
  have hsR : w.heap.size + 1 < wB.heap.size := (Array.getElem?_eq_some_iff.1 hR).1
  have c0 := five_c0 hA
  cases hg : goodJ 12 j with
  | false =>
    have HZ : Hid (ordT j = J.zero) := by show _ = _; unfold ordT; rw [hg]; rfl
    rw [hg] at hG
    rw [hwB] at hG
    clear hj hjB c0
    go_enter Tryz.func10, Tryz.ntmps10
    go_wp2_with (go_at_call 7; refine hG.mono ?_; rintro x w2 ⟨rfl, hb2⟩
                 rw [← hwB] at hb2
                 have hres := (hb2.block _ hsR).trans hR
                 have i0 := five_c0 hres; have i1 := five_c1 hres; have i2 := five_c2 hres; have i3 := five_c3 hres; have i4 := five_c4 hres
                 have z0 := five_fz hres 0; have z1 := five_fz hres 1; have z2 := five_fz hres 2; have z3 := five_fz hres 3; have z4 := five_fz hres 4)
    have h5 := set5_heap hres (.int .i64 0) (.int .i64 0) (.string ⟨#[]⟩) (.slice none 0 0) (.slice none 0 0)
    have HK5 : Keep (One (w.heap.size + 1)) w2 _ := set5_keep w2 (w.heap.size + 1) (.int .i64 0) (.int .i64 0) (.string ⟨#[]⟩) (.slice none 0 0) (.slice none 0 0)
    unfold set5 at h5 HK5
    have k0 := five_c0 h5; have k1 := five_c1 h5; have k2 := five_c2 h5; have k3 := five_c3 h5; have k4 := five_c4 h5
    refine bodyPost_ret (v := .agg #[.int .i64 0, .int .i64 0, .string ⟨#[]⟩, .slice none 0 0, .slice none 0 0]) (by simp [results, Tryz.results10, go_sem, k0, k1, k2, k3, k4]) rfl ?_
    refine ⟨⟨_, _, _, _, _, _, _, _, _, rfl, ?_⟩, below_then2 (below_in hbB hb2) HK5⟩
    rw [HZ.out]
    exact isJ_zero _ _
  | true =>
    have HZ : Hid (ordT j = ord j) := by show _ = _; unfold ordT; rw [hg]; rfl
    have HGG : Hid (goodJ 12 j = true) := hg
    have HJ : Hid (isJ O wB j [.int .i64 k, .int .i64 i, .string t, .slice pk nk ck, .slice pl nl cl]) := hjB
    rw [hg] at hG
    rw [hwB] at hG
    clear hj hjB hg c0
    go_enter Tryz.func10, Tryz.ntmps10
    go_wp2_with (first
      | (go_at_call 7; refine hG.mono ?_; rintro x w2 ⟨rfl, hb2⟩
         rw [← hwB] at hb2
         have hA2 := (hb2.block _ hsA).trans hA
         have c0 := five_c0 hA2; have c1 := five_c1 hA2; have c2 := five_c2 hA2; have c3 := five_c3 hA2; have c4 := five_c4 hA2
         have hArr := arrs 12 w2 O j k i t pk pl nk ck nl cl (fun x hx => Nat.lt_of_lt_of_le (hOB x hx) hb2.size) HGG.out hsz (HJ.out.carry fun x hx => ⟨hx, hb2.block x (hOB x hx)⟩))
      | (go_at_call 15; refine hArr.mono ?_; rintro x w4 ⟨kr, ir, tr, pr, nr, cr, qr, mr, dr, rfl, hjr, hb4⟩
         have hB4 := below_in hb2 hb4
         have hres := (hB4.block _ hsR).trans hR
         have i0 := five_c0 hres; have i1 := five_c1 hres; have i2 := five_c2 hres; have i3 := five_c3 hres; have i4 := five_c4 hres
         have z0 := five_fz hres 0; have z1 := five_fz hres 1; have z2 := five_fz hres 2; have z3 := five_fz hres 3; have z4 := five_fz hres 4))
    have h5 := set5_heap hres (.int .i64 kr) (.int .i64 ir) (.string tr) (.slice pr nr cr) (.slice qr mr dr)
    have HK5 : Keep (One (w.heap.size + 1)) w4 _ := set5_keep w4 (w.heap.size + 1) (.int .i64 kr) (.int .i64 ir) (.string tr) (.slice pr nr cr) (.slice qr mr dr)
    unfold set5 at h5 HK5
    have k0 := five_c0 h5; have k1 := five_c1 h5; have k2 := five_c2 h5; have k3 := five_c3 h5; have k4 := five_c4 h5
    refine bodyPost_ret (v := .agg #[.int .i64 kr, .int .i64 ir, .string tr, .slice pr nr cr, .slice qr mr dr]) (by simp [results, Tryz.results10, go_sem, k0, k1, k2, k3, k4]) rfl ?_
    refine ⟨⟨_, _, _, _, _, _, _, _, _, rfl, ?_⟩, below_then2 (below_in hbB hB4) HK5⟩
    rw [HZ.out]
    refine hjr.carry fun x hx => ?_
    have hlt : x < w4.heap.size ∧ x ≠ w.heap.size + 1 := by
      have s2 := hb2.size
      have s4 := hb4.size
      rcases hx with hx | hx
      · have := hO x hx
        exact ⟨by have := hbB.size; omega, by omega⟩
      · have := hx.1
        exact ⟨hx.2, by omega⟩
    exact ⟨Nat.lt_of_lt_of_le hlt.1 HK5.size, HK5.block x hlt.1 (by unfold One; exact hlt.2)⟩
end Go.Proofs.YtnmhpejnjaeecaaGreatDoor

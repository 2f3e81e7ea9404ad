/-
  How many of so many values are left, by a contract that counts: what is small has so many values, no text of which is longer than so much.
  How many bytes a good value has at most, by how many values are in it.
-/
import Derived.Test.YtnmhpejnjaeecaaGreatDoorLeftM
import Derived.Test.YtnmhpejnjaeecaaGreatDoorRM
namespace Go.Proofs.YtnmhpejnjaeecaaGreatDoor
open Go.RowKit

/-- Texts, keys and rows of keys are small. -/
def smallJ : Nat → J → Bool
  | 0, _ => true
  | d + 1, .mk _ _ t ks l => decide (t.size ≤ 2000) && (decide (ks.length ≤ 200) && (ks.all (fun k => decide (k.size ≤ 2000)) && (decide (l.length ≤ 2000) && l.all (smallJ d))))
/-- How many values there are, as far as d deep. -/
def cntJ : Nat → J → Nat
  | 0, _ => 0
  | d + 1, .mk _ _ _ _ l => 1 + (l.map (cntJ d)).sum
/-- What left tells of values that are followed d deep. -/
def LeftsC (d : Nat) : Prop := ∀ (w : World) (O : Nat → Prop) (j : J) (k i deep n : Int) (t : ByteArray) (pk pl : Option Addr) (nk ck nl cl : Nat), (∀ x, O x → x < w.heap.size) → deep = (d : Int) → d ≤ 100 → 0 ≤ n → n ≤ 100000 →
  isJ O w j [.int .i64 k, .int .i64 i, .string t, .slice pk nk ck, .slice pl nl cl] →
  Calls Tryz.prog 13 #[.agg #[.int .i64 k, .int .i64 i, .string t, .slice pk nk ck, .slice pl nl cl], .int .i64 n, .int .i64 deep] w fun x w' => (∃ r : Int, x = .returned (.int .i64 r) ∧ r ≤ n ∧ -1 ≤ r ∧ (0 ≤ r → smallJ d j = true ∧ (cntJ d j : Int) + r ≤ n)) ∧ Below w.heap.size w w'
set_option maxRecDepth 100000 in
set_option maxHeartbeats 8000000 in
theorem leftC_zero : LeftsC 0 := by
  intro w O j k i deep n t pk pl nk ck nl cl hO hdeep _ h0 hn _
  subst hdeep
  have hbA : Below w.heap.size w (w.alloc (.cells #[.int .i64 k, .int .i64 i, .string t, .slice pk nk ck, .slice pl nl cl] 25)) := (Below.refl _ _).alloc (Nat.le_refl _) _
  by_cases h1 : n < 1
  · go_enter Tryz.func13, Tryz.ntmps13
    go_wp2
    go_ret
    exact ⟨⟨-1, rfl, by omega, by omega, fun h => absurd h (by decide)⟩, hbA⟩
  · go_enter Tryz.func13, Tryz.ntmps13
    go_wp2
    go_ret
    exact ⟨⟨-1, rfl, by omega, by omega, fun h => absurd h (by decide)⟩, hbA⟩
set_option maxRecDepth 100000 in
set_option maxHeartbeats 16000000 in
theorem leftC_step {d : Nat} (V : LeftsC d) : LeftsC (d + 1) := by
  intro w O j k i deep n t pk pl nk ck nl cl hO hdeep hd h0 hn hj
  obtain ⟨kx, ix, tx, ks, l⟩ := j
  unfold isJ at hj
  obtain ⟨pk', ck', pl', cl', e, hk, hl, hs⟩ := hj
  simp only [List.cons.injEq, Value.int.injEq, Value.string.injEq, Value.slice.injEq, true_and, and_true] at e
  obtain ⟨rfl, rfl, rfl, ⟨rfl, rfl, rfl⟩, rfl, rfl, rfl⟩ := e
  have hd1 : 1 ≤ deep := by omega
  have hd2 : deep ≤ 101 := by omega
  have HD : Hid (deep - 1 = (d : Int)) := by show _ = _; omega
  have HDL : Hid (d ≤ 100) := by show _ ≤ _; omega
  clear hdeep hd
  obtain ⟨nk, hnk⟩ : ∃ n, ks.length = n := ⟨_, rfl⟩
  obtain ⟨nl, hnl⟩ : ∃ n, l.length = n := ⟨_, rfl⟩
  have HNK : Hid (ks.length = nk) := hnk
  have HNL : Hid (l.length = nl) := hnl
  have hck := hk.1
  rw [hnk] at hck ⊢
  rw [hnl] at hl ⊢
  clear hnk hnl
  have hbA : Below w.heap.size w (w.alloc (.cells #[.int .i64 k, .int .i64 i, .string t, .slice pk nk ck, .slice pl nl cl] 25)) := (Below.refl _ _).alloc (Nat.le_refl _) _
  have neg : ∀ (w' : World) (x : Ending), x = .returned (.int .i64 (-1)) → Below w.heap.size w w' → (∃ r : Int, x = .returned (.int .i64 r) ∧ r ≤ n ∧ -1 ≤ r ∧ (0 ≤ r → smallJ (d + 1) (.mk k i t ks l) = true ∧ (cntJ (d + 1) (.mk k i t ks l) : Int) + r ≤ n)) ∧ Below w.heap.size w w' := fun w' x hx hb => ⟨⟨-1, hx, by omega, by omega, fun h => absurd h (by decide)⟩, hb⟩
  have HNEG : Hid (∀ (w' : World) (x : Ending), x = .returned (.int .i64 (-1)) → Below w.heap.size w w' → (∃ r : Int, x = .returned (.int .i64 r) ∧ r ≤ n ∧ -1 ≤ r ∧ (0 ≤ r → smallJ (d + 1) (.mk k i t ks l) = true ∧ (cntJ (d + 1) (.mk k i t ks l) : Int) + r ≤ n)) ∧ Below w.heap.size w w') := neg
  clear neg
  by_cases h1 : n < 1
  · go_enter Tryz.func13, Tryz.ntmps13
    go_wp2
    go_ret
    exact HNEG.out _ _ rfl hbA
  by_cases h2 : (2000 : Int) < t.size
  · go_enter Tryz.func13, Tryz.ntmps13
    go_wp2
    go_ret
    exact HNEG.out _ _ rfl hbA
  by_cases h3 : (200 : Int) < nk
  · go_enter Tryz.func13, Tryz.ntmps13
    go_wp2
    go_ret
    exact HNEG.out _ _ rfl hbA
  by_cases h4 : (2000 : Int) < nl
  · go_enter Tryz.func13, Tryz.ntmps13
    go_wp2
    go_ret
    exact HNEG.out _ _ rfl hbA
  obtain ⟨wB, hwB⟩ : ∃ wB, wB = w.alloc (.cells #[.int .i64 k, .int .i64 i, .string t, .slice pk nk ck, .slice pl nl cl] 25) := ⟨_, rfl⟩
  have hA : wB.heap[w.heap.size]? = some (.cells #[.int .i64 k, .int .i64 i, .string t, .slice pk nk ck, .slice pl nl cl] 25 (0, 0)) := by rw [hwB]; exact heap_alloc_new _ _
  have hsB : w.heap.size < wB.heap.size := (Array.getElem?_eq_some_iff.1 hA).1
  rw [← hwB] at hbA
  have HCA : Hid (∀ W : World, Below wB.heap.size wB W → ∀ n v, [Value.int .i64 k, .int .i64 i, .string t, .slice pk nk ck, .slice pl nl cl][n]? = some v → W.cell? ⟨w.heap.size, n, none⟩ = some v) := fun W hW n v hv =>
    (World.cell?_of_block (a := ⟨w.heap.size, n, none⟩) (hW.block w.heap.size hsB)).trans (cell_row (cur := [.int .i64 k, .int .i64 i, .string t, .slice pk nk ck, .slice pl nl cl]) hA n v hv)
  go_enter Tryz.func13, Tryz.ntmps13
  go_wp2
  rw [← hwB]
  clear hwB hA
  go_loopw [7] (fun v wr => ∃ m : Nat, v = .int .i64 m ∧ m ≤ nk ∧ Hid (∀ x, x < m → (ks.getD x nix).size ≤ 2000) ∧ wr = wB) (fun v _ => nk - (intOf v).toNat)
  case atStart => exact ⟨0, rfl, Nat.zero_le _, fun m hm => absurd hm (by omega), rfl⟩
  case round =>
    obtain ⟨m, rfl, hm, HE, rfl⟩ := hrel
    have a3 := HCA.out wr (Below.refl _ _) 3 _ rfl
    by_cases hmk : m < nk
    · have hmi : (m : Int) < (nk : Int) := by omega
      obtain ⟨ka, hpk, hOa, hcka⟩ := hk.2 m (by rw [HNK.out]; exact hmk)
      subst hpk
      have hKA : wr.cell? (ka.add m) = some (.string (ks.getD m nix)) := (World.cell?_of_block (by rw [add_block]; exact hbA.block _ (hO _ hOa))).trans hcka
      obtain ⟨u, hu⟩ : ∃ u, ks.getD m nix = u := ⟨_, rfl⟩
      have HU : Hid (ks.getD m nix = u) := hu
      rw [hu] at hKA
      clear hu hcka
      by_cases hus : (2000 : Int) < u.size
      · go_wp2
        go_ret
        exact HNEG.out _ _ rfl hbA
      · go_wp2
        go_roundw
        case rel => exact ⟨m + 1, by go_num, hmk, fun x hx => (Nat.lt_succ_iff_lt_or_eq.1 hx).elim (HE.out x) fun e => by rw [e, HU.out]; omega, trivial⟩
        case measure => simp [intOf]; omega
    · obtain rfl : m = nk := by omega
      have HKS : Hid (ks.all (fun k => decide (k.size ≤ 2000)) = true) := by
        show _ = _
        rw [List.all_eq_true]
        intro x hx
        obtain ⟨y, hy, rfl⟩ := List.getElem_of_mem hx
        have := HE.out y (by rw [← HNK.out]; exact hy)
        rw [key_getD hy] at this
        exact decide_eq_true (by omega)
      go_wp2
      go_loopw [1, 8] (fun u v w2 => ∃ (m : Nat) (r : Int), v = .int .i64 m ∧ u = .int .i64 r ∧ m ≤ nl ∧ r ≤ n - 1 ∧ -1 ≤ r ∧ Hid (0 ≤ r → (l.take m).all (smallJ d) = true ∧ (((l.take m).map (cntJ d)).sum : Int) + r ≤ n - 1) ∧ Below wr.heap.size wr w2) (fun _ v _ => nl - (intOf v).toNat)
      case atStart => exact ⟨0, n - 1, rfl, rfl, Nat.zero_le _, by omega, by omega, fun _ => ⟨rfl, by simp⟩, Below.refl _ _⟩
      case round =>
        obtain ⟨m', r, rfl, rfl, hm', hrn, hr0, HT, hb2⟩ := hrel
        have a4 := HCA.out wr hb2 4 _ rfl
        by_cases hml : m' < nl
        · have hmi : (m' : Int) < (nl : Int) := by omega
          by_cases hr : 0 ≤ r
          · have hml1 : m' < l.length := by rw [HNL.out]; exact hml
            have HML : Hid (m' < l.length) := hml1
            obtain ⟨lb, lo, cs, hpl, hOl, hcells, hyj⟩ := isJs.at l 0 m' hs hml1
            subst hpl
            obtain ⟨x0, x1, x2, p3, n3, c3, p4, n4, c4, rfl⟩ := isJ_shape hyj
            have hblk := (hb2.block lb (by have := hO _ hOl; omega)).trans (hbA.block lb (hO _ hOl))
            have cc : ∀ m v, [Value.int .i64 x0, .int .i64 x1, .string x2, .slice p3 n3 c3, .slice p4 n4 c4][m]? = some v → wr.cell? ⟨lb, lo + m' * 5 + m, none⟩ = some v := fun m v h => by
              have := hcells m v h
              rw [Nat.zero_add] at this
              exact (World.cell?_of_block (a := ⟨lb, lo + m' * 5 + m, none⟩) hblk).trans this
            have y0 : wr.cell? ⟨lb, lo + m' * 5, none⟩ = some (.int .i64 x0) := cc 0 _ rfl
            have y1 := cc 1 _ rfl
            have y2 := cc 2 _ rfl
            have y3 := cc 3 _ rfl
            have y4 := cc 4 _ rfl
            have hB2 := below_cat hbA (by omega) hb2
            have hV := V wr O (l.getD m' J.zero) x0 x1 (deep - 1) r x2 p3 p4 n3 c3 n4 c4 (fun b hb => Nat.lt_of_lt_of_le (hO b hb) hB2.size) HD.out HDL.out hr (by omega) (hyj.carry fun b hb => ⟨hb, hB2.block b (hO b hb)⟩)
            clear cc hcells hml1 hyj hblk
            go_wp2_with (go_at_call 13; refine hV.mono ?_; rintro x w4 ⟨⟨r4, rfl, hr4, hr5, hr6⟩, hb4⟩)
            go_roundw
            case rel => exact ⟨m' + 1, r4, by go_num, rfl, hml, by omega, hr5, fun h => ⟨by rw [all_take HML.out, (HT.out hr).1, (hr6 h).1]; rfl, by
              have h1 := (HT.out hr).2
              have h2 := (hr6 h).2
              rw [take_snoc HML.out, List.map_append, List.sum_append, List.map_singleton, List.sum_singleton]
              omega⟩, below_cat hb2 hb2.size hb4⟩
            case measure => simp [intOf]; omega
          · go_wp2
            go_ret
            refine ⟨⟨r, rfl, by omega, hr0, fun h => absurd h (by omega)⟩, below_cat hbA (by omega) hb2⟩
        · obtain rfl : m' = nl := by omega
          go_wp2
          go_ret
          refine ⟨⟨r, rfl, by omega, hr0, fun h => ?_⟩, below_cat hbA (by omega) hb2⟩
          obtain ⟨ht, hc⟩ := HT.out h
          rw [List.take_of_length_le (by rw [HNL.out]; omega)] at ht hc
          refine ⟨?_, ?_⟩
          · unfold smallJ
            rw [HKS.out, ht, HNK.out, HNL.out, decide_eq_true (show t.size ≤ 2000 by omega), decide_eq_true (show m ≤ 200 by omega), decide_eq_true (show m' ≤ 2000 by omega)]
            rfl
          · unfold cntJ
            omega
theorem leftsC : ∀ d, LeftsC d
  | 0 => leftC_zero
  | d + 1 => leftC_step (leftsC d)
/-- What is small is nowhere too long. -/
theorem fewC_any {w : World} {O : Nat → Prop} {j : J} {k i : Int} {t : ByteArray} {pk pl : Option Addr} {nk ck nl cl : Nat} (hO : ∀ x, O x → x < w.heap.size) (hj : isJ O w j [.int .i64 k, .int .i64 i, .string t, .slice pk nk ck, .slice pl nl cl]) :
    Calls Tryz.prog 4 #[.agg #[.int .i64 k, .int .i64 i, .string t, .slice pk nk ck, .slice pl nl cl]] w fun x w' => (∃ b, x = .returned (.bool b) ∧ (b = true → smallJ 30 j = true ∧ cntJ 30 j ≤ 2000)) ∧ Below w.heap.size w w' := by
  have hbA : Below w.heap.size w (w.alloc (.cells #[.int .i64 k, .int .i64 i, .string t, .slice pk nk ck, .slice pl nl cl] 25)) := (Below.refl _ _).alloc (Nat.le_refl _) _
  have hV := leftsC 30 (w.alloc (.cells #[.int .i64 k, .int .i64 i, .string t, .slice pk nk ck, .slice pl nl cl] 25)) O j k i 30 2000 t pk pl nk ck nl cl (fun b hb => Nat.lt_of_lt_of_le (hO b hb) hbA.size) rfl (by decide) (by decide) (by decide) (hj.carry fun b hb => ⟨hb, hbA.block b (hO b hb)⟩)
  go_enter Tryz.func4, Tryz.ntmps4
  go_wp2_with (go_at_call 13; refine hV.mono ?_; rintro x w4 ⟨⟨r4, rfl, hr4, hr5, hr6⟩, hb4⟩)
  go_ret
  exact ⟨⟨_, rfl, fun h => ⟨(hr6 (of_decide_eq_true h)).1, by have := (hr6 (of_decide_eq_true h)).2; have := of_decide_eq_true h; omega⟩⟩, below_in hbA hb4⟩
end Go.Proofs.YtnmhpejnjaeecaaGreatDoor
namespace Go.Proofs.YtnmhpejnjaeecaaGreatDoor
open Go.RowKit

def pairLen (p : ByteArray × J) : Nat := (quote (ints p.1)).length + 2 + (enc' p.2).length
theorem encP_sum : ∀ (z : List (ByteArray × J)) (b : Bool), (encP b (z.map (·.1)) (z.map (·.2))).length ≤ (z.map pairLen).sum
  | [], b => by simp [encP]
  | p :: r, b => by
    have := encP_sum r false
    rw [List.map_cons, List.map_cons, encP_cons, List.map_cons, List.sum_cons]
    simp only [List.headD_cons, List.tail_cons, List.length_append, List.length_cons]
    have e : (if b = true then ([] : List Int) else [44]).length ≤ 1 := by cases b <;> simp
    show _ ≤ ((quote (ints p.1)).length + 2 + (enc' p.2).length) + (r.map pairLen).sum
    omega
theorem encL_sum : ∀ (l : List J) (b : Bool), (encL b l).length ≤ (l.map fun j => (enc' j).length + 1).sum
  | [], b => by simp [encL]
  | j :: r, b => by
    have := encL_sum r false
    rw [encL_cons, List.map_cons, List.sum_cons]
    simp only [List.length_append]
    have e : (if b = true then ([] : List Int) else [44]).length ≤ 1 := by cases b <;> simp
    omega
theorem quote_len (s : ByteArray) (h : s.size ≤ 2000) : (quote (ints s)).length ≤ 12002 := by
  unfold quote
  rw [List.length_cons, List.length_append, List.length_singleton]
  have := escs_len (ints s)
  rw [ints_length] at this
  omega
theorem zip_sum : ∀ (ks : List ByteArray) (l : List J), (∀ k ∈ ks, k.size ≤ 2000) → ((ks.zip (ordL l)).map pairLen).sum ≤ ks.length * 12003 + (l.map fun j => (enc' (ord j)).length + 1).sum
  | [], l, _ => by simp
  | k :: ks, [], _ => by simp [ordL]
  | k :: ks, j :: l, h => by
    have := zip_sum ks l fun x hx => h x (List.mem_cons_of_mem _ hx)
    have hq := quote_len k (h k List.mem_cons_self)
    rw [ordL, List.zip_cons_cons, List.map_cons, List.sum_cons, List.map_cons, List.sum_cons, List.length_cons]
    show ((quote (ints k)).length + 2 + (enc' (ord j)).length) + _ ≤ _
    omega
theorem sum_le {l : List J} {f g : J → Nat} (h : ∀ j ∈ l, f j ≤ g j) : (l.map f).sum ≤ (l.map g).sum := by
  induction l with
  | nil => simp
  | cons j r ih =>
    rw [List.map_cons, List.map_cons, List.sum_cons, List.sum_cons]
    have h1 := h j List.mem_cons_self
    have h2 := ih fun x hx => h x (List.mem_cons_of_mem _ hx)
    omega
theorem sum_mul (l : List J) (f : J → Nat) (B : Nat) : (l.map fun j => B * f j).sum = B * (l.map f).sum := by
  induction l with
  | nil => simp
  | cons j r ih => rw [List.map_cons, List.map_cons, List.sum_cons, List.sum_cons, ih, Nat.mul_add]
theorem ordL_sum (l : List J) : ((ordL l).map fun j => (enc' j).length + 1).sum = (l.map fun j => (enc' (ord j)).length + 1).sum := by
  induction l with
  | nil => rfl
  | cons j r ih => rw [ordL, List.map_cons, List.map_cons, List.sum_cons, List.sum_cons, ih]
theorem sortK_sum (z : List (ByteArray × J)) : ((sortK z).map pairLen).sum = (z.map pairLen).sum := by
  have put : ∀ (k : ByteArray) (v : J) (l : List (ByteArray × J)), ((putK k v l).map pairLen).sum = pairLen (k, v) + (l.map pairLen).sum := by
    intro k v l
    induction l with
    | nil => simp [putK]
    | cons q r ih =>
      unfold putK
      split
      · simp
      · rw [List.map_cons, List.sum_cons, ih, List.map_cons, List.sum_cons]
        omega
  induction z with
  | nil => rfl
  | cons q r ih => rw [sortK, put, ih, List.map_cons, List.sum_cons]
theorem enc_len : ∀ (d : Nat) (j : J), goodJ d j = true → smallJ d j = true → (enc' (ord j)).length + 1 ≤ 3000000 * cntJ d j
  | 0, j, h, _ => by unfold goodJ at h; cases h
  | d + 1, .mk k i t ks l, hg, hsm => by
    obtain ⟨hgl, hg5, hgn⟩ := good_sub hg
    obtain ⟨hkr, hg2⟩ := good_k hg
    unfold smallJ at hsm
    simp only [Bool.and_eq_true, decide_eq_true_eq, List.all_eq_true] at hsm
    obtain ⟨hts, hkn, hks, _, hls⟩ := hsm
    have hsum : (l.map fun j => (enc' (ord j)).length + 1).sum ≤ 3000000 * (l.map (cntJ d)).sum := by
      rw [← sum_mul]
      exact sum_le fun j hj => enc_len d j (List.all_eq_true.1 hgl j hj) (hls j hj)
    unfold cntJ
    rw [Nat.mul_add]
    rcases hkr with rfl | rfl | rfl | rfl | rfl | rfl
    · rw [ord, if_neg (by decide), enc', if_pos rfl]
      simp only [List.length_cons, List.length_nil]
      omega
    · rw [ord, if_neg (by decide), enc', if_neg (by decide), if_pos rfl]
      split <;> simp only [List.length_cons, List.length_nil] <;> omega
    · rw [ord, if_neg (by decide), enc', if_neg (by decide), if_neg (by decide), if_pos rfl]
      have := Lib.itoa_length_le i (by have := hg2 rfl; omega) (by have := hg2 rfl; omega)
      unfold numB
      rw [List.length_map]
      omega
    · rw [ord, if_neg (by decide), enc', if_neg (by decide), if_neg (by decide), if_neg (by decide), if_pos rfl]
      have := quote_len t hts
      omega
    · rw [ord, if_neg (by decide), enc', if_neg (by decide), if_neg (by decide), if_neg (by decide), if_neg (by decide), if_pos rfl]
      have := encL_sum (ordL l) true
      rw [ordL_sum] at this
      simp only [List.length_cons, List.length_append, List.length_nil]
      omega
    · rw [ord, if_pos rfl]
      unfold mapOf
      rw [enc', if_neg (by decide), if_neg (by decide), if_neg (by decide), if_neg (by decide), if_neg (by decide), if_pos rfl]
      have h1 := encP_sum (sortK (ks.zip (ordL l))) true
      rw [sortK_sum] at h1
      have h2 := zip_sum ks l fun k hk => hks k hk
      simp only [List.length_cons, List.length_append, List.length_nil]
      omega
theorem small_less : ∀ (d e : Nat) (j : J), d ≤ e → smallJ e j = true → smallJ d j = true
  | 0, _, _, _, _ => by unfold smallJ; rfl
  | d + 1, 0, _, h, _ => by omega
  | d + 1, e + 1, .mk k i t ks l, h, hs => by
    unfold smallJ at hs ⊢
    simp only [Bool.and_eq_true, List.all_eq_true] at hs ⊢
    exact ⟨hs.1, hs.2.1, hs.2.2.1, hs.2.2.2.1, fun x hx => small_less d e x (by omega) (hs.2.2.2.2 x hx)⟩
theorem cnt_less : ∀ (d e : Nat) (j : J), d ≤ e → cntJ d j ≤ cntJ e j
  | 0, _, _, _ => by unfold cntJ; omega
  | d + 1, 0, _, h => by omega
  | d + 1, e + 1, .mk k i t ks l, h => by
    unfold cntJ
    have := sum_le (l := l) fun j _ => cnt_less d e j (by omega)
    omega
theorem small_sz : ∀ (d : Nat) (j : J), smallJ d j = true → szJ d j = true
  | 0, _, _ => by unfold szJ; rfl
  | d + 1, .mk k i t ks l, hs => by
    unfold smallJ at hs
    unfold szJ
    simp only [Bool.and_eq_true, decide_eq_true_eq, List.all_eq_true] at hs ⊢
    obtain ⟨hts, hkn, hks, hll, hls⟩ := hs
    exact ⟨by omega, by omega, fun x hx => by have := hks x hx; omega, by omega, fun x hx => small_sz d x (hls x hx)⟩
end Go.Proofs.YtnmhpejnjaeecaaGreatDoor

/-
  Heads, by a contract.
-/
import Derived.Test.YtbjeaogblpjpeaaGDown
namespace Go.Proofs.Ytbjeaogblpjpeaa
open Go.RowKit Go.Maps

/-- What is told of heads. -/
def HeadsP (m : Nat) (K : List Bool) (E : Nat → List Nat) (w : World) (e : Ending) (w' : World) : Prop :=
  ∃ v, e = .returned v ∧ w'.ownsRow w.heap.size 3 1 v (zs (heads m K E)).length ((zs (heads m K E)).map (Value.int .i64)) ∧ Below w.heap.size w w'
/-- The marks of what the kept ones among the first k follow. -/
def FolP (m : Nat) (K : List Bool) (E : Nat → List Nat) (k : Nat) (C : List Bool) : Prop := C.length = m ∧ ∀ j, j < m → (C.getD j false = true ↔ ∃ i, i < k ∧ K.getD i false = true ∧ j ∈ E i)
theorem fol_zero (m : Nat) (K : List Bool) (E : Nat → List Nat) : FolP m K E 0 (List.replicate m false) :=
  ⟨by simp, fun j _ => by rw [rep_at]; exact ⟨fun h => absurd h Bool.false_ne_true, fun ⟨i, hi, _⟩ => absurd hi (by omega)⟩⟩
theorem FolP.yes {m : Nat} {K : List Bool} {E : Nat → List Nat} {k : Nat} {C : List Bool} (h : FolP m K E k C) (hk : K.getD k false = true) : FolP m K E (k + 1) (setAll C (E k)) := by
  refine ⟨by rw [setAll_len]; exact h.1, fun j hj => ?_⟩
  rw [setAll_at C (E k) j (by rw [h.1]; exact hj), Bool.or_eq_true, h.2 j hj, decide_eq_true_eq]
  constructor
  · rintro (⟨i, hi, h1, h2⟩ | h1)
    · exact ⟨i, by omega, h1, h2⟩
    · exact ⟨k, by omega, hk, h1⟩
  · rintro ⟨i, hi, h1, h2⟩
    rcases Nat.lt_or_ge i k with h' | h'
    · exact .inl ⟨i, h', h1, h2⟩
    · right; rw [show k = i by omega]; exact h2
theorem FolP.no {m : Nat} {K : List Bool} {E : Nat → List Nat} {k : Nat} {C : List Bool} (h : FolP m K E k C) (hk : K.getD k false = false) : FolP m K E (k + 1) C := by
  refine ⟨h.1, fun j hj => ?_⟩
  rw [h.2 j hj]
  constructor
  · rintro ⟨i, hi, h1, h2⟩; exact ⟨i, by omega, h1, h2⟩
  · rintro ⟨i, hi, h1, h2⟩
    rcases Nat.lt_or_ge i k with h' | h'
    · exact ⟨i, h', h1, h2⟩
    · rw [show i = k by omega, hk] at h1; cases h1
/-- The heads among the first k. -/
def headsTo (m : Nat) (K : List Bool) (E : Nat → List Nat) (k : Nat) : List Nat := (heads m K E).filter fun i => decide (i < k)
theorem headsTo_zero (m : Nat) (K : List Bool) (E : Nat → List Nat) : headsTo m K E 0 = [] := by
  unfold headsTo
  rw [List.filter_eq_nil_iff]
  intro i _
  simp
theorem headsTo_all (m : Nat) (K : List Bool) (E : Nat → List Nat) : headsTo m K E m = heads m K E := by
  unfold headsTo
  rw [List.filter_eq_self]
  intro i hi
  simp only [decide_eq_true_eq]
  exact (mem_heads.1 hi).1
theorem headsTo_rise (m : Nat) (K : List Bool) (E : Nat → List Nat) (k : Nat) : (headsTo m K E k).Pairwise (· < ·) := List.Pairwise.filter _ (heads_rise _ _ _)
theorem headsTo_yes {m : Nat} {K : List Bool} {E : Nat → List Nat} {k : Nat} (h : k ∈ heads m K E) : headsTo m K E (k + 1) = headsTo m K E k ++ [k] := by
  refine rise_ext (headsTo_rise _ _ _ _) ?_ fun x => ?_
  · rw [List.pairwise_append]
    refine ⟨headsTo_rise _ _ _ _, by simp, fun a ha b hb => ?_⟩
    rw [List.mem_singleton.1 hb]
    unfold headsTo at ha
    simp at ha
    exact ha.2
  · unfold headsTo
    simp only [List.mem_filter, List.mem_append, List.mem_singleton, decide_eq_true_eq]
    constructor
    · rintro ⟨h1, h2⟩
      by_cases e : x = k
      · exact .inr e
      · exact .inl ⟨h1, by omega⟩
    · rintro (⟨h1, h2⟩ | rfl)
      · exact ⟨h1, by omega⟩
      · exact ⟨h, by omega⟩
theorem headsTo_no {m : Nat} {K : List Bool} {E : Nat → List Nat} {k : Nat} (h : k ∉ heads m K E) : headsTo m K E (k + 1) = headsTo m K E k := by
  refine rise_ext (headsTo_rise _ _ _ _) (headsTo_rise _ _ _ _) fun x => ?_
  unfold headsTo
  simp only [List.mem_filter, decide_eq_true_eq]
  constructor
  · rintro ⟨h1, h2⟩
    refine ⟨h1, ?_⟩
    by_cases e : x = k
    · subst e; exact absurd h1 h
    · omega
  · rintro ⟨h1, h2⟩; exact ⟨h1, by omega⟩
theorem headsTo_len (m : Nat) (K : List Bool) (E : Nat → List Nat) (k : Nat) : (zs (headsTo m K E k)).length ≤ m := by
  rw [zs_len]
  unfold headsTo
  exact Nat.le_trans (List.length_filter_le _ _) (heads_len _ _ _)

set_option maxRecDepth 100000 in
set_option maxHeartbeats 4000000 in
theorem heads_any {O : Nat → Prop} {g : Option Addr} {T : List Th} (K : List Bool) (p : Option Addr) (c : Nat) (w : World) (h : Gq O w g T) (hg : Good T) (r : RdB (· < w.heap.size) w p c K) (hT : T.length ≤ 100) (hK : K.length ≤ 1000) :
    Calls Try.prog 25 #[.pointer g, .slice p K.length c] w (HeadsP (min K.length T.length) K (prevs T) w) := by
  have HL : Hid (T = [] ∨ ∀ k, O k → k < w.heap.size) := h.lt
  have HQ : Hid (∀ wx, Below w.heap.size w wx → Gq O wx g T) := fun wx hb => h.below hb
  have hlen := len_any w h hT
  have HG : Hid (Good T) := hg
  have hKc := r.1
  obtain ⟨n, hn⟩ : ∃ n, T.length = n := ⟨_, rfl⟩
  have HN : Hid (T.length = n) := hn
  rw [hn] at hlen ⊢
  have hT' : n ≤ 100 := by rw [← hn]; exact hT
  obtain ⟨m, hm⟩ : ∃ m, min K.length n = m := ⟨_, rfl⟩
  have hmi : min (K.length : Int) (n : Int) = (m : Int) := by omega
  have hmK : m ≤ K.length := by omega
  have hmn : m ≤ n := by omega
  rw [hm]
  clear hm hn h hg
  go_enter Try.func25, Try.ntmps25
  go_wp2_with (first
    | (go_at_call 28; refine hlen.mono ?_; rintro e w' ⟨rfl, rfl⟩)
    | (at_make; refine wpList_bools rfl (.tmp 19) (.tmp 19) rfl m (by omega) rfl rfl ?_))
  intro w1 hsz1 hb1 hbk1
  have HB1 : Hid (Bk w1 w.heap.size (List.replicate m false)) := hbk1
  have HBb1 : Hid (Below w.heap.size w w1) := hb1
  clear hbk1 hb1
  go_wp2
  go_loopw [23] (fun i wr => ∃ k : Nat, ∃ C : List Bool, k ≤ m ∧ i = .int .i64 k ∧ Bk wr w.heap.size C ∧ FolP m K (prevs T) k C ∧ Below w.heap.size w wr) (fun i _ => m - (intOf i).toNat)
  case atStart => exact ⟨0, _, Nat.zero_le _, rfl, HB1.out, fol_zero _ _ _, HBb1.out⟩
  case round =>
    clear HB1 HBb1 hsz1
    obtain ⟨k, C, hk, rfl, hC, hfol, hb⟩ := hrel
    have HF : Hid (FolP m K (prevs T) k C) := hfol
    have hCL : Hid (C.length = m) := hfol.1
    have hsz := hb.size
    clear hfol
    by_cases hlt : k < m
    · obtain ⟨ad, rfl, _, hcell⟩ := (r.below hb).at k false (by omega)
      have HTN : Hid (∀ k, O k → k < w.heap.size) := by
        rcases HL.out with rfl | h'
        · have := HN.out; simp at this; omega
        · exact h'
      have HE : Hid (∀ x ∈ prevs T k, x < m) := fun x hx => by have := HG.out.pl k x hx; omega
      have HEL : Hid ((prevs T k).length ≤ 100) := by have := rise_length (HG.out.pr k) (HG.out.pl k); show _ ≤ _; omega
      have hf1 := follows_any (k : Int) wr (HQ.out wr hb) hT
      rw [thAt_nat] at hf1
      change Calls Try.prog 34 #[.pointer g, .int .i64 k] wr fun e w' => ∃ p c, e = .returned (.slice p (zs (prevs T k)).length c) ∧ RdI O wr p c (zs (prevs T k)) ∧ Below wr.heap.size wr w' at hf1
      cases hkk : K.getD k false with
      | true =>
        have HFN : Hid (FolP m K (prevs T) (k + 1) (setAll C (prevs T k))) := HF.out.yes hkk
        rw [hkk] at hcell
        clear hkk
        generalize prevs T k = ns at *
        go_wp2_with (first
          | (go_at_call 34; refine hf1.mono ?_; rintro e w2 ⟨p2, c2, rfl, r2, hb2⟩
             have hz2 := hb2.size
             have hmk := mark_any C w.heap.size m ns p2 c2 w2 (bk_below hC hb2) (by rw [hCL.out]; exact Nat.le_refl _) (r2.same (Same.of_below hb2 fun k hk => by have := HTN.out k hk; omega)) (fun hO => by have := HTN.out _ hO; omega) (by rw [hCL.out]; exact HE.out) (by rw [hCL.out]; omega) (by have := HEL.out; omega) (fun _ k hk => by have := HTN.out k hk; omega)
             rw [hCL.out] at hmk)
          | (go_at_call 39; refine hmk.mono ?_; rintro e w3 ⟨rfl, hC3, hk3⟩))
        go_roundw
        case rel => exact ⟨k + 1, _, by omega, by go_num, hC3, HFN.out, below_keep (hb.trans (hb2.mono (by omega))) hk3 (by omega) (Nat.le_refl _)⟩
        case measure => simp [intOf]; omega
      | false =>
        have HFN : Hid (FolP m K (prevs T) (k + 1) C) := HF.out.no hkk
        rw [hkk] at hcell
        clear hkk hf1
        go_wp2
        go_roundw
        case rel => exact ⟨k + 1, _, by omega, by go_num, hC, HFN.out, hb⟩
        case measure => simp [intOf]; omega
    · obtain rfl : k = m := by omega
      have HH : Hid (∀ j, j < k → (C.getD j false = true ↔ ∃ i, i < k ∧ K.getD i false = true ∧ j ∈ prevs T i)) := HF.out.2
      clear HF hk hlt
      have HWR : Hid (Below w.heap.size w wr) := hb
      go_wp2
      go_loopw [8, 37] (fun v i wx => ∃ j : Nat, j ≤ k ∧ i = .int .i64 j ∧ Bk wx w.heap.size C ∧ wx.ownsRow w.heap.size 3 1 v (zs (headsTo k K (prevs T) j)).length ((zs (headsTo k K (prevs T) j)).map (Value.int .i64)) ∧ Below w.heap.size w wx) (fun _ i _ => k - (intOf i).toNat)
      case atStart => exact ⟨0, Nat.zero_le _, rfl, hC, by rw [headsTo_zero]; exact World.ownsRow_nil _ _ _ _, hb⟩
      case round =>
        clear hC hb hsz
        obtain ⟨j, hj, rfl, hC, hown, hb⟩ := hrel
        have hsz := hb.size
        by_cases hlt : j < k
        · obtain ⟨ad, rfl, _, hcell⟩ := (r.below hb).at j false (by omega)
          have hcc := hC.cell j (by rw [hCL.out]; exact hlt)
          have hcj := HH.out j hlt
          have hmem : j ∈ heads k K (prevs T) ↔ K.getD j false = true ∧ C.getD j false = false := by
            rw [mem_heads, Bool.eq_false_iff, Ne, hcj]
            constructor
            · rintro ⟨_, h1, h2⟩
              exact ⟨h1, fun ⟨i, a, b, c⟩ => h2 i a b c⟩
            · rintro ⟨h1, h2⟩
              exact ⟨hlt, h1, fun i a b c => h2 ⟨i, a, b, c⟩⟩
          have hlen2 := headsTo_len k K (prevs T) j
          cases hkk : K.getD j false with
          | false =>
            rw [hkk] at hcell
            have HNO := own_cast hown (congrArg zs (headsTo_no (k := j) (fun h' => by have := (hmem.1 h').1; rw [hkk] at this; cases this)))
            clear hmem hcj hkk hown
            go_wp2
            go_roundw
            case rel => exact ⟨j + 1, by omega, by go_num, hC, HNO, hb⟩
            case measure => simp [intOf]; omega
          | true =>
            rw [hkk] at hcell
            cases hcx : C.getD j false with
            | true =>
              rw [hcx] at hcc
              have HNO := own_cast hown (congrArg zs (headsTo_no (k := j) (fun h' => by have := (hmem.1 h').2; rw [hcx] at this; cases this)))
              clear hmem hcj hkk hcx hown
              go_wp2
              go_roundw
              case rel => exact ⟨j + 1, by omega, by go_num, hC, HNO, hb⟩
              case measure => simp [intOf]; omega
            | false =>
              rw [hcx] at hcc
              have HZ : Hid (zs (headsTo k K (prevs T) (j + 1)) = zs (headsTo k K (prevs T) j) ++ [(j : Int)]) := by show _ = _; rw [headsTo_yes (hmem.2 ⟨hkk, hcx⟩)]; simp [zs]
              clear hmem hcj hkk hcx
              generalize zs (headsTo k K (prevs T) j) = D at *
              go_wp2_with (first
                | (at_builtin; refine wpList_push rfl (.tmp 50) (.tmp 52) 35 3 (.int .i64 0) 8 rfl Try.underlying35 Try.info3 rfl (by decide) int_one w.heap.size _ D rfl ?a0 _ (j : Int) rfl ?a1 ?a2 ?a3 ?_))
              case a0 => exact hown.alloc _
              case a1 => exact cell_row (cur := [_]) (heap_alloc_new _ _) 0 _ rfl
              case a2 => omega
              case a3 => simp; omega
              intro v' w1 hown1 hg1
              have hsz1 := hg1.size
              simp at hsz1
              have hC1 : Bk w1 w.heap.size C := bk_grown (hown.alloc _) (bk_below hC ((Below.refl _ _).alloc (Nat.le_refl _) _)) hg1
              have hb1 : Below w.heap.size w w1 := below_row (hb.alloc hsz _) hg1 (hown.alloc _) (by simp; omega)
              have HC1 : Hid (w1.ownsRow w.heap.size 3 1 v' (zs (headsTo k K (prevs T) (j + 1))).length ((zs (headsTo k K (prevs T) (j + 1))).map (Value.int .i64))) := by show World.ownsRow _ _ _ _ _ _ _; rw [HZ.out, List.length_append, List.map_append]; exact hown1
              clear hown hown1 hC hcc
              go_wp2
              go_roundw
              case rel => exact ⟨j + 1, by omega, by go_num, hC1, HC1.out, hb1⟩
              case measure => simp [intOf]; omega
        · obtain rfl : j = k := by omega
          have HEND := own_cast hown (congrArg zs (headsTo_all j K (prevs T)).symm)
          clear hown
          go_wp2
          go_ret
          exact ⟨_, rfl, HEND, hb⟩
end Go.Proofs.Ytbjeaogblpjpeaa

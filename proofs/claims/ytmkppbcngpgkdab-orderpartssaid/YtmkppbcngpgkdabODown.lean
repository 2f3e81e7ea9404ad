/-
  container/heap's down, Push and Pop over the queue; put and take.
-/
import Derived.Test.YtmkppbcngpgkdabOHeap
namespace Go.Proofs.Ytmkppbcngpgkdab
open Go.RowKit Go.Maps

/-- What Less tells, wherever the queue lies. -/
def LessC (B : Nat) (qb : Nat) (rp : Option Addr) (rc : Nat) (R : List Int) (v : Value) (h : List Nat) (a b : Nat) (t : Bool) : Prop :=
  ∀ wx, Qu B wx qb rp rc R v h → Calls Try.prog 60 #[.pointer (some ⟨qb, 0, none⟩), .int .i64 (a : Int), .int .i64 (b : Int)] wx fun e w' => e = .returned (.bool t) ∧ Keep (fun _ => False) wx w'
def SwapC (B : Nat) (qb : Nat) (rp : Option Addr) (rc : Nat) (R : List Int) (v : Value) (h : List Nat) (a b : Nat) : Prop :=
  ∀ wx, Qu B wx qb rp rc R v h → Calls Try.prog 63 #[.pointer (some ⟨qb, 0, none⟩), .int .i64 (a : Int), .int .i64 (b : Int)] wx fun e w' => e = .returned (.tuple #[]) ∧ Qu B w' qb rp rc R v (swp h a b) ∧ Keep (v.ownBlock = some ·) wx w'
theorem less_c {B : Nat} {qb : Nat} {rp : Option Addr} {rc : Nat} {R : List Int} {v : Value} {h : List Nat} (hl : h.length ≤ 1000) (hR : R.length ≤ 1000) (a b : Nat) (ha : a < h.length) (hb : b < h.length) (t : Bool) (ht : decide (Lt R (h.getD a 0) (h.getD b 0)) = t) : LessC B qb rp rc R v h a b t := by
  intro wx hx
  rw [← ht]
  exact less_any hx a b ha hb hl hR
theorem swap_c {B : Nat} {qb : Nat} {rp : Option Addr} {rc : Nat} {R : List Int} {v : Value} {h : List Nat} (hl : h.length ≤ 1000) (a b : Nat) (ha : a < h.length) (hb : b < h.length) : SwapC B qb rp rc R v h a b := fun _ hx => swap_any hx a b ha hb hl
theorem son_no {R : List Int} {h : List Nat} {n i : Nat} (hn : n ≤ 2 * i + 2) : son R h n i = 2 * i + 1 := by unfold son; rw [if_neg (by omega)]
theorem son_one {R : List Int} {h : List Nat} {n i : Nat} (hn : ¬ Lt R (h.getD (2 * i + 2) 0) (h.getD (2 * i + 1) 0)) : son R h n i = 2 * i + 1 := by unfold son; rw [if_neg (fun h => hn h.2)]
theorem son_two {R : List Int} {h : List Nat} {n i : Nat} (hn : 2 * i + 2 < n) (hl : Lt R (h.getD (2 * i + 2) 0) (h.getD (2 * i + 1) 0)) : son R h n i = 2 * i + 2 := by unfold son; rw [if_pos ⟨hn, hl⟩]

set_option maxHeartbeats 8000000 in
theorem down_any {B : Nat} {w : World} {qb : Nat} {rp : Option Addr} {rc : Nat} {R : List Int} {v : Value} {h : List Nat} (H : Qu B w qb rp rc R v h) (i0 n : Nat) (hn : n ≤ h.length) (hi0 : i0 < h.length) (hl : h.length ≤ 1000) (hR : R.length ≤ 1000) (f0 : Nat) (hf0 : n < i0 + f0) :
    Calls Try.prog 36 #[.iface 41 (.pointer (some ⟨qb, 0, none⟩)), .int .i64 i0, .int .i64 n] w fun e w' => (∃ t, e = .returned (.bool t)) ∧ ∃ v', Qk B w w' qb rp rc R v v' (downF R n f0 h i0) := by
  have hmL := mLess
  have hmS := mSwap
  go_enter Try.func36, Try.ntmps36
  go_wp2
  go_loopw [7] (fun x wr => ∃ (i f : Nat) (h' : List Nat) (v' : Value), x = .int .i64 i ∧ i < h'.length ∧ n < i + f ∧ h'.length = h.length ∧ Qk B w wr qb rp rc R v v' h' ∧ Hid (downF R n f0 h i0 = downF R n f h' i)) (fun i _ => 1000 - (intOf i).toNat)
  case atStart => exact ⟨i0, f0, h, v, rfl, hi0, hf0, rfl, Qk.refl H, rfl⟩
  case round =>
    obtain ⟨i, f, h', v', rfl, hi, hf, hh, hq, HE⟩ := hrel
    obtain ⟨a, ha⟩ : ∃ a : Nat, 2 * (i : Int) + 1 = (a : Int) := ⟨2 * i + 1, by omega⟩
    obtain ⟨b, hb⟩ : ∃ b : Nat, (a : Int) + 1 = (b : Int) := ⟨a + 1, by omega⟩
    have EA : Hid (a = 2 * i + 1) := by show _ = _; omega
    have EB : Hid (b = 2 * i + 2) := by show _ = _; omega
    have a0 : decide ((a : Int) < 0) = false := by rw [decide_eq_false_iff_not]; omega
    rcases Nat.lt_or_ge a n with hc | hc
    · obtain ⟨f, rfl⟩ : ∃ f', f = f' + 1 := ⟨f - 1, by omega⟩
      have hcI : decide ((n : Int) ≤ (a : Int)) = false := by rw [decide_eq_false_iff_not]; omega
      have fin : ∀ s : Nat, Hid (son R h' n i = s) → Lt R (h'.getD s 0) (h'.getD i 0) → Hid (downF R n f0 h i0 = downF R n f (swp h' i s) s) := by
        intro s hs hlt
        show _ = _
        rw [HE.out, downF, hs.out, if_pos ⟨by omega, hlt⟩]
      have fin' : ∀ s : Nat, Hid (son R h' n i = s) → ¬ Lt R (h'.getD s 0) (h'.getD i 0) → Hid (downF R n f0 h i0 = h') := by
        intro s hs hlt
        show _ = _
        rw [HE.out, downF, hs.out, if_neg (fun h => hlt h.2)]
      rcases Nat.lt_or_ge b n with hc2 | hc2
      · have hcJ : decide ((b : Int) < (n : Int)) = true := by rw [decide_eq_true_eq]; omega
        by_cases ht : Lt R (h'.getD b 0) (h'.getD a 0)
        · have HL1 : Hid (LessC B qb rp rc R v' h' b a true) := less_c (by omega) hR b a (by omega) (by omega) true (decide_eq_true ht)
          have HS : Hid (son R h' n i = b) := by rw [EA.out, EB.out] at ht; rw [EB.out]; exact son_two (by omega) ht
          by_cases hlt : Lt R (h'.getD b 0) (h'.getD i 0)
          · have HL2 : Hid (LessC B qb rp rc R v' h' b i true) := less_c (by omega) hR b i (by omega) hi true (decide_eq_true hlt)
            have HF := fin b HS hlt
            have HW : Hid (SwapC B qb rp rc R v' h' i b) := swap_c (by omega) i b hi (by omega)
            clear fin fin' ht hlt
            have tok1 : True := trivial
            go_wp2_with (first
              | (go_at_call 60; have _t := tok1; refine (HL1.out _ hq.qu).mono ?_; rintro e w1 ⟨rfl, hk1⟩; have hq1 := hq.still hk1; clear tok1 hk1 hq)
              | (go_at_call 60; refine (HL2.out _ hq1.qu).mono ?_; rintro e w2 ⟨rfl, hk2⟩; have hq2 := hq1.still hk2; clear hk2 hq1)
              | (go_at_call 63; refine (HW.out _ hq2.qu).mono ?_; rintro e w3 ⟨rfl, hq3, hk3⟩; have hq4 := hq2.trans (Qk.mk_swap hq3 hk3); clear hq2 hq3 hk3))
            go_roundw
            case rel => exact ⟨b, f, _, v', rfl, by rw [swp_len]; omega, by omega, by rw [swp_len]; exact hh, hq4, HF⟩
            case measure => simp [intOf]; omega
          · have HL2 : Hid (LessC B qb rp rc R v' h' b i false) := less_c (by omega) hR b i (by omega) hi false (decide_eq_false hlt)
            have HF := fin' b HS hlt
            clear fin fin' ht hlt
            have tok1 : True := trivial
            go_wp2_with (first
              | (go_at_call 60; have _t := tok1; refine (HL1.out _ hq.qu).mono ?_; rintro e w1 ⟨rfl, hk1⟩; have hq1 := hq.still hk1; clear tok1 hk1 hq)
              | (go_at_call 60; refine (HL2.out _ hq1.qu).mono ?_; rintro e w2 ⟨rfl, hk2⟩; have hq2 := hq1.still hk2; clear hk2 hq1))
            go_ret
            exact ⟨⟨_, rfl⟩, v', by rw [HF.out]; exact hq2⟩
        · have HL1 : Hid (LessC B qb rp rc R v' h' b a false) := less_c (by omega) hR b a (by omega) (by omega) false (decide_eq_false ht)
          have HS : Hid (son R h' n i = a) := by rw [EA.out, EB.out] at ht; rw [EA.out]; exact son_one ht
          by_cases hlt : Lt R (h'.getD a 0) (h'.getD i 0)
          · have HL2 : Hid (LessC B qb rp rc R v' h' a i true) := less_c (by omega) hR a i (by omega) hi true (decide_eq_true hlt)
            have HF := fin a HS hlt
            have HW : Hid (SwapC B qb rp rc R v' h' i a) := swap_c (by omega) i a hi (by omega)
            clear fin fin' ht hlt
            have tok1 : True := trivial
            go_wp2_with (first
              | (go_at_call 60; have _t := tok1; refine (HL1.out _ hq.qu).mono ?_; rintro e w1 ⟨rfl, hk1⟩; have hq1 := hq.still hk1; clear tok1 hk1 hq)
              | (go_at_call 60; refine (HL2.out _ hq1.qu).mono ?_; rintro e w2 ⟨rfl, hk2⟩; have hq2 := hq1.still hk2; clear hk2 hq1)
              | (go_at_call 63; refine (HW.out _ hq2.qu).mono ?_; rintro e w3 ⟨rfl, hq3, hk3⟩; have hq4 := hq2.trans (Qk.mk_swap hq3 hk3); clear hq2 hq3 hk3))
            go_roundw
            case rel => exact ⟨a, f, _, v', rfl, by rw [swp_len]; omega, by omega, by rw [swp_len]; exact hh, hq4, HF⟩
            case measure => simp [intOf]; omega
          · have HL2 : Hid (LessC B qb rp rc R v' h' a i false) := less_c (by omega) hR a i (by omega) hi false (decide_eq_false hlt)
            have HF := fin' a HS hlt
            clear fin fin' ht hlt
            have tok1 : True := trivial
            go_wp2_with (first
              | (go_at_call 60; have _t := tok1; refine (HL1.out _ hq.qu).mono ?_; rintro e w1 ⟨rfl, hk1⟩; have hq1 := hq.still hk1; clear tok1 hk1 hq)
              | (go_at_call 60; refine (HL2.out _ hq1.qu).mono ?_; rintro e w2 ⟨rfl, hk2⟩; have hq2 := hq1.still hk2; clear hk2 hq1))
            go_ret
            exact ⟨⟨_, rfl⟩, v', by rw [HF.out]; exact hq2⟩
      · have hcJ : decide ((b : Int) < (n : Int)) = false := by rw [decide_eq_false_iff_not]; omega
        have HS : Hid (son R h' n i = a) := by rw [EA.out]; exact son_no (by omega)
        by_cases hlt : Lt R (h'.getD a 0) (h'.getD i 0)
        · have HL2 : Hid (LessC B qb rp rc R v' h' a i true) := less_c (by omega) hR a i (by omega) hi true (decide_eq_true hlt)
          have HF := fin a HS hlt
          have HW : Hid (SwapC B qb rp rc R v' h' i a) := swap_c (by omega) i a hi (by omega)
          clear fin fin' hlt
          go_wp2_with (first
            | (go_at_call 60; refine (HL2.out _ hq.qu).mono ?_; rintro e w2 ⟨rfl, hk2⟩; have hq2 := hq.still hk2; clear hk2 hq)
            | (go_at_call 63; refine (HW.out _ hq2.qu).mono ?_; rintro e w3 ⟨rfl, hq3, hk3⟩; have hq4 := hq2.trans (Qk.mk_swap hq3 hk3); clear hq2 hq3 hk3))
          go_roundw
          case rel => exact ⟨a, f, _, v', rfl, by rw [swp_len]; omega, by omega, by rw [swp_len]; exact hh, hq4, HF⟩
          case measure => simp [intOf]; omega
        · have HL2 : Hid (LessC B qb rp rc R v' h' a i false) := less_c (by omega) hR a i (by omega) hi false (decide_eq_false hlt)
          have HF := fin' a HS hlt
          clear fin fin' hlt
          go_wp2_with (first
            | (go_at_call 60; refine (HL2.out _ hq.qu).mono ?_; rintro e w2 ⟨rfl, hk2⟩; have hq2 := hq.still hk2; clear hk2 hq))
          go_ret
          exact ⟨⟨_, rfl⟩, v', by rw [HF.out]; exact hq2⟩
    · have hcI : decide ((n : Int) ≤ (a : Int)) = true := by rw [decide_eq_true_eq]; omega
      have HF : Hid (downF R n f0 h i0 = h') := by
        show _ = _
        rw [HE.out]
        cases f with
        | zero => rfl
        | succ f => rw [downF, if_neg (by omega)]
      go_wp2
      go_ret
      exact ⟨⟨_, rfl⟩, v', by rw [HF.out]; exact hq⟩
end Go.Proofs.Ytmkppbcngpgkdab

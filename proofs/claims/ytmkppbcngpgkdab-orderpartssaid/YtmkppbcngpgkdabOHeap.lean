/-
  container/heap over the queue.
-/
import Derived.Test.YtmkppbcngpgkdabOPush
namespace Go.Proofs.Ytmkppbcngpgkdab
open Go.RowKit Go.Maps

theorem mLess (W : World) (p : Option Addr) : (method 196 41 (.pointer p) "Less").run Try.prog W = .ok (60, .pointer p) W := by kernel_rfl
theorem mSwap (W : World) (p : Option Addr) : (method 196 41 (.pointer p) "Swap").run Try.prog W = .ok (63, .pointer p) W := by kernel_rfl
theorem mLen (W : World) (p : Option Addr) : (method 196 41 (.pointer p) "Len").run Try.prog W = .ok (18, .pointer p) W := by kernel_rfl
theorem mPush (W : World) (p : Option Addr) : (method 196 41 (.pointer p) "Push").run Try.prog W = .ok (62, .pointer p) W := by kernel_rfl
theorem mPop (W : World) (p : Option Addr) : (method 196 41 (.pointer p) "Pop").run Try.prog W = .ok (61, .pointer p) W := by kernel_rfl
/-- A queue with its world's frame: all but the queue's own blocks stays. -/
structure Qk (B : Nat) (w w' : World) (qb : Nat) (rp : Option Addr) (rc : Nat) (R : List Int) (v v' : Value) (h : List Nat) : Prop where
  qu : Qu B w' qb rp rc R v' h
  keep : Keep (fun k => k = qb ∨ v.ownBlock = some k) w w'
  loc : v'.ownBlock = v.ownBlock ∨ ∀ k, v'.ownBlock = some k → w.heap.size ≤ k
theorem Qk.refl {B : Nat} {w : World} {qb : Nat} {rp : Option Addr} {rc : Nat} {R : List Int} {v : Value} {h : List Nat} (H : Qu B w qb rp rc R v h) : Qk B w w qb rp rc R v v h := ⟨H, Keep.refl _ _, .inl rfl⟩
theorem Qk.trans {B : Nat} {w w1 w2 : World} {qb : Nat} {rp : Option Addr} {rc : Nat} {R : List Int} {v v1 v2 : Value} {h h' : List Nat} (H : Qk B w w1 qb rp rc R v v1 h) (K : Qk B w1 w2 qb rp rc R v1 v2 h') : Qk B w w2 qb rp rc R v v2 h' := by
  refine ⟨K.qu, H.keep.trans K.keep fun k hk e => ?_, ?_⟩
  · rcases e with e | e
    · exact .inl e
    · rcases H.loc with h1 | h1
      · exact .inr (h1 ▸ e)
      · have := h1 k e; omega
  · have hs := H.keep.size
    rcases K.loc with h2 | h2
    · rw [h2]; exact H.loc
    · exact .inr fun k hk => Nat.le_trans hs (h2 k hk)
theorem Qk.still {B : Nat} {w w1 w2 : World} {qb : Nat} {rp : Option Addr} {rc : Nat} {R : List Int} {v v1 : Value} {h : List Nat} (H : Qk B w w1 qb rp rc R v v1 h) (K : Keep (fun _ => False) w1 w2) : Qk B w w2 qb rp rc R v v1 h :=
  H.trans ⟨H.qu.same K, K.mono fun _ _ h => h.elim, .inl rfl⟩
theorem Qk.mk_swap {B : Nat} {w w1 : World} {qb : Nat} {rp : Option Addr} {rc : Nat} {R : List Int} {v : Value} {h : List Nat} (H : Qu B w1 qb rp rc R v h) (K : Keep (v.ownBlock = some ·) w w1) : Qk B w w1 qb rp rc R v v h :=
  ⟨H, K.mono fun _ _ h => .inr h, .inl rfl⟩

set_option maxHeartbeats 4000000 in
theorem up_any {B : Nat} {w : World} {qb : Nat} {rp : Option Addr} {rc : Nat} {R : List Int} {v : Value} {h : List Nat} (H : Qu B w qb rp rc R v h) (j : Nat) (hj : j < h.length) (hl : h.length ≤ 1000) (hR : R.length ≤ 1000) :
    Calls Try.prog 35 #[.iface 41 (.pointer (some ⟨qb, 0, none⟩)), .int .i64 j] w fun e w' => e = .returned (.tuple #[]) ∧ ∃ v', Qk B w w' qb rp rc R v v' (upF R (j + 1) h j) := by
  have hmL := mLess
  have hmS := mSwap
  go_enter Try.func35, Try.ntmps35
  go_wp2
  go_loopw [1] (fun i wr => ∃ (k f : Nat) (h' : List Nat) (v' : Value), i = .int .i64 k ∧ k < f ∧ k < h'.length ∧ h'.length = h.length ∧ Qk B w wr qb rp rc R v v' h' ∧ Hid (upF R (j + 1) h j = upF R f h' k)) (fun i _ => (intOf i).toNat)
  case atStart => exact ⟨j, j + 1, h, v, rfl, by omega, hj, rfl, Qk.refl H, rfl⟩
  case round =>
    obtain ⟨k, f, h', v', rfl, hkf, hk, hh, hq, HE⟩ := hrel
    obtain ⟨f, rfl⟩ : ∃ f', f = f' + 1 := ⟨f - 1, by omega⟩
    rcases Nat.eq_zero_or_pos k with rfl | hp
    · have HF : Hid (upF R (j + 1) h j = h') := by
        show _ = _
        rw [HE.out, upF, if_neg (by omega)]
      go_wp2
      exact bodyPost_end (v := .tuple #[]) (by simp [results, Try.results35, go_sem]) rfl ⟨rfl, v', by rw [HF.out]; exact hq⟩
    · obtain ⟨m, rfl⟩ : ∃ m, k = m + 1 := ⟨k - 1, by omega⟩
      have hm : (m + 1 - 1) / 2 = m / 2 := by simp
      have hd : (m : Int).tdiv 2 = ((m / 2 : Nat) : Int) := by
        rw [Int.tdiv_eq_ediv_of_nonneg (by omega)]
        rfl
      have hne : (((m / 2 : Nat) : Int) == (m : Int) + 1) = false := by rw [beq_eq_false_iff_ne]; omega
      have hls := less_any hq.qu (m + 1) (m / 2) hk (by omega) (by omega) hR
      have HS : Hid (∀ wx, Qu B wx qb rp rc R v' h' → Calls Try.prog 63 #[.pointer (some ⟨qb, 0, none⟩), .int .i64 ((m / 2 : Nat) : Int), .int .i64 ((m + 1 : Nat) : Int)] wx fun e w' => e = .returned (.tuple #[]) ∧ Qu B w' qb rp rc R v' (swp h' (m / 2) (m + 1)) ∧ Keep (v'.ownBlock = some ·) wx w') := fun wx hx => swap_any hx (m / 2) (m + 1) (by omega) hk (by omega)
      by_cases hlt : Lt R (h'.getD (m + 1) 0) (h'.getD (m / 2) 0)
      · have HF : Hid (upF R (j + 1) h j = upF R f (swp h' (m / 2) (m + 1)) (m / 2)) := by
          show _ = _
          rw [HE.out, upF, hm, if_pos ⟨by omega, hlt⟩]
        rw [decide_eq_true hlt] at hls
        generalize m / 2 = i at *
        go_wp2_with (first
          | (go_at_call 60; refine hls.mono ?_; rintro e w1 ⟨rfl, hk1⟩; have hq1 := hq.still hk1; clear hk1 hq)
          | (go_at_call 63; refine (HS.out _ hq1.qu).mono ?_; rintro e w2 ⟨rfl, hq2, hk2⟩; have hq3 := hq1.trans (Qk.mk_swap hq2 hk2); clear hq1 hq2 hk2))
        go_roundw
        case rel => exact ⟨i, f, _, v', rfl, by omega, by rw [swp_len]; omega, by rw [swp_len]; exact hh, hq3, HF⟩
        case measure => simp [intOf]; omega
      · have HF : Hid (upF R (j + 1) h j = h') := by
          show _ = _
          rw [HE.out, upF, hm, if_neg (fun h => hlt h.2)]
        rw [decide_eq_false hlt] at hls
        generalize m / 2 = i at *
        go_wp2_with (first
          | (go_at_call 60; refine hls.mono ?_; rintro e w1 ⟨rfl, hk1⟩; have hq1 := hq.still hk1; clear hk1 hq))
        exact bodyPost_end (v := .tuple #[]) (by simp [results, Try.results35, go_sem]) rfl ⟨rfl, v', by rw [HF.out]; exact hq1⟩
end Go.Proofs.Ytmkppbcngpgkdab

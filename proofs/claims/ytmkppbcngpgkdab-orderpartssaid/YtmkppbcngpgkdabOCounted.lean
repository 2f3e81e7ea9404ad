/-
  counted, by a contract.
-/
import Derived.Test.YtmkppbcngpgkdabOCount
namespace Go.Proofs.Ytmkppbcngpgkdab
open Go.RowKit Go.Maps

/-- What counted tells. -/
def CountP (P : List (List Int)) (w : World) (e : Ending) (w' : World) : Prop :=
  ∃ mb N D, e = .returned (.map (some mb)) ∧ w.heap.size ≤ mb ∧ w'.ownsMap Try.prog 3 cntElem mb N D ∧ N ≤ 1000000 ∧ Ct P P.length 0 D ∧ Below w.heap.size w w'

set_option maxRecDepth 100000 in
set_option maxHeartbeats 8000000 in
theorem counted_any (P : List (List Int)) (p : Option Addr) (c : Nat) (w : World) (r : RdR (· < w.heap.size) w p c P) (hP : P.length ≤ 1000) (hl : ∀ x ∈ P, x.length ≤ 1000) (hw : ∀ x ∈ P, ∀ y ∈ x, wf64 y) :
    Calls Try.prog 13 #[.slice p P.length c] w (CountP P w) := by
  have hmm := @run_makeMap Try.prog
  have HL : Hid (∀ x ∈ P, x.length ≤ 1000) := hl
  have HW : Hid (∀ x ∈ P, ∀ y ∈ x, wf64 y) := hw
  obtain ⟨n, hn⟩ : ∃ n, P.length = n := ⟨_, rfl⟩
  have HN : Hid (P.length = n) := hn
  obtain ⟨B, hB⟩ : ∃ B, w.heap.size = B := ⟨_, rfl⟩
  have HB : Hid (w.heap.size = B) := hB
  have HR : Hid (RdR (· < B) w p c P) := by rw [← hB]; exact r
  rw [hn] at hP ⊢
  clear hl hw r hn
  go_enter Try.func13, Try.ntmps13
  go_wp2
  clear hmm
  have HS0 : Hid (Below B w (w.alloc (.map #[] 0))) := by rw [← hB]; exact (Below.refl _ _).alloc (Nat.le_refl _) _
  have HM0 : Hid ((w.alloc (.map #[] 0)).ownsMap Try.prog 3 cntElem B 0 (.map [])) := by rw [← hB]; exact World.ownsMap_made _ _ _ _
  clear hB
  go_loopw [12] (fun i wr => ∃ (k N : Nat) (D : DataW Unit), k ≤ n ∧ i = .int .i64 k ∧ N ≤ k * 1000 ∧ wr.ownsMap Try.prog 3 cntElem B N D ∧ Hid (Ct P k 0 D) ∧ Below B w wr) (fun i _ => n - (intOf i).toNat)
  case atStart => exact ⟨0, 0, .map [], Nat.zero_le _, rfl, by omega, HM0.out, Ct.start P, HS0.out⟩
  case round =>
    obtain ⟨k, N, D, hk, rfl, hN, hown, HC, hbl⟩ := hrel
    clear HS0 HM0
    by_cases hlt : k < n
    · obtain ⟨ad, p1, c1, rfl, _, hcell, hr⟩ := (HR.out.below hbl).at k (by rw [HN.out]; exact hlt)
      have hkP : P.getD k [] ∈ P := getD_inm (by rw [HN.out]; exact hlt)
      have hrl := HL.out _ hkP
      have HWk : Hid _ := HW.out _ hkP
      have HRr : Hid (∀ wx, Below B wr wx → RdI (· < B) wx p1 c1 (P.getD k [])) := fun wx hx => hr.below hx
      obtain ⟨m, hm⟩ : ∃ m, (P.getD k []).length = m := ⟨_, rfl⟩
      have HM : Hid ((P.getD k []).length = m) := hm
      rw [hm] at hcell hrl
      clear hm hr hkP
      obtain ⟨wrr, hwrr⟩ : ∃ x, x = wr := ⟨_, rfl⟩
      have HWR : Hid (wrr = wr) := hwrr
      rw [← hwrr] at HRr hbl
      clear hwrr
      go_wp2
      go_loopw [19] (fun i wx => ∃ (j N : Nat) (D : DataW Unit), j ≤ m ∧ i = .int .i64 j ∧ N ≤ k * 1000 + j ∧ wx.ownsMap Try.prog 3 cntElem B N D ∧ Hid (Ct P k j D) ∧ Below B wrr wx) (fun i _ => m - (intOf i).toNat)
      case atStart => exact ⟨0, N, D, Nat.zero_le _, rfl, by omega, hown, HC, by rw [HWR.out]; exact Below.refl _ _⟩
      case round =>
        clear hown HC hN hcell
        obtain ⟨j, N, D, hj, rfl, hN, hown, HC, hbl2⟩ := hrel
        have hkb : k * 1000 ≤ 1000 * 1000 := Nat.mul_le_mul_right _ (by omega)
        have hNm : N < maxLen := by unfold maxLen; omega
        clear hkb
        by_cases hjt : j < m
        · have hjm : j < (P.getD k []).length := by rw [HM.out]; exact hjt
          obtain ⟨ad, rfl, _, hcj⟩ := (HRr.out _ hbl2).at j 0 hjm
          have hwx := HWk.out _ (getD_inm (d := 0) hjm)
          have hfl := fj_le P k j ((P.getD k []).getD j 0)
          have HLk : Hid (∀ c : Int × Int, D.atKey (klI ((P.getD k []).getD j 0)) (cntD 0 0) = cntD c.1 c.2 → _) := fun c hc => HC.out.look hwx hc
          have HOld : Hid (_ → Ct P k (j + 1) D) := HC.out.old hjm
          have HNew : Hid (_ → Ct P k (j + 1) _) := HC.out.new hjm
          have HF0 : Hid (fj P k j ((P.getD k []).getD j 0) = 0 → (P.getD k []).getD j 0 ∉ (P.getD k []).take j) := fun h hm => by unfold fj at h; rw [if_pos hm] at h; omega
          generalize (P.getD k []).getD j 0 = x at *
          by_cases hf : fj P k j x = 0
          · rw [hf] at HLk HNew
            have HD : Hid (Ct P k (j + 1) (D.put (klI x) (cntD 1 k))) := HNew.out (HF0.out hf)
            clear HNew HOld HF0 HC hfl
            go_wp2_with (first
              | (at_lookup; refine wpList_lookup_cnt _ rfl _ _ rfl B N D rfl hown x hwx rfl ?_; intro c hat; obtain ⟨hc1, hc2⟩ := HLk.out c hat; clear hat hc2)
              | (at_mapUpdate; refine wpList_mapUpdate_own _ rfl _ _ _ 34 rfl 3 37 lawI Try.underlying34 cntElem B N D rfl ?a0 hNm _ (cntV (1, k)) (klI x) rfl ?a1 (keyI hwx) _ [] (cntElem_mk _) ?_))
            case a0 => exact hown.alloc _
            case a1 => rfl
            intro w1 hown1 hg1
            have hb1 : Below B wrr w1 := (hbl2.alloc (Nat.le_of_lt hown.lt) _).grown hg1 (by have := hown.lt; simp; omega) (fun k hk => by cases hk; exact Nat.le_refl _)
            clear hg1 hown
            go_wp2
            go_roundw
            case rel => exact ⟨j + 1, N + 1, _, by omega, by go_num, by omega, hown1, HD, hb1⟩
            case measure => simp [intOf]; omega
          · obtain ⟨y, hy⟩ : ∃ y, fj P k j x = y + 1 := ⟨fj P k j x - 1, by omega⟩
            rw [hy] at HLk HNew hfl
            clear HF0
            have hy0 : ((y : Int) + 1 == 0) = false := by rw [beq_eq_false_iff_ne]; omega
            by_cases hm : x ∈ (P.getD k []).take j
            · have HD : Hid (Ct P k (j + 1) D) := HOld.out hm
              have HM2 : Hid (x ∈ (P.getD k []).take j) := hm
              clear HNew HOld HC hm
              go_wp2_with (first
                | (at_lookup; refine wpList_lookup_cnt _ rfl _ _ rfl B N D rfl hown x hwx rfl ?_; intro c hat; obtain ⟨hc1, hc2⟩ := HLk.out c hat; have hc3 : c.2 = (k : Int) := Classical.byContradiction fun h => hc2.1 (.inr h) HM2.out; clear hat hc2))
              go_roundw
              case rel => exact ⟨j + 1, N, _, by omega, by go_num, by omega, hown.alloc _, HD, hbl2.alloc (Nat.le_of_lt hown.lt) _⟩
              case measure => simp [intOf]; omega
            · have HD : Hid (Ct P k (j + 1) (D.put (klI x) (cntD ((y : Int) + 1 + 1) k))) := HNew.out hm
              have HM2 : Hid (x ∉ (P.getD k []).take j) := hm
              clear HNew HOld HC hm
              go_wp2_with (first
                | (at_lookup; refine wpList_lookup_cnt _ rfl _ _ rfl B N D rfl hown x hwx rfl ?_; intro c hat; obtain ⟨hc1, hc2⟩ := HLk.out c hat; have hc3 : (c.2 == (k : Int)) = false := by { rw [beq_eq_false_iff_ne]; have := hc2.2 HM2.out; rcases this with h | h; { omega }; { exact h } }; clear hat hc2)
                | (at_mapUpdate; refine wpList_mapUpdate_own _ rfl _ _ _ 34 rfl 3 37 lawI Try.underlying34 cntElem B N D rfl ?a0 hNm _ (cntV ((y : Int) + 1 + 1, k)) (klI x) rfl ?a1 (keyI hwx) _ [] (cntElem_mk _) ?_))
              case a0 => exact hown.alloc _
              case a1 => rfl
              intro w1 hown1 hg1
              have hb1 : Below B wrr w1 := (hbl2.alloc (Nat.le_of_lt hown.lt) _).grown hg1 (by have := hown.lt; simp; omega) (fun k hk => by cases hk; exact Nat.le_refl _)
              clear hg1 hown
              go_wp2
              go_roundw
              case rel => exact ⟨j + 1, N + 1, _, by omega, by go_num, by omega, hown1, HD, hb1⟩
              case measure => simp [intOf]; omega
        · obtain rfl : j = m := by omega
          have HD : Hid (Ct P (k + 1) 0 D) := by
            have := HC.out
            rw [← HM.out] at this
            exact this.row (by rw [HN.out]; exact hlt)
          clear HC
          go_wp2
          go_roundw
          case rel => exact ⟨k + 1, N, D, by omega, by go_num, by omega, hown, HD, hbl.trans hbl2⟩
          case measure => simp [intOf]; omega
    · obtain rfl : k = n := by omega
      go_wp2
      go_ret
      exact ⟨B, N, D, rfl, by rw [HB.out]; exact Nat.le_refl _, hown, by have : k * 1000 ≤ 1000 * 1000 := Nat.mul_le_mul_right _ hP; omega, by rw [HN.out]; exact HC.out, by rw [HB.out]; exact hbl⟩
end Go.Proofs.Ytmkppbcngpgkdab

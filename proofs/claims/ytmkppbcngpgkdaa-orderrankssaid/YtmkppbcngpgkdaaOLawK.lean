/-
  OrderRanks, walked.
-/
import Derived.Test.YtmkppbcngpgkdaaOLawF
namespace Go.Proofs.Ytmkppbcngpgkdaa
open Go.RowKit Go.Maps

theorem none_at (m j : Nat) : (List.replicate m ([] : List Int)).getD j [] = [] := by
  rw [List.getD_eq_getElem?_getD, List.getElem?_replicate]
  split <;> rfl
theorem none_ins (n m : Nat) : insB n (List.replicate m []) = true := by
  unfold insB
  rw [List.all_eq_true]
  intro x hx
  rw [List.eq_of_mem_replicate hx]
  rfl
theorem none_lin (R : List Int) : ∃ L, linP (List.replicate R.length []) R = some L := by
  obtain ⟨L, hL⟩ := lin_back (Q := toQ (List.replicate R.length [])) (R := R) (fun i p hp => by
    have h1 : p ∈ par (toQ (List.replicate R.length [])) i := hp
    have h2 := (zs_mem _ _).2 h1
    rw [par_toQ (none_ins R.length R.length), none_at] at h2
    simp at h2)
  exact ⟨L, by rw [linP_ok (by simp) (none_ins _ _)]; exact hL⟩
theorem rows_none {w w1 : World} {m : Nat} (h : w1 = w.alloc (.cells (List.replicate m nilS).toArray 25)) : RdR (· < w1.heap.size) w1 (some ⟨w.heap.size, 0, none⟩) m (List.replicate m []) := by
  subst h
  refine ⟨by simp, fun j hj => ?_⟩
  rw [List.length_replicate] at hj
  rw [none_at]
  refine ⟨w.heap.size, 0, none, 0, rfl, by simp, ?_, Rd.nil _ _ _ _ _⟩
  rw [Nat.zero_add]
  exact cell_row (cur := List.replicate m nilS) (heap_alloc_new _ _) j _ (by rw [List.getElem?_replicate, if_pos hj]; rfl)

set_option maxRecDepth 100000 in
set_option maxHeartbeats 16000000 in
theorem orderRanks_any (R : List Int) (rp : Option Addr) (rc : Nat) (w : World) (rr : RdI (· < w.heap.size) w rp rc R) (hR : R.length ≤ 9223372036854775807) :
    Calls Try.prog 6 #[.slice rp R.length rc] w (TrueP w) := by
  by_cases hRl : R.length ≤ 40
  · obtain ⟨L, ho⟩ := none_lin R
    have HNx : Hid (∀ k, k + 1 < L.length → _) := fun k hk => first_next (k := k) ho hk
    have hLl := (linP_some ho).2.2.2
    rw [List.length_replicate] at hLl HNx
    have HRR : Hid (RdI (· < w.heap.size) w rp rc R) := rr
    have HLin : Hid (∀ w1 : World, Hid (w1 = w.alloc (.cells (List.replicate R.length nilS).toArray 25)) → Calls Try.prog 10 #[.slice (some ⟨w.heap.size, 0, none⟩) R.length R.length, .slice rp R.length rc] w1 fun e w' => ∃ v, e = .returned (.tuple #[v, .int .i64 0]) ∧ w'.ownsRow w.heap.size 3 1 v (zs L).length ((zs L).map (Value.int .i64)) ∧ Below w.heap.size w w') := by
      intro w1 hw1
      have hb1 : Below w.heap.size w w1 := by rw [hw1.out]; exact (Below.refl _ _).alloc (Nat.le_refl _) _
      have hrn := rows_none hw1.out
      have := linear_any (List.replicate R.length []) R (some ⟨w.heap.size, 0, none⟩) rp R.length rc w1 hrn ((HRR.out.below hb1).carry (fun _ _ => rfl) fun _ h => Nat.lt_of_lt_of_le h hb1.size) (by simp; omega) (fun x hx => by rw [List.eq_of_mem_replicate hx]; simp) (by omega)
      rw [ho, List.length_replicate] at this
      refine this.mono ?_
      rintro e w' ⟨v, he, hown, hb⟩
      exact ⟨v, he, own_le hown hb1.size, hb1.trans (hb.mono hb1.size)⟩
    have HZL : Hid ((zs L).length = R.length) := by show _ = _; rw [zs_len]; exact hLl
    rw [hLl] at HNx
    obtain ⟨n, hn⟩ : ∃ n, R.length = n := ⟨_, rfl⟩
    have HRP : Hid (R.length = n) := hn
    rw [hn] at HLin hRl HNx HZL ⊢
    clear rr ho hn hR hLl
    go_enter Try.func6, Try.ntmps6
    go_wp2_with (first
      | (refine wpList_rows rfl _ _ rfl n (by omega) rfl rfl ?_; intro w0 hw0; have hli := HLin.out w0 hw0; clear hw0)
      | (go_at_call 10; refine hli.mono ?_; rintro e w1 ⟨v1, rfl, ho1, hb1⟩; obtain ⟨q1, c1, rfl, hv1⟩ := own_view ho1; rw [HZL.out]; clear ho1 hli))
    have HV : Hid (∀ wx : World, wx.heap = w1.heap → RdI (fun k => w.heap.size ≤ k ∧ k < w1.heap.size) wx q1 c1 (zs L)) := fun wx hx => (hv1 w1 (Below.refl _ _)).same fun _ _ => by rw [hx]
    clear hv1
    go_loopw [5] (fun i wr => ∃ k : Nat, k ≤ n ∧ i = .int .i64 k ∧ wr.heap = w1.heap ∧ Keep (fun _ => False) w1 wr) (fun i _ => n - (intOf i).toNat)
    case atStart => exact ⟨0, Nat.zero_le _, rfl, rfl, Keep.refl _ _⟩
    case round =>
      obtain ⟨k, hk, rfl, hhp, hkp⟩ := hrel
      have HHP : Hid (wr.heap = w1.heap) := hhp
      clear hhp
      have hk1 : ∀ (wx : World) (k : Nat), Keep (fun _ => False) w1 wx → Keep (fun _ => False) w1 (wx.drewN k) := fun wx k h => ⟨h.os, h.tape, h.output, h.size, h.block⟩
      by_cases hlt : k + 1 < n
      · obtain ⟨g1, g2, g3⟩ := HNx.out k hlt
        have hS : Same (· < w.heap.size) w wr := fun j hj => by rw [HHP.out]; exact hb1.block j hj
        obtain ⟨bq, oq, e0, _, hcq⟩ := (HV.out wr HHP.out).2 (by intro e; have := HZL.out; rw [e] at this; simp at this; omega)
        subst e0
        have hca := hcq k ((zs L).getD k 0) (by rw [List.getElem?_eq_getElem (by rw [HZL.out]; omega), ← getD_in (d := 0)])
        have hcb := hcq (k + 1) ((zs L).getD (k + 1) 0) (by rw [List.getElem?_eq_getElem (by rw [HZL.out]; omega), ← getD_in (d := 0)])
        clear hcq
        rw [zs_getD] at hca hcb
        generalize L.getD k 0 = a at *
        generalize L.getD (k + 1) 0 = b at *
        rw [none_at] at g3
        have hg := g3.resolve_left (by simp)
        obtain ⟨ar, e0, _, cra⟩ := (HRR.out.same hS).at a 0 (by rw [HRP.out]; exact g1)
        subst e0
        obtain ⟨ar', e0, _, crb⟩ := (HRR.out.same hS).at b 0 (by rw [HRP.out]; exact g2)
        cases e0
        unfold Lt rk at hg
        have hki : (k : Int) < (n : Int) := by omega
        have hai : (a : Int) < (n : Int) := by omega
        have hbi : (b : Int) < (n : Int) := by omega
        have hkj : (k : Int) + 1 < (n : Int) := by omega
        have hkp0 : (0 : Int) ≤ (k : Int) + 1 := by omega
        have hkt : ((k : Int) + 1).toNat = k + 1 := by omega
        have hkw : IntKind.i64.wrap ((k : Int) + 1) = (k : Int) + 1 := by rw [IntKind.wrap_i64]; omega
        have a0 : decide ((a : Int) < 0) = false := by rw [decide_eq_false_iff_not]; omega
        have b0 : decide ((b : Int) < 0) = false := by rw [decide_eq_false_iff_not]; omega
        have an : decide ((n : Int) ≤ (a : Int)) = false := by rw [decide_eq_false_iff_not]; omega
        have bn : decide ((n : Int) ≤ (b : Int)) = false := by rw [decide_eq_false_iff_not]; omega
        clear hS g3
        generalize R.getD a 0 = x at *
        generalize R.getD b 0 = y at *
        by_cases hxy : x = y
        · subst hxy
          have hab : a < b := by omega
          have x0 : decide (x < x) = false := by rw [decide_eq_false_iff_not]; omega
          have ab : decide ((b : Int) ≤ (a : Int)) = false := by rw [decide_eq_false_iff_not]; omega
          clear hg
          go_wp2_with fail
          go_quiet (fail)
          go_wp2_with fail
          go_quiet (fail)
          go_wp2_with fail
          go_roundw
          case rel => exact ⟨k + 1, by omega, by go_num, HHP.out, by first | exact hk1 _ _ hkp | exact hk1 _ _ (hk1 _ _ hkp)⟩
          case measure => simp [intOf]; omega
        · have x0 : decide (y < x) = false := by rw [decide_eq_false_iff_not]; omega
          have x1 : (x == y) = false := by simpa using hxy
          clear hg
          go_wp2_with fail
          go_quiet (fail)
          go_wp2_with fail
          go_quiet (fail)
          go_wp2_with fail
          go_roundw
          case rel => exact ⟨k + 1, by omega, by go_num, HHP.out, by first | exact hk1 _ _ hkp | exact hk1 _ _ (hk1 _ _ hkp)⟩
          case measure => simp [intOf]; omega
      · have hb2 : Below w.heap.size w wr := hb1.trans (hkp.below hb1.size fun _ _ h => h)
        have hkn : decide ((k : Int) + 1 < (n : Int)) = false := by rw [decide_eq_false_iff_not]; omega
        go_wp2_with (first
          | (go_at_call 13; refine (awake_from hb2).mono ?_; rintro e w4 ⟨rfl, hb5⟩))
        go_ret
        exact ⟨rfl, hb5⟩
  · generalize R.length = m at *
    go_enter Try.func6, Try.ntmps6
    go_wp2
    go_ret
    exact ⟨rfl, Below.refl _ _⟩
end Go.Proofs.Ytmkppbcngpgkdaa

/-
  OrderBehind, walked.
-/
import Derived.Test.YtmkppbcngpgkdaaOLawL
namespace Go.Proofs.Ytmkppbcngpgkdaa
open Go.RowKit Go.Maps

theorem idx_take {l : List Int} {k : Nat} {x : Int} (h : x ∈ l.take k) : l.idxOf x < k := by
  have h1 := List.take_append_drop k l
  have h2 : (l.take k ++ l.drop k).idxOf x = (l.take k).idxOf x := by rw [List.idxOf_append, if_pos h]
  rw [h1] at h2
  have h3 := List.idxOf_lt_length_of_mem h
  rw [h2]
  have : (l.take k).length ≤ k := by rw [List.length_take]; omega
  omega
theorem linP_some {P : List (List Int)} {R : List Int} {L : List Nat} (h : linP P R = some L) : R.length = P.length ∧ insB P.length P = true ∧ Told (toQ P) R L ∧ L.length = P.length := by
  unfold linP at h
  split at h
  · rename_i hc
    have := lin_fit h
    rw [toQ_len] at this
    exact ⟨hc.1, hc.2, this.1, this.2⟩
  · cases h
/-- Each thing has a place, behind its parents'. -/
theorem behind {P : List (List Int)} {R : List Int} {L : List Nat} (h : linP P R = some L) {i : Nat} (hi : i < P.length) : 0 ≤ atZ i (zs L) ∧ ∀ x ∈ P.getD i [], 0 ≤ atZ x (zs L) ∧ atZ x (zs L) < atZ i (zs L) := by
  obtain ⟨_, hin, ht, hl⟩ := linP_some h
  have hiL : i ∈ L := nodup_all _ ht.nodup (fun x hx => by have := ht.lt x hx; rw [toQ_len] at this; exact this) (by omega) i hi
  have hiz : (i : Int) ∈ zs L := (zs_mem _ _).2 hiL
  have hk := List.idxOf_lt_length_of_mem hiz
  have hke : (zs L)[(zs L).idxOf (i : Int)] = (i : Int) := by simp
  have hkL : L[(zs L).idxOf (i : Int)]? = some i := by
    have h1 : (zs L)[(zs L).idxOf (i : Int)]? = some (i : Int) := by rw [List.getElem?_eq_getElem hk, hke]
    unfold zs at h1
    rw [List.getElem?_map] at h1
    unfold zs
    cases hc : L[(L.map fun (n : Nat) => (n : Int)).idxOf (i : Int)]? with
    | none => rw [hc] at h1; simp at h1
    | some y =>
      rw [hc] at h1
      simp at h1
      rw [show y = i by omega]
  unfold atZ
  rw [if_pos hiz]
  refine ⟨by omega, fun x hx => ?_⟩
  rw [← par_toQ hin i] at hx
  obtain ⟨p, hp, rfl⟩ := List.mem_map.1 hx
  have h2 := ht.pars _ i hkL p hp
  have h3 : ((p : Nat) : Int) ∈ (zs L).take ((zs L).idxOf (i : Int)) := by
    rw [show (zs L).take ((zs L).idxOf (i : Int)) = zs (L.take ((zs L).idxOf (i : Int))) by simp [zs, List.map_take]]
    exact (zs_mem _ _).2 h2
  have h4 := idx_take h3
  rw [if_pos (List.mem_of_mem_take h3)]
  omega

set_option maxRecDepth 100000 in
set_option maxHeartbeats 8000000 in
theorem orderBehind_any (P : List (List Int)) (R : List Int) (p rp : Option Addr) (c rc : Nat) (w : World) (r : RdR (· < w.heap.size) w p c P) (rr : RdI (· < w.heap.size) w rp rc R) (hP : P.length ≤ 9223372036854775807) (hl : ∀ x ∈ P, x.length ≤ 9223372036854775807) (hR : R.length ≤ 9223372036854775807) :
    Calls Try.prog 4 #[.slice p P.length c, .slice rp R.length rc] w (TrueP w) := by
  have hfew := few_any P p c w r hP hl
  cases hf : fewB P with
  | false =>
    rw [hf] at hfew
    clear r rr hl hf
    generalize P.length = n at *
    generalize R.length = m at *
    go_enter Try.func4, Try.ntmps4
    go_wp2_with (first
      | (go_at_call 9; refine hfew.mono ?_; rintro e w' ⟨rfl, rfl⟩))
    go_ret
    exact ⟨rfl, Below.refl _ _⟩
  | true =>
    rw [hf] at hfew
    obtain ⟨h1, h2⟩ := few_iff.1 hf
    by_cases hRl : R.length ≤ 50
    · have hli := linear_any P R p rp c rc w r rr (by omega) (fun x hx => by have := h2 x hx; omega) (by omega)
      cases ho : linP P R with
      | none =>
        rw [ho] at hli
        clear r rr hl hf h2 ho
        generalize P.length = n at *
        generalize R.length = m at *
        go_enter Try.func4, Try.ntmps4
        go_wp2_with (first
          | (go_at_call 9; refine hfew.mono ?_; rintro e w' ⟨rfl, rfl⟩)
          | (go_at_call 10; refine hli.mono ?_; rintro e w1 ⟨v1, rfl, ho1, hb1⟩; obtain ⟨q1, c1, rfl, _⟩ := own_view ho1; simp only [Option.getD_none, zs, List.map_nil, List.length_nil, Option.isSome_none, Bool.false_eq_true, if_false]; clear ho1)
          | (go_at_call 13; refine (awake_from hb1).mono ?_; rintro e w4 ⟨rfl, hb5⟩))
        go_ret
        exact ⟨rfl, hb5⟩
      | some L =>
        have HBh : Hid (∀ i, i < P.length → _) := fun i hi => behind (i := i) ho hi
        have hLl := (linP_some ho).2.2.2
        rw [ho] at hli
        unfold LinP at hli
        simp only [Option.getD_some, Option.isSome_some, if_true] at hli
        rw [zs_len] at hli
        have HR : Hid (RdR (· < w.heap.size) w p c P) := r
        have H2 : Hid (∀ x ∈ P, x.length ≤ 40) := h2
        obtain ⟨n, hn⟩ : ∃ n, P.length = n := ⟨_, rfl⟩
        have HN : Hid (P.length = n) := hn
        rw [hn] at hfew hli HBh h1 hLl ⊢
        rw [hLl] at hli
        have hzl : (zs L).length = n := by rw [zs_len]; exact hLl
        have HZL : Hid ((zs L).length = n) := hzl
        clear r rr hl hf h2 ho hn hP hLl hzl
        generalize R.length = m at *
        go_enter Try.func4, Try.ntmps4
        go_wp2_with (first
          | (go_at_call 9; refine hfew.mono ?_; rintro e w' ⟨rfl, rfl⟩)
          | (go_at_call 10; refine hli.mono ?_; rintro e w1 ⟨v1, rfl, ho1, hb1⟩; rw [← HZL.out] at ho1; obtain ⟨q1, c1, rfl, hv1⟩ := own_view ho1; rw [HZL.out]; clear ho1 hli))
        have HV : Hid (RdI (fun k => w.heap.size ≤ k ∧ k < w1.heap.size) w1 q1 c1 (zs L)) := hv1 w1 (Below.refl _ _)
        have hrd := HR.out.below hb1
        have HAt : Hid (∀ x : Int, Calls Try.prog 14 #[.int .i64 x, .slice q1 n c1] w1 fun e w' => e = .returned (.int .i64 (atZ x (zs L))) ∧ w1 = w') := fun x => by
          have := at_any x (zs L) q1 c1 w1 HV.out (by rw [HZL.out]; omega)
          rw [HZL.out] at this
          exact this
        have HAl : Hid (∀ x : Int, atZ x (zs L) ≤ n) := fun x => by
          unfold atZ
          split
          · rename_i hx
            have := List.idxOf_lt_length_of_mem hx
            rw [HZL.out] at this
            omega
          · omega
        clear hv1 HV
        go_loopw [7] (fun i wr => ∃ k : Nat, k ≤ n ∧ i = .int .i64 k ∧ wr = w1) (fun i _ => n - (intOf i).toNat)
        case atStart => exact ⟨0, Nat.zero_le _, rfl, rfl⟩
        case round =>
          obtain ⟨k, hk, rfl, rfl⟩ := hrel
          by_cases hlt : k < n
          · obtain ⟨hb0, hbx⟩ := HBh.out k hlt
            have hal := HAl.out (k : Int)
            have HBX : Hid _ := hbx
            obtain ⟨ad, p1, cc1, rfl, _, hcell, hr⟩ := hrd.at k (by rw [HN.out]; exact hlt)
            have hrl := H2.out _ (getD_inm (l := P) (j := k) (d := []) (by rw [HN.out]; exact hlt))
            have hat := HAt.out (k : Int)
            clear hbx
            generalize atZ (k : Int) (zs L) = a at *
            generalize P.getD k [] = row at *
            have d0 : decide (a < 0) = false := by rw [decide_eq_false_iff_not]; omega
            go_wp2_with (first
              | (go_at_call 14; refine hat.mono ?_; rintro e w' ⟨rfl, rfl⟩))
            go_loopw [9] (fun i wr' => ∃ j : Nat, j ≤ row.length ∧ i = .int .i64 j ∧ wr' = wr) (fun i _ => row.length - (intOf i).toNat)
            case atStart => exact ⟨0, Nat.zero_le _, rfl, rfl⟩
            case round =>
              obtain ⟨j, hj, rfl, rfl⟩ := hrel
              by_cases hjt : j < row.length
              · obtain ⟨ad2, rfl, _, hc1⟩ := hr.at j 0 hjt
                obtain ⟨g1, g2⟩ := HBX.out _ (getD_inm (d := 0) hjt)
                have hat2 := HAt.out (row.getD j 0)
                generalize row.getD j 0 = x at *
                generalize atZ x (zs L) = b at *
                have d1 : decide (b < 0) = false := by rw [decide_eq_false_iff_not]; omega
                have d2 : decide (a ≤ b) = false := by rw [decide_eq_false_iff_not]; omega
                go_wp2_with (first
                  | (go_at_call 14; refine hat2.mono ?_; rintro e w' ⟨rfl, rfl⟩))
                go_roundw
                case rel => exact ⟨j + 1, by omega, by go_num, by first | rfl | trivial⟩
                case measure => simp [intOf]; omega
              · obtain rfl : j = row.length := by omega
                go_wp2
                go_roundw
                case rel => exact ⟨k + 1, by omega, by go_num, by first | rfl | trivial⟩
                case measure => simp [intOf]; omega
          · obtain rfl : k = n := by omega
            go_wp2_with (first
              | (go_at_call 13; refine (awake_from hb1).mono ?_; rintro e w4 ⟨rfl, hb5⟩))
            go_ret
            exact ⟨rfl, hb5⟩
    · clear r rr hl hf h2
      generalize P.length = n at *
      generalize R.length = m at *
      go_enter Try.func4, Try.ntmps4
      go_wp2_with (first
        | (go_at_call 9; refine hfew.mono ?_; rintro e w' ⟨rfl, rfl⟩))
      go_ret
      exact ⟨rfl, Below.refl _ _⟩
end Go.Proofs.Ytmkppbcngpgkdaa

/-
  OrderFirst, walked.
-/
import Derived.Test.YtmkppbcngpgkdaaOLawB
import Derived.Deep.QuietTactic
namespace Go.Proofs.Ytmkppbcngpgkdaa
open Go.RowKit Go.Maps

theorem at_quiet {O : Nat → Prop} (x : Int) (l : List Int) (p : Option Addr) (c : Nat) (w : World) (r : RdI O w p c l) (hl : l.length ≤ 1000000) (n : Nat) :
    Calls Try.prog 14 #[.int .i64 x, .slice p l.length c] (w.drewN n) fun e w' => e = .returned (.int .i64 (atZ x l)) ∧ w' = w.drewN n :=
  (at_any x l p c (w.drewN n) (r.same (fun _ _ => rfl)) hl).mono fun _ _ h => ⟨h.1, h.2.symm⟩
/-- Of two neighbours the first is a parent of the second, or stands ahead of it. -/
theorem first_next {P : List (List Int)} {R : List Int} {L : List Nat} (h : linP P R = some L) {k : Nat} (hk : k + 1 < L.length) :
    L.getD k 0 < P.length ∧ L.getD (k + 1) 0 < P.length ∧ (((L.getD k 0 : Nat) : Int) ∈ P.getD (L.getD (k + 1) 0) [] ∨ Lt R (L.getD k 0) (L.getD (k + 1) 0)) := by
  obtain ⟨_, hin, ht, hl⟩ := linP_some h
  have hlt : ∀ x ∈ L, x < P.length := fun x hx => by have := ht.lt x hx; rw [toQ_len] at this; exact this
  refine ⟨hlt _ (getD_inm (by omega)), hlt _ (getD_inm hk), ?_⟩
  have := ht.next k _ _ (by rw [List.getElem?_eq_getElem (by omega)]) (by rw [List.getElem?_eq_getElem hk])
  rw [← getD_in (d := 0), ← getD_in (d := 0)] at this
  rcases this with h' | h'
  · left
    rw [← par_toQ hin]
    exact (zs_mem _ _).2 h'
  · exact .inr h'
theorem atZ_in {x : Int} {l : List Int} (h : x ∈ l) : 0 ≤ atZ x l ∧ atZ x l ≤ l.length := by
  unfold atZ
  rw [if_pos h]
  have := List.idxOf_lt_length_of_mem h
  omega
theorem atZ_out {x : Int} {l : List Int} (h : x ∉ l) : atZ x l = -1 := by unfold atZ; rw [if_neg h]

set_option maxRecDepth 100000 in
set_option maxHeartbeats 16000000 in
theorem orderFirst_any (P : List (List Int)) (R : List Int) (p rp : Option Addr) (c rc : Nat) (w : World) (r : RdR (· < w.heap.size) w p c P) (rr : RdI (· < w.heap.size) w rp rc R) (hP : P.length ≤ 9223372036854775807) (hl : ∀ x ∈ P, x.length ≤ 9223372036854775807) (hR : R.length ≤ 9223372036854775807) :
    Calls Try.prog 7 #[.slice p P.length c, .slice rp R.length rc] w (TrueP w) := by
  have hfew := few_any P p c w r hP hl
  cases hf : fewB P with
  | false =>
    rw [hf] at hfew
    clear r rr hl hf
    generalize P.length = n at *
    generalize R.length = m at *
    go_enter Try.func7, Try.ntmps7
    go_wp2_with (first
      | (go_at_call 9; refine hfew.mono ?_; rintro e w' ⟨rfl, rfl⟩))
    go_ret
    exact ⟨rfl, Below.refl _ _⟩
  | true =>
    rw [hf] at hfew
    obtain ⟨h1, h2⟩ := few_iff.1 hf
    by_cases hRl : R.length ≤ 50
    · have hli := linear_any P R p rp c rc w r rr (by omega) (fun x hx => by have := h2 x hx; omega) (by omega)
      cases ho : linP P R with
      | none =>
        rw [ho] at hli
        clear r rr hl hf h2 ho
        generalize P.length = n at *
        generalize R.length = m at *
        go_enter Try.func7, Try.ntmps7
        go_wp2_with (first
          | (go_at_call 9; refine hfew.mono ?_; rintro e w' ⟨rfl, rfl⟩)
          | (go_at_call 10; refine hli.mono ?_; rintro e w1 ⟨v1, rfl, ho1, hb1⟩; obtain ⟨q1, c1, rfl, _⟩ := own_view ho1; simp only [Option.getD_none, zs, List.map_nil, List.length_nil, Option.isSome_none, Bool.false_eq_true, if_false]; clear ho1)
          | (go_at_call 13; refine (awake_from hb1).mono ?_; rintro e w4 ⟨rfl, hb5⟩))
        go_ret
        exact ⟨rfl, hb5⟩
      | some L =>
        have HNx : Hid (∀ k, k + 1 < L.length → _) := fun k hk => first_next (k := k) ho hk
        have hLl := (linP_some ho).2.2.2
        have hRP := (linP_some ho).1
        rw [ho] at hli
        unfold LinP at hli
        simp only [Option.getD_some, Option.isSome_some, if_true] at hli
        rw [zs_len] at hli
        have HR : Hid (RdR (· < w.heap.size) w p c P) := r
        have HRR : Hid (RdI (· < w.heap.size) w rp rc R) := rr
        have H2 : Hid (∀ x ∈ P, x.length ≤ 40) := h2
        obtain ⟨n, hn⟩ : ∃ n, P.length = n := ⟨_, rfl⟩
        have HN : Hid (P.length = n) := hn
        rw [hn] at hfew hli HNx h1 hLl hRP ⊢
        rw [hLl] at hli HNx
        have HRP : Hid (R.length = n) := hRP
        rw [hRP] at hli hRl ⊢
        have HLL : Hid (L.length = n) := hLl
        have HZL : Hid ((zs L).length = n) := by show _ = _; rw [zs_len]; exact hLl
        clear r rr hl hf h2 ho hn hP hLl hRP hR
        go_enter Try.func7, Try.ntmps7
        go_wp2_with (first
          | (go_at_call 9; refine hfew.mono ?_; rintro e w' ⟨rfl, rfl⟩)
          | (go_at_call 10; refine hli.mono ?_; rintro e w1 ⟨v1, rfl, ho1, hb1⟩; rw [← HZL.out] at ho1; obtain ⟨q1, c1, rfl, hv1⟩ := own_view ho1; rw [HZL.out]; clear ho1 hli))
        have HV : Hid (∀ wx : World, wx.heap = w1.heap → RdI (fun k => w.heap.size ≤ k ∧ k < w1.heap.size) wx q1 c1 (zs L)) := fun wx hx => (hv1 w1 (Below.refl _ _)).same fun _ _ => by rw [hx]
        clear hv1
        go_loopw [7] (fun i wr => ∃ k : Nat, k ≤ n ∧ i = .int .i64 k ∧ wr.heap = w1.heap ∧ Keep (fun _ => False) w1 wr) (fun i _ => n - (intOf i).toNat)
        case atStart => exact ⟨0, Nat.zero_le _, rfl, rfl, Keep.refl _ _⟩
        case round =>
          obtain ⟨k, hk, rfl, hhp, hkp⟩ := hrel
          have HHP : Hid (wr.heap = w1.heap) := hhp
          clear hhp
          have hk1 : ∀ (wx : World) (k : Nat), Keep (fun _ => False) w1 wx → Keep (fun _ => False) w1 (wx.drewN k) := fun wx k h => ⟨h.os, h.tape, h.output, h.size, h.block⟩
          by_cases hlt : k + 1 < n
          · obtain ⟨g1, g2, g3⟩ := HNx.out k hlt
            have HG : Hid _ := g3
            have hS : Same (· < w.heap.size) w wr := fun j hj => by rw [HHP.out]; exact hb1.block j hj
            obtain ⟨bq, oq, e0, _, hcq⟩ := (HV.out wr HHP.out).2 (by intro e; have := HZL.out; rw [e] at this; simp at this; omega)
            subst e0
            have hca := hcq k ((zs L).getD k 0) (by rw [List.getElem?_eq_getElem (by rw [HZL.out]; omega), ← getD_in (d := 0)])
            have hcb := hcq (k + 1) ((zs L).getD (k + 1) 0) (by rw [List.getElem?_eq_getElem (by rw [HZL.out]; omega), ← getD_in (d := 0)])
            clear hcq
            rw [zs_getD] at hca hcb
            clear g3
            generalize L.getD k 0 = a at *
            generalize L.getD (k + 1) 0 = b at *
            obtain ⟨adp, p1, cc1, rfl, _, hcell, hr⟩ := (HR.out.carry hS fun _ h => h).at b (by rw [HN.out]; exact g2)
            have hrl := H2.out _ (getD_inm (l := P) (j := b) (d := []) (by rw [HN.out]; exact g2))
            obtain ⟨ar, e0, _, cra⟩ := (HRR.out.same hS).at a 0 (by rw [HRP.out]; exact g1)
            subst e0
            obtain ⟨ar', e0, _, crb⟩ := (HRR.out.same hS).at b 0 (by rw [HRP.out]; exact g2)
            cases e0
            have HQ1 : Hid (∀ m, Calls Try.prog 14 #[.int .i64 (a : Int), .slice p1 (P.getD b []).length cc1] (wr.drewN m) fun e w' => e = .returned (.int .i64 (atZ a (P.getD b []))) ∧ w' = wr.drewN m) := fun m => at_quiet (a : Int) (P.getD b []) p1 cc1 wr hr (by omega) m
            unfold Lt rk at HG
            have HAin : Hid ((a : Int) ∈ P.getD b [] → _) := atZ_in (x := (a : Int)) (l := P.getD b [])
            have HAout : Hid ((a : Int) ∉ P.getD b [] → _) := atZ_out (x := (a : Int)) (l := P.getD b [])
            have hki : (k : Int) < (n : Int) := by omega
            have hai : (a : Int) < (n : Int) := by omega
            have hbi : (b : Int) < (n : Int) := by omega
            have hkj : (k : Int) + 1 < (n : Int) := by omega
            have hkp0 : (0 : Int) ≤ (k : Int) + 1 := by omega
            have hkt : ((k : Int) + 1).toNat = k + 1 := by omega
            have hkw : IntKind.i64.wrap ((k : Int) + 1) = (k : Int) + 1 := by rw [IntKind.wrap_i64]; omega
            have a0 : decide ((a : Int) < 0) = false := by rw [decide_eq_false_iff_not]; omega
            have b0 : decide ((b : Int) < 0) = false := by rw [decide_eq_false_iff_not]; omega
            have an : decide ((n : Int) ≤ (a : Int)) = false := by rw [decide_eq_false_iff_not]; omega
            have bn : decide ((n : Int) ≤ (b : Int)) = false := by rw [decide_eq_false_iff_not]; omega
            clear hr hS
            generalize P.getD b [] = row at *
            generalize R.getD a 0 = x at *
            generalize R.getD b 0 = y at *
            by_cases hm : (a : Int) ∈ row
            · obtain ⟨hz0, hz1⟩ := HAin.out hm
              clear HAin HAout HG hm
              generalize atZ (a : Int) row = z at *
              have z0 : decide (z < 0) = false := by rw [decide_eq_false_iff_not]; omega
              go_wp2_with fail
              go_quiet (fail)
              go_wp2_with fail
              go_quiet ((go_at_call 14; exact (HQ1.out _).mono fun _ _ h => ⟨h.1, _, h.2⟩))
              go_wp2_with fail
              go_roundw
              case rel => exact ⟨k + 1, by omega, by go_num, HHP.out, by first | exact hk1 _ _ hkp | exact hk1 _ _ (hk1 _ _ hkp)⟩
              case measure => simp [intOf]; omega
            · have hz := HAout.out hm
              rw [hz] at HQ1
              have hg := HG.out.resolve_left hm
              clear HAin HAout HG hm hz
              by_cases hxy : x = y
              · subst hxy
                have hab : a < b := by omega
                have x0 : decide (x < x) = false := by rw [decide_eq_false_iff_not]; omega
                have ab : decide ((b : Int) < (a : Int)) = false := by rw [decide_eq_false_iff_not]; omega
                clear hg
                go_wp2_with fail
                go_quiet (fail)
                go_wp2_with fail
                go_quiet ((go_at_call 14; exact (HQ1.out _).mono fun _ _ h => ⟨h.1, _, h.2⟩))
                go_wp2_with fail
                go_roundw
                case rel => exact ⟨k + 1, by omega, by go_num, HHP.out, by first | exact hk1 _ _ hkp | exact hk1 _ _ (hk1 _ _ hkp)⟩
                case measure => simp [intOf]; omega
              · have x0 : decide (y < x) = false := by rw [decide_eq_false_iff_not]; omega
                have x1 : (x == y) = false := by simpa using hxy
                clear hg
                go_wp2_with fail
                go_quiet (fail)
                go_wp2_with fail
                go_quiet ((go_at_call 14; exact (HQ1.out _).mono fun _ _ h => ⟨h.1, _, h.2⟩))
                go_wp2_with fail
                go_roundw
                case rel => exact ⟨k + 1, by omega, by go_num, HHP.out, by first | exact hk1 _ _ hkp | exact hk1 _ _ (hk1 _ _ hkp)⟩
                case measure => simp [intOf]; omega
          · have hb2 : Below w.heap.size w wr := hb1.trans (hkp.below hb1.size fun _ _ h => h)
            have hkn : decide ((k : Int) + 1 < (n : Int)) = false := by rw [decide_eq_false_iff_not]; omega
            go_wp2_with (first
              | (go_at_call 13; refine (awake_from hb2).mono ?_; rintro e w4 ⟨rfl, hb5⟩))
            go_ret
            exact ⟨rfl, hb5⟩
    · clear r rr hl hf h2
      generalize P.length = n at *
      generalize R.length = m at *
      go_enter Try.func7, Try.ntmps7
      go_wp2_with (first
        | (go_at_call 9; refine hfew.mono ?_; rintro e w' ⟨rfl, rfl⟩))
      go_ret
      exact ⟨rfl, Below.refl _ _⟩
end Go.Proofs.Ytmkppbcngpgkdaa

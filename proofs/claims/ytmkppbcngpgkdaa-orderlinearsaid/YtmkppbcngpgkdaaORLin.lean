/-
  The document's Linear, by the same contract.
-/
import Derived.Test.YtmkppbcngpgkdaaOLinear
import Derived.Test.YtmkppbcngpgkdaaORef
import Derived.Deep.QuietTactic
namespace Go.Proofs.Ytmkppbcngpgkdaa
open Go.RowKit Go.Maps

theorem same_drewN (O : Nat → Prop) (w : World) (n : Nat) : Same O w (w.drewN n) := fun _ _ => rfl
theorem has_quiet {O : Nat → Prop} (x : Int) (l : List Int) (p : Option Addr) (c : Nat) (w : World) (r : RdI O w p c l) (hl : l.length ≤ 1000000) (n : Nat) :
    Calls Try.prog 26 #[.int .i64 x, .slice p l.length c] (w.drewN n) fun e w' => e = .returned (.bool (decide (x ∈ l))) ∧ w' = w.drewN n :=
  (has_any x l p c (w.drewN n) (r.same (same_drewN O w n)) hl).mono fun _ _ h => ⟨h.1, h.2.symm⟩
theorem ready_quiet {O : Nat → Prop} (q l : List Int) (p p' : Option Addr) (c c' : Nat) (w : World) (r : RdI O w p c q) (r' : RdI O w p' c' l) (hq : q.length ≤ 1000000) (hl : l.length ≤ 1000000) (n : Nat) :
    Calls Try.prog 27 #[.slice p q.length c, .slice p' l.length c'] (w.drewN n) fun e w' => e = .returned (.bool (decide (∀ x ∈ q, x ∈ l))) ∧ w' = w.drewN n :=
  (ready_any q l p p' c c' (w.drewN n) (r.same (same_drewN O w n)) (r'.same (same_drewN O w n)) hq hl).mono fun _ _ h => ⟨h.1, h.2.symm⟩
def bestV : Option Nat → Int
  | none => -1
  | some b => b
theorem best_no {Q : List (List Nat)} {R : List Int} {T : List Nat} {i : Nat} (h : ¬ Rdy Q T i) : bestTo Q R T (i + 1) = bestTo Q R T i := by
  rw [bestTo]
  cases bestTo Q R T i with
  | none => simp only; rw [if_neg h]
  | some b => simp only; rw [if_neg fun h' => h h'.1]
theorem best_first {Q : List (List Nat)} {R : List Int} {T : List Nat} {i : Nat} (h : Rdy Q T i) (hb : bestTo Q R T i = none) : bestTo Q R T (i + 1) = some i := by
  rw [bestTo, hb]
  simp only
  rw [if_pos h]
theorem best_less {Q : List (List Nat)} {R : List Int} {T : List Nat} {i b : Nat} (h : Rdy Q T i) (hb : bestTo Q R T i = some b) (hr : rk R i < rk R b) : bestTo Q R T (i + 1) = some i := by
  rw [bestTo, hb]
  simp only
  rw [if_pos ⟨h, hr⟩]
theorem best_more {Q : List (List Nat)} {R : List Int} {T : List Nat} {i b : Nat} (hb : bestTo Q R T i = some b) (hr : ¬ rk R i < rk R b) : bestTo Q R T (i + 1) = some b := by
  rw [bestTo, hb]
  simp only
  rw [if_neg fun h => hr h.2]
theorem rdy_zs {Q : List (List Nat)} {T : List Nat} {i : Nat} : (∀ x ∈ zs (par Q i), x ∈ zs T) ↔ ∀ p ∈ par Q i, p ∈ T := by
  constructor
  · intro h p hp
    exact (zs_mem _ _).1 (h p ((zs_mem _ _).2 hp))
  · intro h x hx
    obtain ⟨p, hp, rfl⟩ := List.mem_map.1 hx
    exact (zs_mem _ _).2 (h p hp)

set_option maxHeartbeats 4000000 in
theorem rlinear_len (P : List (List Int)) (R : List Int) (p rp : Option Addr) (c rc : Nat) (w : World) (hne : R.length ≠ P.length) (_hP : P.length ≤ 1000) (_hR : R.length ≤ 1000) :
    Calls Try.prog 11 #[.slice p P.length c, .slice rp R.length rc] w (LinP (linP P R) w) := by
  rw [linP_len hne]
  generalize P.length = n at *
  generalize R.length = m at *
  have hne' : ((m : Int) == (n : Int)) = false := by rw [beq_eq_false_iff_ne]; omega
  go_enter Try.func11, Try.ntmps11
  go_wp2
  go_ret2
  exact ⟨_, rfl, World.ownsRow_nil _ _ _ _, Below.refl _ _⟩

set_option maxRecDepth 100000 in
set_option maxHeartbeats 16000000 in
theorem rlinear_eq (P : List (List Int)) (R : List Int) (p rp : Option Addr) (c rc : Nat) (w : World) (he : R.length = P.length) (r : RdR (· < w.heap.size) w p c P) (rr : RdI (· < w.heap.size) w rp rc R) (hP : P.length ≤ 900) (hl : ∀ x ∈ P, x.length ≤ 1000) :
    Calls Try.prog 11 #[.slice p P.length c, .slice rp R.length rc] w (LinP (linP P R) w) := by
  have HL : Hid (∀ x ∈ P, x.length ≤ 1000) := hl
  have HE : Hid (R.length = P.length) := he
  rw [he]
  obtain ⟨n, hn⟩ : ∃ n, P.length = n := ⟨_, rfl⟩
  have HN : Hid (P.length = n) := hn
  have HI : Hid (insB n P = false → linP P R = none) := fun h => linP_ins (by rw [hn]; exact h)
  have HIt : Hid (insB n P = true → linP P R = lin (toQ P) R) := fun h => linP_ok HE.out (by rw [hn]; exact h)
  rw [hn] at hP ⊢
  obtain ⟨B, hB⟩ : ∃ B, w.heap.size = B := ⟨_, rfl⟩
  have HB : Hid (w.heap.size = B) := hB
  rw [hB] at r rr
  clear hn he hl hB
  go_enter Try.func11, Try.ntmps11
  go_wp2
  go_loopw [7] (fun i wr => ∃ k : Nat, k ≤ n ∧ i = .int .i64 k ∧ wr = w ∧ Hid ((P.take k).all (rowB n) = true)) (fun i _ => n - (intOf i).toNat)
  case atStart => exact ⟨0, Nat.zero_le _, rfl, rfl, by show _ = _; simp⟩
  case round =>
    obtain ⟨k, hk, rfl, rfl, HA⟩ := hrel
    by_cases hlt : k < n
    · obtain ⟨ad, p1, c1, rfl, _, hcell, hr⟩ := r.at k (by rw [HN.out]; exact hlt)
      have hrl := HL.out _ (getD_inm (l := P) (j := k) (d := []) (by rw [HN.out]; exact hlt))
      have HT := all_next (rowB n) P k [] (by rw [HN.out]; exact hlt)
      have HB1 : Hid (rowB n (P.getD k []) = false → insB n P = false) := fun h => all_bad (by rw [HN.out]; exact hlt) h
      rw [HA.out, Bool.true_and] at HT
      have HT' : Hid _ := HT
      clear HT HA
      generalize P.getD k [] = row at *
      go_wp2
      go_loopw [8] (fun i wx => ∃ j : Nat, j ≤ row.length ∧ i = .int .i64 j ∧ wx = wr ∧ Hid ((row.take j).all (fun p => decide (0 ≤ p ∧ p < (n : Int))) = true)) (fun i _ => row.length - (intOf i).toNat)
      case atStart => exact ⟨0, Nat.zero_le _, rfl, rfl, by show _ = _; simp⟩
      case round =>
        obtain ⟨j, hj, rfl, rfl, HA⟩ := hrel
        by_cases hjt : j < row.length
        · obtain ⟨ad, rfl, _, hc1⟩ := hr.at j 0 hjt
          have HT2 : Hid _ := all_next (fun p => decide (0 ≤ p ∧ p < (n : Int))) row j 0 hjt
          have HB2 : Hid ((decide (0 ≤ row.getD j 0 ∧ row.getD j 0 < (n : Int))) = false → rowB n row = false) := fun h => all_bad (d := 0) hjt h
          generalize row.getD j 0 = x at *
          by_cases h0 : x < 0
          · have d0 : decide (x < 0) = true := decide_eq_true h0
            have HF : Hid (linP P R = none) := HI.out (HB1.out (HB2.out (by simp; omega)))
            go_wp2
            go_ret2
            exact ⟨_, by rw [HF.out]; rfl, by rw [HF.out]; exact World.ownsRow_nil _ _ _ _, Below.refl _ _⟩
          · have d0 : decide (x < 0) = false := decide_eq_false h0
            by_cases h1 : (n : Int) ≤ x
            · have HF : Hid (linP P R = none) := HI.out (HB1.out (HB2.out (by simp; omega)))
              go_wp2
              go_ret2
              exact ⟨_, by rw [HF.out]; rfl, by rw [HF.out]; exact World.ownsRow_nil _ _ _ _, Below.refl _ _⟩
            · go_wp2
              go_roundw
              case rel => exact ⟨j + 1, by omega, by go_num, by first | rfl | trivial, by show _ = _; rw [HT2.out, HA.out]; simp; omega⟩
              case measure => simp [intOf]; omega
        · obtain rfl : j = row.length := by omega
          rw [List.take_length] at HA
          go_wp2
          go_roundw
          case rel => exact ⟨k + 1, by omega, by go_num, by first | rfl | trivial, HT'.out.trans HA.out⟩
          case measure => simp [intOf]; omega
    · obtain rfl : k = n := by omega
      have hins : insB k P = true := by
        have := HA.out
        rw [← HN.out, List.take_length] at this
        rw [← HN.out]
        exact this
      have HF : Hid (linP P R = lin (toQ P) R) := HIt.out hins
      have hq := toQ_zs hins
      have HPl : Hid (∀ i, (par (toQ P) i).length ≤ 1000) := par_len hins HL.out
      have hQl := toQ_len P
      rw [HN.out] at hQl
      have HQl : Hid ((toQ P).length = k) := hQl
      rw [← hq] at r
      clear hq hQl hlt HA hins HI HIt HL
      generalize toQ P = Q at *
      have HR : Hid (RdR (· < B) wr p c (Q.map zs)) := r
      have HRR : Hid (RdI (· < B) wr rp rc R) := rr
      clear r rr
      obtain ⟨w0, hw0⟩ : ∃ w0, wr = w0 := ⟨_, rfl⟩
      have HW0 : Hid (wr = w0) := hw0
      have hb0 : Below B w0 wr := by rw [hw0]; exact Below.refl _ _
      rw [hw0] at HR HRR HB
      have HG : Hid (LinP (linP P R) wr = LinP (lin Q R) w0) := by show _ = _; rw [hw0, HF.out]
      clear hw0 HF
      go_wp2
      go_loopw [9] (fun tv wx => ∃ T : List Nat, wx.ownsRow B 3 1 tv (zs T).length ((zs T).map (Value.int .i64)) ∧ Below B w0 wx ∧ T.length ≤ k ∧ Hid (lin Q R = linTo Q R (k - T.length) T)) (fun tv _ => k - lenV tv)
      case atStart => exact ⟨[], World.ownsRow_nil _ _ _ _, hb0, Nat.zero_le _, by show _ = _; rw [← HQl.out]; rfl⟩
      case round =>
        clear hb0
        obtain ⟨T, hown, hbl, hTk, HLn⟩ := hrel
        obtain ⟨q, cq, htv, hrd⟩ := own_rd hown
        rw [zs_len] at htv
        subst htv
        by_cases hT : T.length < k
        · have HRD : Hid (∀ wx, wx.heap = wr.heap → RdI (· < wr.heap.size) wx q cq (zs T)) := fun wx hx => (hrd.carry (fun _ _ => by rw [hx]) fun k e => (hown.lt k e).2)
          have hzl : (zs T).length ≤ 1000000 := by rw [zs_len]; omega
          have HS1 : Hid (∀ b, bestTo Q R T k = some b → lin Q R = linTo Q R (k - (T.length + 1)) (T ++ [b])) := fun b hb => by
            rw [HLn.out, show k - T.length = k - (T.length + 1) + 1 by omega, linTo_step (by rw [HQl.out]; exact hb)]
          have HS2 : Hid (bestTo Q R T k = none → lin Q R = none) := fun hb => by
            rw [HLn.out, show k - T.length = k - (T.length + 1) + 1 by omega, linTo_stuck (by rw [HQl.out]; exact hb)]
          obtain ⟨w5, hw5⟩ : ∃ w5, wr = w5 := ⟨_, rfl⟩
          have HW5 : Hid (wr = w5) := hw5
          rw [hw5] at hown hbl HRD hrd
          clear HLn hw5 hrd
          go_wp2
          go_loopw [10, 11] (fun bv iv wx => ∃ (i : Nat) (bo : Option Nat), i ≤ k ∧ iv = .int .i64 i ∧ bv = .int .i64 (bestV bo) ∧ wx.heap = w5.heap ∧ Keep (fun _ => False) w5 wx ∧ Hid (bestTo Q R T i = bo)) (fun _ iv _ => k - (intOf iv).toNat)
          case atStart => exact ⟨0, none, Nat.zero_le _, rfl, rfl, by rw [HW5.out], by rw [HW5.out]; exact Keep.refl _ _, rfl⟩
          case round =>
            obtain ⟨i, bo, hi, rfl, rfl, hhp, hkp, HBt⟩ := hrel
            have HHP : Hid (wr.heap = w5.heap) := hhp
            have hk1 : ∀ (wx : World) (k : Nat), Keep (fun _ => False) w5 wx → Keep (fun _ => False) w5 (wx.drewN k) := fun wx k h => ⟨h.os, h.tape, h.output, h.size, h.block⟩
            clear hhp
            by_cases hik : i < k
            · have hS : Same (· < B) w0 wr := fun j hj => by rw [HHP.out]; exact hbl.block j hj
              obtain ⟨ad, p1, c1, rfl, _, hcell, hr⟩ := (HR.out.carry hS fun _ h => h).at i (by rw [List.length_map, HQl.out]; exact hik)
              rw [rows_at] at hcell hr
              rw [zs_len] at hcell
              have hpl := HPl.out i
              have hBs : B ≤ wr.heap.size := by have := hbl.size; rw [HB.out] at this; rw [HHP.out]; exact this
              have HHs : Hid (∀ n, _) := has_quiet (i : Int) (zs T) q cq wr (HRD.out wr HHP.out) hzl
              have HRy : Hid (∀ n, _) := ready_quiet (zs (par Q i)) (zs T) p1 q c1 cq wr (hr.carry (fun _ _ => rfl) fun j hj => by rw [← HHP.out]; omega) (HRD.out wr HHP.out) (by rw [zs_len]; omega) hzl
              rw [zs_len] at HHs HRy
              rw [zs_len] at HRy
              have HNo : Hid (¬ Rdy Q T i → bestTo Q R T (i + 1) = bo) := fun h => (best_no h).trans HBt.out
              clear hr hS
              by_cases h1 : i ∈ T
              · have HN1 : Hid (bestTo Q R T (i + 1) = bo) := HNo.out fun h => h.1 h1
                rw [decide_eq_true ((zs_mem _ _).2 h1)] at HHs
                clear HNo HRy h1
                go_wp2_with fail
                go_quiet ((go_at_call 26; exact Calls.quiet_of_same (HHs.out _)))
                go_wp2_with fail
                go_roundw
                case rel => exact ⟨i + 1, bo, by omega, by go_num, rfl, HHP.out, hk1 _ _ hkp, HN1⟩
                case measure => simp [intOf]; omega
              · rw [decide_eq_false (fun h => h1 ((zs_mem _ _).1 h))] at HHs
                by_cases h2 : ∀ p ∈ par Q i, p ∈ T
                · have HRdy : Hid (Rdy Q T i) := ⟨h1, h2⟩
                  rw [decide_eq_true (rdy_zs.2 h2)] at HRy
                  clear HNo h1 h2
                  cases bo with
                  | none =>
                    have HN1 : Hid (bestTo Q R T (i + 1) = some i) := best_first HRdy.out HBt.out
                    clear HRdy HBt
                    unfold bestV
                    go_wp2_with fail
                    go_quiet ((first | (go_at_call 26; exact Calls.quiet_of_same (HHs.out _)) | (go_at_call 27; exact Calls.quiet_of_same (HRy.out _))))
                    go_wp2_with fail
                    go_roundw
                    case rel => exact ⟨i + 1, some i, by omega, by go_num, rfl, HHP.out, hk1 _ _ hkp, HN1⟩
                    case measure => simp [intOf]; omega
                  | some b =>
                    have hbk : b < i := (bestTo_some HBt.out).1
                    have hRl : R.length = k := by rw [← HN.out]; exact HE.out
                    have hSr : Same (· < B) w0 wr := fun j hj => by rw [HHP.out]; exact hbl.block j hj
                    obtain ⟨ar, rfl, _, ci⟩ := (HRR.out.same hSr).at i 0 (by omega)
                    obtain ⟨ar', e, _, cb⟩ := (HRR.out.same hSr).at b 0 (by omega)
                    cases e
                    have HLs : Hid (rk R i < rk R b → bestTo Q R T (i + 1) = some i) := fun h => best_less HRdy.out HBt.out h
                    have HMr : Hid (¬ rk R i < rk R b → bestTo Q R T (i + 1) = some b) := fun h => best_more HBt.out h
                    unfold rk at HLs HMr
                    generalize R.getD i 0 = x at *
                    generalize R.getD b 0 = y at *
                    have hb0 : decide ((b : Int) < 0) = false := by rw [decide_eq_false_iff_not]; omega
                    clear hRl hSr HRdy HBt
                    unfold bestV
                    by_cases hxy : x < y
                    · have HN1 : Hid _ := HLs.out hxy
                      clear HLs HMr
                      go_wp2_with fail
                      go_quiet ((first | (go_at_call 26; exact Calls.quiet_of_same (HHs.out _)) | (go_at_call 27; exact Calls.quiet_of_same (HRy.out _))))
                      go_wp2_with fail
                      go_roundw
                      case rel => exact ⟨i + 1, some i, by omega, by go_num, rfl, HHP.out, hk1 _ _ hkp, HN1⟩
                      case measure => simp [intOf]; omega
                    · have hxy' : decide (x < y) = false := decide_eq_false hxy
                      have HN1 : Hid _ := HMr.out hxy
                      clear HLs HMr
                      go_wp2_with fail
                      go_quiet ((first | (go_at_call 26; exact Calls.quiet_of_same (HHs.out _)) | (go_at_call 27; exact Calls.quiet_of_same (HRy.out _))))
                      go_wp2_with fail
                      go_roundw
                      case rel => exact ⟨i + 1, some b, by omega, by go_num, rfl, HHP.out, hk1 _ _ hkp, HN1⟩
                      case measure => simp [intOf]; omega
                · have HN1 : Hid (bestTo Q R T (i + 1) = bo) := HNo.out fun h => h2 h.2
                  rw [decide_eq_false (fun h => h2 (rdy_zs.1 h))] at HRy
                  clear HNo h1 h2
                  go_wp2_with fail
                  go_quiet ((first | (go_at_call 26; exact Calls.quiet_of_same (HHs.out _)) | (go_at_call 27; exact Calls.quiet_of_same (HRy.out _))))
                  go_wp2_with fail
                  go_roundw
                  case rel => exact ⟨i + 1, bo, by omega, by go_num, rfl, HHP.out, hk1 _ _ hkp, HN1⟩
                  case measure => simp [intOf]; omega
            · obtain rfl : i = k := by omega
              have hbl2 : Below B w0 wr := hbl.trans (hkp.below (by have := hbl.size; rw [HB.out] at this; omega) fun _ _ h => h)
              have hown2 : wr.ownsRow B 3 1 (.slice q T.length cq) (zs T).length ((zs T).map (Value.int .i64)) := own_same hown fun _ _ => by rw [HHP.out]
              clear hown hbl hkp hk1
              cases bo with
              | none =>
                have HF : Hid (lin Q R = none) := HS2.out HBt.out
                unfold bestV
                go_wp2
                go_ret2
                rw [HG.out]
                exact ⟨_, by rw [HF.out]; rfl, by rw [HF.out]; exact World.ownsRow_nil _ _ _ _, by rw [HB.out]; exact hbl2⟩
              | some b =>
                have HF : Hid _ := HS1.out b HBt.out
                have hbB := hbl2.size
                rw [HB.out] at hbB
                have hb0 : decide ((b : Int) < 0) = false := by rw [decide_eq_false_iff_not]; omega
                have hb1 : ¬ ((b : Int) < 0) := by omega
                unfold bestV
                go_wp2_with (first
                  | (at_builtin; refine wpList_push rfl (.tmp 90) (.tmp 92) 25 3 (.int .i64 0) 8 rfl Try.underlying25 Try.info3 rfl (by decide) int_one B _ (zs T) rfl ?a0 _ (b : Int) rfl ?a1 ?a2 ?a3 ?_))
                case a0 => exact hown2.alloc _
                case a2 => omega
                case a3 => omega
                intro v' w6 ho6 hg6 _
                have ho7 : w6.ownsRow B 3 1 v' (zs (T ++ [b])).length ((zs (T ++ [b])).map (Value.int .i64)) := by
                  have e2 : zs (T ++ [b]) = zs T ++ [(b : Int)] := by simp [zs]
                  rw [e2, List.length_append, List.map_append]
                  exact ho6
                have hb7 : Below B w0 w6 := (hbl2.alloc hbB _).grown hg6 (by simp; omega) fun k hk => (hown2.lt k hk).1
                obtain ⟨q7, c7, hv7, _⟩ := own_rd ho7
                rw [zs_len] at hv7
                have hlv : lenV v' = T.length + 1 := by rw [hv7]; simp [lenV]
                have HO7 : Hid _ := ho7
                have HLV : Hid _ := hlv
                clear ho6 hg6 ho7 hv7 hlv hown2
                go_wp2
                go_roundw
                case rel => exact ⟨T ++ [b], HO7.out, hb7, by simp; omega, by rw [List.length_append]; exact HF⟩
                case measure =>
                  have := HLV.out
                  simp [lenV] at this ⊢
                  omega
        · have HF : Hid (lin Q R = some T) := by
            show _ = _
            rw [HLn.out, show k - T.length = 0 by omega]
            rfl
          go_wp2
          go_ret2
          rw [HG.out]
          exact ⟨_, by rw [HF.out]; rfl, by rw [HF.out, HB.out]; exact hown, by rw [HB.out]; exact hbl⟩
theorem rlinear_any (P : List (List Int)) (R : List Int) (p rp : Option Addr) (c rc : Nat) (w : World) (r : RdR (· < w.heap.size) w p c P) (rr : RdI (· < w.heap.size) w rp rc R) (hP : P.length ≤ 900) (hl : ∀ x ∈ P, x.length ≤ 1000) (hR : R.length ≤ 1000) :
    Calls Try.prog 11 #[.slice p P.length c, .slice rp R.length rc] w (LinP (linP P R) w) := by
  by_cases he : R.length = P.length
  · exact rlinear_eq P R p rp c rc w he r rr hP hl
  · exact rlinear_len P R p rp c rc w he (by omega) hR
end Go.Proofs.Ytmkppbcngpgkdaa

/-
  The document's Chain: by a contract.
  The document's set and younger: by contracts.
  What is told by power: each place once, behind all of its chain.
  By power, as the document tells it: the same order.
-/
import Derived.Test.YtimhpglfolbomaaGreatRY23
set_option maxRecDepth 100000
set_option maxHeartbeats 16000000
namespace Go.Proofs.YtimhpglfolbomaaGreat.Od
open Go.RowKit Go.Maps
def chU (C : List Bool) (m : Nat) : List Nat := (List.range m).filter fun i => C.getD i false
theorem chU_next (C : List Bool) (m : Nat) : chU C (m + 1) = if C.getD m false = true then chU C m ++ [m] else chU C m := by
 unfold chU
 rw [List.range_succ, List.filter_append]
 rw [show [m].filter (fun i => C.getD i false) = if C.getD m false = true then [m] else [] from by simp only [List.filter_cons, List.filter_nil]]
 split
 · rfl
 · rw [List.append_nil]
theorem chU_all {Q : List (List Nat)} {S : List Nat} {n : Nat} {C : List Bool} (hQn : Q.length = n) (h : MarkP Q S n 0 C) : chU C n = chT Q S := by
 unfold chU chT
 rw [hQn]
 refine List.filter_congr fun x hx => ?_
 have hx' := List.mem_range.1 hx
 have h2 := h.2 x hx'
 rw [gm_all] at h2
 by_cases hl : Lead Q S x
 · rw [h2.2 hl]; simp only [hl, decide_true]
 · cases hc : C.getD x false with
   | true => exact absurd (h2.1 hc) hl
   | false => simp only [hl, decide_false]
theorem rchain_any {O : Nat → Prop} {w : World} {p : Pa} {q : Pq} {l : List Int} {pl : Option Addr} {cl : Nat} (h : IsPa (· < w.heap.size) w p q) (hz : SzPa p) (hl : RdI O w pl cl l) (hO : ∀ k, O k → k < w.heap.size) (hll : l.length ≤ 1000) :
    Calls Tryz.prog 14 #[valPa p q, .slice pl l.length cl] w (RowP (zs (chainV p l)) w) := by
 obtain ⟨W0, hW0⟩ : ∃ W0, W0 = w.alloc (.cells (cellsPa p q).toArray 27) := ⟨_, rfl⟩
 have hb0 : Below w.heap.size w W0 := by rw [hW0]; exact (Below.refl _ _).alloc (Nat.le_refl _) _
 have V : IsVP W0 w.heap.size p q := by rw [hW0]; exact isVP_new h
 have hRi := rright_any V.pa hz
 have HLD : Hid ((Instr.loadAt 27 (.pointer (some ⟨w.heap.size, 0, none⟩))).run Tryz.prog W0 = .ok (.agg (cellsPa p q).toArray) W0) := V.load
 cases hr : rightT p with
 | false =>
  have HR : Hid (chainV p l = []) := by show _ = _; unfold chainV; rw [hr]; rfl
  rw [hr] at hRi
  clear V h hz hr
  generalize chainV p l = R at *
  generalize l.length = nl at *
  unfold valPa at hRi ⊢
  generalize cellsPa p q = CP at *
  go_enter Tryz.func14, Tryz.ntmps14
  go_upto_region 1 with fail
  rw [← hW0]
  clear hW0
  go_wp2_with (first
   | (refine wpList_loadK rfl 27 _ rfl w.heap.size 0 rfl CP HLD.out ?_)
   | (go_at_call 11; refine hRi.mono ?_; rintro e w1 ⟨rfl, hb1⟩))
  go_ret
  rw [HR.out]
  exact ⟨_, rfl, World.ownsRow_nil _ _ _ _, belowP hb0 hb1⟩
 | true =>
 have HRV : Hid (chainV p l = chT (toQ p.auth) (thereT p.evs.length l)) := by show _ = _; unfold chainV; rw [hr]; rfl
 rw [hr] at hRi
 have hba := (right_parts hr).2.1
 obtain ⟨hI, hQ, hAL⟩ := back_of hba
 have HQ : Hid (BackQ (toQ p.auth)) := hQ
 have HQN : Hid ((toQ p.auth).length = p.evs.length) := by show _ = _; rw [← hAL]; unfold toQ; simp
 have HV : Hid (∀ X, Below W0.heap.size W0 X → IsVP X w.heap.size p q) := fun X hX => V.below hX
 have HSI : Hid (∀ j, j < p.evs.length → (decide ((j : Int) ∈ l) = true ↔ j ∈ thereT p.evs.length l)) := fun j hj => by rw [decide_eq_true_eq, there_mem]; exact ⟨fun h => ⟨hj, h⟩, fun h => h.2⟩
 have HSL : Hid (∀ x ∈ thereT p.evs.length l, x < p.evs.length) := fun x hx => (there_mem.1 hx).1
 have HIN : Hid (∀ X j, Below W0.heap.size W0 X → Calls Tryz.prog 23 #[.int .i64 (j : Int), .slice pl l.length cl] X fun e w' => e = .returned (.bool (decide (j ∈ l))) ∧ X = w') := fun X j hX => rin_any l j pl cl X (hl.same (Same.of_below (belowP hb0 hX) hO)) hll
 have HC1 : Hid (∀ X, Below W0.heap.size W0 X → X.cell? ⟨w.heap.size, 1, none⟩ = some (.slice q.e p.evs.length q.ce)) := fun X hX => (V.below hX).c1
 have HPQ : Hid (∀ i, zs (par (toQ p.auth) i) = p.auth.getD i []) := fun i => par_toQ hI i
 have HPL : Hid (∀ i, i < p.evs.length → (par (toQ p.auth) i).length ≤ 30) := fun i hi => row_len hz hba hi
 have HROW : Hid (∀ j, j < p.evs.length → ∃ ab ao p1 k1, q.a = some ⟨ab, ao, none⟩ ∧ Hid (∀ X, Below W0.heap.size W0 X → X.cell? ⟨w.heap.size, 3, none⟩ = some (.slice (some ⟨ab, ao, none⟩) p.evs.length q.ca) ∧ X.cell? ⟨ab, ao + j, none⟩ = some (.slice p1 (par (toQ p.auth) j).length k1)) ∧ Hid (∀ X, Below W0.heap.size W0 X → RdI (· < W0.heap.size) X p1 k1 (zs (par (toQ p.auth) j)))) := fun j hj => by
  obtain ⟨ab, ao, p1, k1, hqa, _, hcr, hrr⟩ := V.pa.auth.2 j (by rw [hAL]; exact hj)
  rw [← HPQ.out j, zs_len] at hcr
  rw [← HPQ.out j] at hrr
  refine ⟨ab, ao, p1, k1, hqa, fun X hX => ⟨?_, (hX.cell (p := ⟨ab, ao + j, none⟩) (cell_ltS hcr)).trans hcr⟩, fun X hX => hrr.below hX⟩
  have h3 := (HV.out X hX).c3
  rw [hqa, hAL] at h3
  exact h3
 have hen := hz.evs
 have hel := V.pa.evs.1
 have hac := V.pa.auth.1
 rw [hAL] at hac
 clear V h hz hr hba hI hQ hAL HV HPQ hl
 generalize chainV p l = R at *
 generalize thereT p.evs.length l = S at *
 generalize toQ p.auth = Q at *
 generalize l.length = nl at *
 unfold valPa at hRi ⊢
 generalize cellsPa p q = CP at *
 generalize p.evs.length = n at *
 go_enter Tryz.func14, Tryz.ntmps14
 go_upto_region 1 with fail
 rw [← hW0]
 clear hW0
 go_upto_region 5 with (first
  | (refine wpList_loadK rfl 27 _ rfl w.heap.size 0 rfl CP HLD.out ?_)
  | (go_at_call 11; refine hRi.mono ?_; rintro e w1 ⟨rfl, hb1⟩; have c1 := HC1.out w1 hb1)
  | (refine wpList_bools rfl _ _ rfl n (by omega) rfl rfl ?_; intro W2 hs2 hb2 hB2))
 clear c1 HC1 hRi HLD
 have hB02 : Below W0.heap.size W0 W2 := belowP hb1 hb2
 obtain ⟨gb, hgb⟩ : ∃ gb, w1.heap.size = gb := ⟨_, rfl⟩
 rw [hgb] at hB2 hs2
 have hgW : W0.heap.size ≤ gb := by have := hb1.size; omega
 have HB2 : Hid (Bk W2 gb (List.replicate n false)) := hB2
 have HMT : Hid (MarkP Q S n n (List.replicate n false)) := mark_top HQ.out HSL.out
 have HKB : Hid (∀ X, Keep (· = gb) W2 X → Below W0.heap.size W0 X) := fun X hX => hB02.trans (hX.below hB02.size fun k hk e => by omega)
 rw [hgb]
 clear hB2 hgb
 go_loopw [6] (fun i wr => ∃ (k : Nat) (C : List Bool), k ≤ n ∧ i = .int .i64 ((k : Int) - 1) ∧ Bk wr gb C ∧ Hid (MarkP Q S n k C) ∧ Keep (· = gb) W2 wr) (fun i _ => (intOf i + 1).toNat)
 case atStart => exact ⟨n, _, Nat.le_refl _, by go_num, HB2.out, HMT, Keep.refl _ _⟩
 case round =>
  clear HB2 HMT
  obtain ⟨k, C, hk, rfl, hC, HM, hkp⟩ := hrel
  have hBW := HKB.out wr hkp
  cases k with
  | zero =>
   rw [show ((0 : Nat) : Int) - 1 = -1 from rfl]
   have HALL : Hid (chU C n = chT Q S) := chU_all HQN.out HM.out
   have HCL : Hid (C.length = n) := HM.out.1
   have HCC : Hid (∀ X, Keep (fun k => wr.heap.size ≤ k) wr X → Bk X gb C) := fun X hX => hC.same (hX.block gb (obj_lt hC) (by have := obj_lt hC; omega))
   clear HM HSI HIN HROW HPL
   go_upto_region 14 with fail
   obtain ⟨B, hB⟩ : ∃ B, wr.heap.size = B := ⟨_, rfl⟩
   have HBB : Hid (wr.heap.size = B) := hB
   rw [hB] at HCC
   clear hB hC
   go_loopw [8, 9] (fun v i wx => ∃ (m : Nat) (M : List Nat), m ≤ n ∧ i = .int .i64 m ∧ wx.ownsRow B 3 1 v (zs M).length ((zs M).map (Value.int .i64)) ∧ Hid (M = chU C m) ∧ M.length ≤ m ∧ Keep (fun k => B ≤ k) wr wx) (fun _ i _ => n - (intOf i).toNat)
   case atStart => exact ⟨0, [], Nat.zero_le _, rfl, World.ownsRow_nil _ _ _ _, rfl, Nat.le_refl _, Keep.refl _ _⟩
   case round =>
    obtain ⟨m, M, hm, rfl, hown, HMM, hMl, hkx⟩ := hrel
    by_cases hmt : m < n
    · have cm := (HCC.out _ hkx).cell m (by rw [HCL.out]; exact hmt)
      have HN := (show Hid _ from chU_next C m)
      cases hcm : C.getD m false with
      | true =>
       rw [hcm] at cm
       have HN2 : Hid (M ++ [m] = chU C (m + 1)) := by show _ = _; rw [HN.out, if_pos hcm, HMM.out]
       have hzm : (zs M).length ≤ 30 := by rw [zs_len]; omega
       have hws := hkx.size
       clear HN HMM hcm
       go_wp2_with (first
        | (at_builtin; refine wpList_push rfl (.tmp 63) (.tmp 65) 28 3 (.int .i64 0) 8 rfl Tryz.underlying28 Tryz.info3 rfl (by decide) int_one B _ (zs M) rfl ?a0 _ (m : Int) rfl ?a1 ?a2 ?a3 ?_))
       case a0 => exact hown.alloc _
       case a1 => exact cell_row (cur := [_]) (heap_alloc_new _ _) 0 _ rfl
       case a2 => omega
       case a3 => have := HBB.out; simp; omega
       intro v' w12 ho12 hg12 _
       have ho13 := own_snoc ho12
       have hk12 := (hkx.alloc (.cells #[.int .i64 (m : Int)] 3)).trans (Keep.of_grown (S := fun j => B ≤ j) hg12 fun j _ e => (hown.lt j e).1) fun _ _ h => h
       clear ho12 hg12
       go_wp2
       go_roundw
       case rel => exact ⟨m + 1, M ++ [m], by omega, by go_num, by rw [show zs (M ++ [m]) = zs M ++ [(m : Int)] by simp [zs]]; exact ho13, HN2, by simp; omega, hk12⟩
       case measure => simp [intOf]; try omega
      | false =>
       rw [hcm] at cm
       have HN2 : Hid (M = chU C (m + 1)) := by show _ = _; rw [HN.out, if_neg (by rw [hcm]; decide), HMM.out]
       clear HN HMM hcm
       go_wp2
       go_roundw
       case rel => exact ⟨m + 1, M, by omega, by go_num, hown, HN2, by omega, hkx⟩
       case measure => simp [intOf]; try omega
    · obtain rfl : m = n := by omega
      go_wp2
      go_ret
      have hBx := HBB.out
      have e1 : zs R = zs M := by rw [HRV.out, ← HALL.out, HMM.out]
      rw [e1]
      exact RowP.of_own hown (by have := hBW.size; have := hb0.size; omega) (belowP hb0 (hBW.trans (hkx.below (by have := hBW.size; omega) fun k hk e => by have := hBW.size; omega)))
  | succ j =>
   have hj : j < n := by omega
   have ei : ((j + 1 : Nat) : Int) - 1 = (j : Int) := by omega
   rw [ei]
   have HSELF : Hid (C.getD j false = true ↔ Lead Q S j) := mark_self HQ.out HM.out hj
   have HCL : Hid (C.length = n) := HM.out.1
   have HYES : Hid (j ∈ S ∨ Lead Q S j → MarkP Q S n j (setAll C (par Q j))) := fun h => mark_yes HQ.out HM.out hj h
   have HNO : Hid (¬ (j ∈ S ∨ Lead Q S j) → MarkP Q S n j C) := fun h => mark_no HM.out h
   have HSJ : Hid (decide ((j : Int) ∈ l) = true ↔ j ∈ S) := HSI.out j hj
   obtain ⟨ab, ao, p1, k1, hqa, HCA, HRR⟩ := HROW.out j hj
   have hra := HPL.out j hj
   have HLT : Hid (∀ x ∈ par Q j, x < j) := HQ.out j
   have hin := HIN.out wr j hBW
   have cj := hC.cell j (by rw [HCL.out]; exact hj)
   have HKT : Hid (∀ X, Keep (· = gb) wr X → Below W0.heap.size W0 X) := fun X hX => HKB.out X (hkp.trans hX fun _ _ e => e)
   obtain ⟨a3, ar⟩ := HCA.out wr hBW
   obtain ⟨ra, hrae⟩ : ∃ ra, (par Q j).length = ra := ⟨_, rfl⟩
   have HRA : Hid ((par Q j).length = ra) := hrae
   rw [hrae] at hra HCA ar
   clear hrae hqa HM HSI HIN HROW HPL
   cases hcj : C.getD j false with
   | true =>
    rw [hcj] at cj
    have HY : Hid (MarkP Q S n j (setAll C (par Q j))) := HYES.out (.inr (HSELF.out.1 hcj))
    clear HYES HNO HSELF HSJ hcj hin
    go_upto_region 9 with fail
    go_loopw [7] (fun v wx => ∃ m : Nat, m ≤ ra ∧ v = .int .i64 m ∧ Bk wx gb (setAll C ((par Q j).take m)) ∧ Keep (· = gb) wr wx) (fun v _ => ra - (intOf v).toNat)
    case atStart => exact ⟨0, Nat.zero_le _, rfl, hC, Keep.refl _ _⟩
    case round =>
     obtain ⟨m, hm, rfl, hCm, hkx⟩ := hrel
     have hkW := HKT.out _ hkx
     clear a3 ar
     obtain ⟨a3, ar⟩ := HCA.out _ hkW
     by_cases hmt : m < ra
     · have hml : m < (par Q j).length := by rw [HRA.out]; exact hmt
       obtain ⟨ad3, hpe, _, hc3⟩ := (HRR.out _ hkW).at m 0 (by rw [zs_len]; exact hml)
       rw [zs_getD] at hc3
       rw [hpe] at ar
       have hx := HLT.out _ (getD_inm (d := 0) hml)
       have HS : Hid (setAll C ((par Q j).take (m + 1)) = (setAll C ((par Q j).take m)).set ((par Q j).getD m 0) true) := setAll_snoc C (par Q j) m hml
       generalize (par Q j).getD m 0 = x at *
       have cx := hCm.cell x (by rw [setAll_len, HCL.out]; omega)
       have fx := hCm.fz x
       have hb2 := hCm.set x
       have HB : Hid (∀ X : World, Bk (X.setCell ⟨gb, x, none⟩ (.bool true)) gb ((setAll C ((par Q j).take m)).set x true) → Bk (X.setCell ⟨gb, x, none⟩ (.bool true)) gb (setAll C ((par Q j).take (m + 1)))) := fun X h => by rw [HS.out]; exact h
       clear hpe
       go_wp2
       go_roundw
       case rel => exact ⟨m + 1, by omega, by go_num, HB.out _ hb2, hkx.setCell (p := ⟨gb, x, none⟩) (fun _ => rfl) _⟩
       case measure => simp [intOf]; try omega
     · obtain rfl : m = ra := by omega
       have hCj := hCm
       rw [← HRA.out, List.take_length] at hCj
       clear hCm
       go_wp2
       go_roundw
       case rel => exact ⟨j, _, by omega, by first | rfl | go_num, hCj, HY, hkp.trans hkx fun _ _ e => e⟩
       case measure => simp [intOf]; try omega
   | false =>
    rw [hcj] at cj
    have hnl : ¬ Lead Q S j := fun h => by have := HSELF.out.2 h; rw [hcj] at this; cases this
    cases hij : decide ((j : Int) ∈ l) with
    | true =>
     rw [hij] at hin
     have HY : Hid (MarkP Q S n j (setAll C (par Q j))) := HYES.out (.inl (HSJ.out.1 hij))
     clear HYES HNO HSELF HSJ hcj hij hnl
     go_upto_region 8 with (go_at_call 23; refine hin.mono ?_; rintro e w' ⟨rfl, rfl⟩)
     go_upto_region 9 with fail
     go_loopw [7] (fun v wx => ∃ m : Nat, m ≤ ra ∧ v = .int .i64 m ∧ Bk wx gb (setAll C ((par Q j).take m)) ∧ Keep (· = gb) wr wx) (fun v _ => ra - (intOf v).toNat)
     case atStart => exact ⟨0, Nat.zero_le _, rfl, hC, Keep.refl _ _⟩
     case round =>
      obtain ⟨m, hm, rfl, hCm, hkx⟩ := hrel
      have hkW := HKT.out _ hkx
      clear a3 ar
      obtain ⟨a3, ar⟩ := HCA.out _ hkW
      by_cases hmt : m < ra
      · have hml : m < (par Q j).length := by rw [HRA.out]; exact hmt
        obtain ⟨ad3, hpe, _, hc3⟩ := (HRR.out _ hkW).at m 0 (by rw [zs_len]; exact hml)
        rw [zs_getD] at hc3
        rw [hpe] at ar
        have hx := HLT.out _ (getD_inm (d := 0) hml)
        have HS : Hid (setAll C ((par Q j).take (m + 1)) = (setAll C ((par Q j).take m)).set ((par Q j).getD m 0) true) := setAll_snoc C (par Q j) m hml
        generalize (par Q j).getD m 0 = x at *
        have cx := hCm.cell x (by rw [setAll_len, HCL.out]; omega)
        have fx := hCm.fz x
        have hb2 := hCm.set x
        have HB : Hid (∀ X : World, Bk (X.setCell ⟨gb, x, none⟩ (.bool true)) gb ((setAll C ((par Q j).take m)).set x true) → Bk (X.setCell ⟨gb, x, none⟩ (.bool true)) gb (setAll C ((par Q j).take (m + 1)))) := fun X h => by rw [HS.out]; exact h
        clear hpe
        go_wp2
        go_roundw
        case rel => exact ⟨m + 1, by omega, by go_num, HB.out _ hb2, hkx.setCell (p := ⟨gb, x, none⟩) (fun _ => rfl) _⟩
        case measure => simp [intOf]; try omega
      · obtain rfl : m = ra := by omega
        have hCj := hCm
        rw [← HRA.out, List.take_length] at hCj
        clear hCm
        go_wp2
        go_roundw
        case rel => exact ⟨j, _, by omega, by first | rfl | go_num, hCj, HY, hkp.trans hkx fun _ _ e => e⟩
        case measure => simp [intOf]; try omega
    | false =>
     rw [hij] at hin
     have HY : Hid (MarkP Q S n j C) := HNO.out fun h => h.elim (fun h => by have := HSJ.out.2 h; rw [hij] at this; cases this) hnl
     clear HYES HNO HSELF HSJ hcj hij hnl
     go_wp2_with (go_at_call 23; refine hin.mono ?_; rintro e w' ⟨rfl, rfl⟩)
     go_roundw
     case rel => exact ⟨j, C, by omega, by first | rfl | go_num, hC, HY, hkp⟩
     case measure => simp [intOf]; try omega
theorem there_next (n : Nat) (l : List Int) : thereT (n + 1) l = if (n : Int) ∈ l then thereT n l ++ [n] else thereT n l := by
 unfold thereT
 rw [List.range_succ, List.filter_append]
 rw [show [n].filter (fun i : Nat => decide ((i : Int) ∈ l)) = if (n : Int) ∈ l then [n] else [] from by simp only [List.filter_cons, List.filter_nil, decide_eq_true_eq]]
 split
 · rfl
 · rw [List.append_nil]
theorem there_len (n : Nat) (l : List Int) : (thereT n l).length ≤ n := by
 unfold thereT
 exact Nat.le_trans (List.length_filter_le _ _) (by simp)
theorem rset_any {O : Nat → Prop} {w : World} {p : Pa} {q : Pq} {l : List Int} {pl : Option Addr} {cl : Nat} (h : IsPa (· < w.heap.size) w p q) (hz : SzPa p) (hl : RdI O w pl cl l) (hO : ∀ k, O k → k < w.heap.size) (hll : l.length ≤ 1000) :
    Calls Tryz.prog 50 #[valPa p q, .slice pl l.length cl] w (RowP (zs (thereT p.evs.length l)) w) := by
 obtain ⟨W0, hW0⟩ : ∃ W0, W0 = w.alloc (.cells (cellsPa p q).toArray 27) := ⟨_, rfl⟩
 have hb0 : Below w.heap.size w W0 := by rw [hW0]; exact (Below.refl _ _).alloc (Nat.le_refl _) _
 have V : IsVP W0 w.heap.size p q := by rw [hW0]; exact isVP_new h
 have HC1 : Hid (∀ X, Below W0.heap.size W0 X → X.cell? ⟨w.heap.size, 1, none⟩ = some (.slice q.e p.evs.length q.ce)) := fun X hX => (V.below hX).c1
 have HIN : Hid (∀ X (y : Int), Below W0.heap.size W0 X → Calls Tryz.prog 23 #[.int .i64 y, .slice pl l.length cl] X fun e w' => e = .returned (.bool (decide (y ∈ l))) ∧ X = w') := fun X y hX => rin_any l y pl cl X (hl.same (Same.of_below (belowP hb0 hX) hO)) hll
 have HNX : Hid (∀ k, thereT (k + 1) l = if (k : Int) ∈ l then thereT k l ++ [k] else thereT k l) := fun k => there_next k l
 have HLN : Hid (∀ k, (thereT k l).length ≤ k) := fun k => there_len k l
 have hen := hz.evs
 clear V h hz hl
 unfold valPa
 generalize cellsPa p q = CP at *
 generalize p.evs.length = n at *
 generalize l.length = nl at *
 go_enter Tryz.func50, Tryz.ntmps50
 go_upto_region 1 with fail
 rw [← hW0]
 clear hW0
 go_upto_region 3 with fail
 obtain ⟨B, hB⟩ : ∃ B, W0.heap.size = B := ⟨_, rfl⟩
 have HBB : Hid (W0.heap.size = B) := hB
 have HKB : Hid (∀ X, Keep (fun k => B ≤ k) W0 X → Below W0.heap.size W0 X) := fun X hX => hX.below (Nat.le_refl _) fun k hk e => by have := HBB.out; omega
 clear hB
 go_loopw [5, 6] (fun v i wr => ∃ (k : Nat) (M : List Nat), k ≤ n ∧ i = .int .i64 k ∧ wr.ownsRow B 3 1 v (zs M).length ((zs M).map (Value.int .i64)) ∧ Hid (M = thereT k l) ∧ Keep (fun k => B ≤ k) W0 wr) (fun _ i _ => n - (intOf i).toNat)
 case atStart => exact ⟨0, [], Nat.zero_le _, rfl, World.ownsRow_nil _ _ _ _, rfl, Keep.refl _ _⟩
 case round =>
  obtain ⟨k, M, hk, rfl, hown, HM, hkp⟩ := hrel
  have hBW := HKB.out wr hkp
  have c1 := HC1.out wr hBW
  by_cases hkn : k < n
  · have hin := HIN.out wr k hBW
    have HN := (show Hid _ from HNX.out k)
    have hMl : (zs M).length ≤ 30 := by rw [zs_len, HM.out]; have := HLN.out k; omega
    have hws := hkp.size
    cases hd : decide ((k : Int) ∈ l) with
    | true =>
     have HN2 : Hid (M ++ [k] = thereT (k + 1) l) := by show _ = _; rw [HN.out, if_pos (of_decide_eq_true hd), HM.out]
     rw [hd] at hin
     clear HN HM hd
     go_wp2_with (first
      | (go_at_call 23; refine hin.mono ?_; rintro e w' ⟨rfl, rfl⟩)
      | (at_builtin; refine wpList_push rfl (.tmp 17) (.tmp 19) 28 3 (.int .i64 0) 8 rfl Tryz.underlying28 Tryz.info3 rfl (by decide) int_one B _ (zs M) rfl ?a0 _ (k : Int) rfl ?a1 ?a2 ?a3 ?_))
     case a0 => exact hown.alloc _
     case a1 => exact cell_row (cur := [_]) (heap_alloc_new _ _) 0 _ rfl
     case a2 => omega
     case a3 => have := HBB.out; simp; omega
     intro v' w12 ho12 hg12 _
     have ho13 := own_snoc ho12
     have hk12 := (hkp.alloc (.cells #[.int .i64 (k : Int)] 3)).trans (Keep.of_grown (S := fun j => B ≤ j) hg12 fun j _ e => (hown.lt j e).1) fun _ _ h => h
     clear ho12 hg12
     go_wp2
     go_roundw
     case rel => exact ⟨k + 1, M ++ [k], by omega, by go_num, by rw [show zs (M ++ [k]) = zs M ++ [(k : Int)] by simp [zs]]; exact ho13, HN2, hk12⟩
     case measure => simp [intOf]; try omega
    | false =>
     have HN2 : Hid (M = thereT (k + 1) l) := by show _ = _; rw [HN.out, if_neg (of_decide_eq_false hd), HM.out]
     rw [hd] at hin
     clear HN HM hd
     go_wp2_with (go_at_call 23; refine hin.mono ?_; rintro e w' ⟨rfl, rfl⟩)
     go_roundw
     case rel => exact ⟨k + 1, M, by omega, by go_num, hown, HN2, hkp⟩
     case measure => simp [intOf]; try omega
  · obtain rfl : k = n := by omega
    go_wp2
    go_ret
    rw [← HM.out]
    have := HBB.out
    exact RowP.of_own hown (by have := hb0.size; omega) (belowP hb0 hBW)
theorem ltK_not {a b : ByteArray} (h : a ≠ b) : ltK a b = !ltK b a := by
 cases h1 : ltK b a with
 | true =>
  cases h2 : ltK a b with
  | true => have := ltK_trans h1 h2; rw [ltK_irrefl] at this; cases this
  | false => rfl
 | false =>
  rcases ltK_total h with h' | h'
  · rw [h']; rfl
  · rw [h1] at h'; cases h'
def youngT (p : Pa) (a b : Nat) : Bool :=
 if (evT p a).ts = (evT p b).ts then (if nmT p a = nmT p b then decide (b < a) else ltK (nmT p b) (nmT p a)) else decide ((evT p b).ts < (evT p a).ts)
theorem young_lt (num : Nat → Int) (p : Pa) (a b : Nat) : (decide (num b > num a) || (decide (num b = num a) && youngT p a b)) = decide (num a < num b ∨ num b = num a ∧ ((evT p b).ts < (evT p a).ts ∨ (evT p b).ts = (evT p a).ts ∧ (ltK (nmT p b) (nmT p a) = true ∨ nmT p b = nmT p a ∧ b < a))) := by
 unfold youngT
 rw [Bool.eq_iff_iff]
 simp only [Bool.or_eq_true, Bool.and_eq_true, decide_eq_true_eq]
 by_cases h1 : (evT p a).ts = (evT p b).ts
 · rw [if_pos h1]
   by_cases h2 : nmT p a = nmT p b
   · rw [if_pos h2, decide_eq_true_eq, h1, h2, ltK_irrefl]
     constructor
     · rintro (h | ⟨h, h3⟩)
       · exact .inl h
       · exact .inr ⟨h, .inr ⟨rfl, .inr ⟨rfl, h3⟩⟩⟩
     · rintro (h | ⟨h, h3⟩)
       · exact .inl h
       · refine .inr ⟨h, ?_⟩
         rcases h3 with h3 | ⟨_, h3 | ⟨_, h3⟩⟩
         · omega
         · cases h3
         · exact h3
   · rw [if_neg h2]
     constructor
     · rintro (h | ⟨h, h3⟩)
       · exact .inl h
       · exact .inr ⟨h, .inr ⟨h1.symm, .inl h3⟩⟩
     · rintro (h | ⟨h, h3⟩)
       · exact .inl h
       · refine .inr ⟨h, ?_⟩
         rcases h3 with h3 | ⟨_, h3 | ⟨h4, h3⟩⟩
         · omega
         · exact h3
         · exact absurd h4.symm h2
 · rw [if_neg h1, decide_eq_true_eq]
   constructor
   · rintro (h | ⟨h, h3⟩)
     · exact .inl h
     · exact .inr ⟨h, .inl h3⟩
   · rintro (h | ⟨h, h3⟩)
     · exact .inl h
     · refine .inr ⟨h, ?_⟩
       rcases h3 with h3 | ⟨h4, _⟩
       · exact h3
       · exact absurd h4.symm h1
theorem ryounger_any {w : World} {p : Pa} {q : Pq} (h : IsPa (· < w.heap.size) w p q) (_hz : SzPa p) (hnl : p.names.length = p.evs.length) (a b : Nat) (ha : a < p.evs.length) (hb : b < p.evs.length) :
    Calls Tryz.prog 51 #[valPa p q, .int .i64 (a : Int), .int .i64 (b : Int)] w fun e w' => e = .returned (.bool (youngT p a b)) ∧ Below w.heap.size w w' := by
 obtain ⟨W0, hW0⟩ : ∃ W0, W0 = w.alloc (.cells (cellsPa p q).toArray 27) := ⟨_, rfl⟩
 have hb0 : Below w.heap.size w W0 := by rw [hW0]; exact (Below.refl _ _).alloc (Nat.le_refl _) _
 have V : IsVP W0 w.heap.size p q := by rw [hW0]; exact isVP_new h
 obtain ⟨eb, eo, qa, hqe, _, hca, _⟩ := V.pa.evs.2 a ha
 obtain ⟨eb2, eo2, qb, hqe2, _, hcb, _⟩ := V.pa.evs.2 b hb
 rw [hqe] at hqe2
 cases hqe2
 obtain ⟨mb, mo, hqn, _, hcn⟩ := V.pa.names.2 (by intro h0; rw [h0] at hnl; simp at hnl; omega)
 have xa : W0.cell? ⟨eb, eo + a * 16 + 13, none⟩ = some (.int .i64 (evT p a).ts) := hca 13 _ rfl
 have xb : W0.cell? ⟨eb, eo + b * 16 + 13, none⟩ = some (.int .i64 (evT p b).ts) := hcb 13 _ rfl
 have na' : W0.cell? ⟨mb, mo + a, none⟩ = some (.string (nmT p a)) := hcn a _ (by unfold nmT; rw [getD_in (by omega), List.getElem?_eq_getElem (by omega)])
 have nb' : W0.cell? ⟨mb, mo + b, none⟩ = some (.string (nmT p b)) := hcn b _ (by unfold nmT; rw [getD_in (by omega), List.getElem?_eq_getElem (by omega)])
 have HXX : Hid (∀ X, Below W0.heap.size W0 X → X.cell? ⟨w.heap.size, 1, none⟩ = some (.slice (some ⟨eb, eo, none⟩) p.evs.length q.ce) ∧ X.cell? ⟨w.heap.size, 0, none⟩ = some (.slice (some ⟨mb, mo, none⟩) p.evs.length q.cn) ∧ X.cell? ⟨eb, eo + a * 16 + 13, none⟩ = some (.int .i64 (evT p a).ts) ∧ X.cell? ⟨eb, eo + b * 16 + 13, none⟩ = some (.int .i64 (evT p b).ts) ∧ X.cell? ⟨mb, mo + a, none⟩ = some (.string (nmT p a)) ∧ X.cell? ⟨mb, mo + b, none⟩ = some (.string (nmT p b))) := fun X hX => by
  have h1 := (V.below hX).c1
  have h0 := (V.below hX).c0
  rw [hqe] at h1
  rw [hqn, hnl] at h0
  exact ⟨h1, h0, (hX.cell (p := ⟨eb, eo + a * 16 + 13, none⟩) (cell_ltS xa)).trans xa, (hX.cell (p := ⟨eb, eo + b * 16 + 13, none⟩) (cell_ltS xb)).trans xb, (hX.cell (p := ⟨mb, mo + a, none⟩) (cell_ltS na')).trans na', (hX.cell (p := ⟨mb, mo + b, none⟩) (cell_ltS nb')).trans nb'⟩
 have HY : Hid (youngT p a b = if (evT p a).ts = (evT p b).ts then (if nmT p a = nmT p b then decide (b < a) else ltK (nmT p b) (nmT p a)) else decide ((evT p b).ts < (evT p a).ts)) := rfl
 have hel := V.pa.evs.1
 have hnc := V.pa.names.1
 rw [hnl] at hnc
 clear V h hca hcb hcn xa xb na' nb' hqe hqn
 unfold valPa
 generalize cellsPa p q = CP at *
 generalize youngT p a b = R at *
 generalize p.evs.length = n at *
 generalize (evT p a).ts = ta at *
 generalize (evT p b).ts = tb at *
 generalize nmT p a = na at *
 generalize nmT p b = nb at *
 have hD : Below W0.heap.size W0 W0.drew := (Below.refl _ _).drew
 have hD2 : Below W0.heap.size W0 W0.drew.drew := hD.drew
 have hD3 : Below W0.heap.size W0 W0.drew.drew.drew := hD2.drew
 go_enter Tryz.func51, Tryz.ntmps51
 go_upto_region 1 with fail
 rw [← hW0]
 clear hW0
 by_cases ht : ta = tb
 case neg =>
  have HR : Hid (R = decide (tb < ta)) := by show _ = _; rw [HY.out, if_neg ht]
  have t1 : (ta == tb) = false := by simpa using ht
  clear HY
  refine wp_region_in (by kernel_rfl) (fun w' => Below W0.heap.size W0 w') ?_
  change wpIn _ _ _ _ _ _ _ _ (World.drew _)
  refine wpIn_take (i := 0) (d := (some 7)) (v := .pointer (some ⟨w.heap.size, 1, none⟩)) (a' := ?awy1x0) rfl rfl (by kernel_rfl) (by kernel_rfl) (by kernel_rfl) (fun _ _ _ h => h) (Or.inl ⟨by rfl, ?ywy1x0⟩) ?fwy1x0 ?_
  case ywy1x0 => (intro wq hq; obtain ⟨g1, g2, g3, g4, g5, g6⟩ := HXX.out wq hq; go_simp; first | done | with_reducible rfl)
  case fwy1x0 => (go_frame; rfl)
  refine wpIn_take (i := 1) (d := (some 8)) (v := .slice (some ⟨eb, eo, none⟩) n q.ce) (a' := ?awy2x1) rfl rfl (by kernel_rfl) (by kernel_rfl) (by kernel_rfl) (fun _ _ _ h => h) (Or.inl ⟨by rfl, ?ywy2x1⟩) ?fwy2x1 ?_
  case ywy2x1 => (intro wq hq; obtain ⟨g1, g2, g3, g4, g5, g6⟩ := HXX.out wq hq; go_simp; first | done | with_reducible rfl)
  case fwy2x1 => (go_frame; rfl)
  refine wpIn_take (i := 2) (d := (some 9)) (v := .int .i64 (a : Int)) (a' := ?awy3x2) rfl rfl (by kernel_rfl) (by kernel_rfl) (by kernel_rfl) (fun _ _ _ h => h) (Or.inl ⟨by rfl, ?ywy3x2⟩) ?fwy3x2 ?_
  case ywy3x2 => (intro wq hq; obtain ⟨g1, g2, g3, g4, g5, g6⟩ := HXX.out wq hq; go_simp; first | done | with_reducible rfl)
  case fwy3x2 => (go_frame; rfl)
  refine wpIn_take (i := 3) (d := (some 10)) (v := .pointer (some ⟨eb, eo + a * 16, none⟩)) (a' := ?awy4x3) rfl rfl (by kernel_rfl) (by kernel_rfl) (by kernel_rfl) (fun _ _ _ h => h) (Or.inl ⟨by rfl, ?ywy4x3⟩) ?fwy4x3 ?_
  case ywy4x3 => (intro wq hq; obtain ⟨g1, g2, g3, g4, g5, g6⟩ := HXX.out wq hq; go_simp; first | done | with_reducible rfl)
  case fwy4x3 => (go_frame; rfl)
  refine wpIn_take (i := 4) (d := (some 11)) (v := .pointer (some ⟨eb, eo + a * 16 + 13, none⟩)) (a' := ?awy5x4) rfl rfl (by kernel_rfl) (by kernel_rfl) (by kernel_rfl) (fun _ _ _ h => h) (Or.inl ⟨by rfl, ?ywy5x4⟩) ?fwy5x4 ?_
  case ywy5x4 => (intro wq hq; obtain ⟨g1, g2, g3, g4, g5, g6⟩ := HXX.out wq hq; go_simp; first | done | with_reducible rfl)
  case fwy5x4 => (go_frame; rfl)
  refine wpIn_take (i := 5) (d := (some 12)) (v := .int .i64 ta) (a' := ?awy6x5) rfl rfl (by kernel_rfl) (by kernel_rfl) (by kernel_rfl) (fun _ _ _ h => h) (Or.inl ⟨by rfl, ?ywy6x5⟩) ?fwy6x5 ?_
  case ywy6x5 => (intro wq hq; obtain ⟨g1, g2, g3, g4, g5, g6⟩ := HXX.out wq hq; go_simp; first | done | with_reducible rfl)
  case fwy6x5 => (go_frame; rfl)
  refine wpIn_take (i := 6) (d := (some 13)) (v := .pointer (some ⟨w.heap.size, 1, none⟩)) (a' := ?awy7x6) rfl rfl (by kernel_rfl) (by kernel_rfl) (by kernel_rfl) (fun _ _ _ h => h) (Or.inl ⟨by rfl, ?ywy7x6⟩) ?fwy7x6 ?_
  case ywy7x6 => (intro wq hq; obtain ⟨g1, g2, g3, g4, g5, g6⟩ := HXX.out wq hq; go_simp; first | done | with_reducible rfl)
  case fwy7x6 => (go_frame; rfl)
  refine wpIn_take (i := 7) (d := (some 14)) (v := .slice (some ⟨eb, eo, none⟩) n q.ce) (a' := ?awy8x7) rfl rfl (by kernel_rfl) (by kernel_rfl) (by kernel_rfl) (fun _ _ _ h => h) (Or.inl ⟨by rfl, ?ywy8x7⟩) ?fwy8x7 ?_
  case ywy8x7 => (intro wq hq; obtain ⟨g1, g2, g3, g4, g5, g6⟩ := HXX.out wq hq; go_simp; first | done | with_reducible rfl)
  case fwy8x7 => (go_frame; rfl)
  refine wpIn_take (i := 8) (d := (some 15)) (v := .int .i64 (b : Int)) (a' := ?awy9x8) rfl rfl (by kernel_rfl) (by kernel_rfl) (by kernel_rfl) (fun _ _ _ h => h) (Or.inl ⟨by rfl, ?ywy9x8⟩) ?fwy9x8 ?_
  case ywy9x8 => (intro wq hq; obtain ⟨g1, g2, g3, g4, g5, g6⟩ := HXX.out wq hq; go_simp; first | done | with_reducible rfl)
  case fwy9x8 => (go_frame; rfl)
  refine wpIn_take (i := 9) (d := (some 16)) (v := .pointer (some ⟨eb, eo + b * 16, none⟩)) (a' := ?awy10x9) rfl rfl (by kernel_rfl) (by kernel_rfl) (by kernel_rfl) (fun _ _ _ h => h) (Or.inl ⟨by rfl, ?ywy10x9⟩) ?fwy10x9 ?_
  case ywy10x9 => (intro wq hq; obtain ⟨g1, g2, g3, g4, g5, g6⟩ := HXX.out wq hq; go_simp; first | done | with_reducible rfl)
  case fwy10x9 => (go_frame; rfl)
  refine wpIn_take (i := 10) (d := (some 17)) (v := .pointer (some ⟨eb, eo + b * 16 + 13, none⟩)) (a' := ?awy11x10) rfl rfl (by kernel_rfl) (by kernel_rfl) (by kernel_rfl) (fun _ _ _ h => h) (Or.inl ⟨by rfl, ?ywy11x10⟩) ?fwy11x10 ?_
  case ywy11x10 => (intro wq hq; obtain ⟨g1, g2, g3, g4, g5, g6⟩ := HXX.out wq hq; go_simp; first | done | with_reducible rfl)
  case fwy11x10 => (go_frame; rfl)
  refine wpIn_take (i := 11) (d := (some 18)) (v := .int .i64 tb) (a' := ?awy12x11) rfl rfl (by kernel_rfl) (by kernel_rfl) (by kernel_rfl) (fun _ _ _ h => h) (Or.inl ⟨by rfl, ?ywy12x11⟩) ?fwy12x11 ?_
  case ywy12x11 => (intro wq hq; obtain ⟨g1, g2, g3, g4, g5, g6⟩ := HXX.out wq hq; go_simp; first | done | with_reducible rfl)
  case fwy12x11 => (go_frame; rfl)
  refine wpIn_take (i := 12) (d := (some 19)) (v := .bool true) (a' := ?awy13x12) rfl rfl (by kernel_rfl) (by kernel_rfl) (by kernel_rfl) (fun _ _ _ h => h) (Or.inl ⟨by rfl, ?ywy13x12⟩) ?fwy13x12 ?_
  case ywy13x12 => (intro wq hq; go_simp)
  case fwy13x12 => (go_frame; rfl)
  refine wpIn_done hD (by kernel_rfl) ?_ _
  go_upto_region 2 with fail
  refine wp_region_in (by kernel_rfl) (fun w' => Below W0.heap.size W0 w') ?_
  change wpIn _ _ _ _ _ _ _ _ (World.drew _)
  refine wpIn_take (i := 0) (d := (some 20)) (v := .pointer (some ⟨w.heap.size, 1, none⟩)) (a' := ?awy14x0) rfl rfl (by kernel_rfl) (by kernel_rfl) (by kernel_rfl) (fun _ _ _ h => h) (Or.inl ⟨by rfl, ?ywy14x0⟩) ?fwy14x0 ?_
  case ywy14x0 => (intro wq hq; obtain ⟨g1, g2, g3, g4, g5, g6⟩ := HXX.out wq hq; go_simp; first | done | with_reducible rfl)
  case fwy14x0 => (go_frame; rfl)
  refine wpIn_take (i := 1) (d := (some 21)) (v := .slice (some ⟨eb, eo, none⟩) n q.ce) (a' := ?awy15x1) rfl rfl (by kernel_rfl) (by kernel_rfl) (by kernel_rfl) (fun _ _ _ h => h) (Or.inl ⟨by rfl, ?ywy15x1⟩) ?fwy15x1 ?_
  case ywy15x1 => (intro wq hq; obtain ⟨g1, g2, g3, g4, g5, g6⟩ := HXX.out wq hq; go_simp; first | done | with_reducible rfl)
  case fwy15x1 => (go_frame; rfl)
  refine wpIn_take (i := 2) (d := (some 22)) (v := .int .i64 (a : Int)) (a' := ?awy16x2) rfl rfl (by kernel_rfl) (by kernel_rfl) (by kernel_rfl) (fun _ _ _ h => h) (Or.inl ⟨by rfl, ?ywy16x2⟩) ?fwy16x2 ?_
  case ywy16x2 => (intro wq hq; obtain ⟨g1, g2, g3, g4, g5, g6⟩ := HXX.out wq hq; go_simp; first | done | with_reducible rfl)
  case fwy16x2 => (go_frame; rfl)
  refine wpIn_take (i := 3) (d := (some 23)) (v := .pointer (some ⟨eb, eo + a * 16, none⟩)) (a' := ?awy17x3) rfl rfl (by kernel_rfl) (by kernel_rfl) (by kernel_rfl) (fun _ _ _ h => h) (Or.inl ⟨by rfl, ?ywy17x3⟩) ?fwy17x3 ?_
  case ywy17x3 => (intro wq hq; obtain ⟨g1, g2, g3, g4, g5, g6⟩ := HXX.out wq hq; go_simp; first | done | with_reducible rfl)
  case fwy17x3 => (go_frame; rfl)
  refine wpIn_take (i := 4) (d := (some 24)) (v := .pointer (some ⟨eb, eo + a * 16 + 13, none⟩)) (a' := ?awy18x4) rfl rfl (by kernel_rfl) (by kernel_rfl) (by kernel_rfl) (fun _ _ _ h => h) (Or.inl ⟨by rfl, ?ywy18x4⟩) ?fwy18x4 ?_
  case ywy18x4 => (intro wq hq; obtain ⟨g1, g2, g3, g4, g5, g6⟩ := HXX.out wq hq; go_simp; first | done | with_reducible rfl)
  case fwy18x4 => (go_frame; rfl)
  refine wpIn_take (i := 5) (d := (some 25)) (v := .int .i64 ta) (a' := ?awy19x5) rfl rfl (by kernel_rfl) (by kernel_rfl) (by kernel_rfl) (fun _ _ _ h => h) (Or.inl ⟨by rfl, ?ywy19x5⟩) ?fwy19x5 ?_
  case ywy19x5 => (intro wq hq; obtain ⟨g1, g2, g3, g4, g5, g6⟩ := HXX.out wq hq; go_simp; first | done | with_reducible rfl)
  case fwy19x5 => (go_frame; rfl)
  refine wpIn_take (i := 6) (d := (some 26)) (v := .pointer (some ⟨w.heap.size, 1, none⟩)) (a' := ?awy20x6) rfl rfl (by kernel_rfl) (by kernel_rfl) (by kernel_rfl) (fun _ _ _ h => h) (Or.inl ⟨by rfl, ?ywy20x6⟩) ?fwy20x6 ?_
  case ywy20x6 => (intro wq hq; obtain ⟨g1, g2, g3, g4, g5, g6⟩ := HXX.out wq hq; go_simp; first | done | with_reducible rfl)
  case fwy20x6 => (go_frame; rfl)
  refine wpIn_take (i := 7) (d := (some 27)) (v := .slice (some ⟨eb, eo, none⟩) n q.ce) (a' := ?awy21x7) rfl rfl (by kernel_rfl) (by kernel_rfl) (by kernel_rfl) (fun _ _ _ h => h) (Or.inl ⟨by rfl, ?ywy21x7⟩) ?fwy21x7 ?_
  case ywy21x7 => (intro wq hq; obtain ⟨g1, g2, g3, g4, g5, g6⟩ := HXX.out wq hq; go_simp; first | done | with_reducible rfl)
  case fwy21x7 => (go_frame; rfl)
  refine wpIn_take (i := 8) (d := (some 28)) (v := .int .i64 (b : Int)) (a' := ?awy22x8) rfl rfl (by kernel_rfl) (by kernel_rfl) (by kernel_rfl) (fun _ _ _ h => h) (Or.inl ⟨by rfl, ?ywy22x8⟩) ?fwy22x8 ?_
  case ywy22x8 => (intro wq hq; obtain ⟨g1, g2, g3, g4, g5, g6⟩ := HXX.out wq hq; go_simp; first | done | with_reducible rfl)
  case fwy22x8 => (go_frame; rfl)
  refine wpIn_take (i := 9) (d := (some 29)) (v := .pointer (some ⟨eb, eo + b * 16, none⟩)) (a' := ?awy23x9) rfl rfl (by kernel_rfl) (by kernel_rfl) (by kernel_rfl) (fun _ _ _ h => h) (Or.inl ⟨by rfl, ?ywy23x9⟩) ?fwy23x9 ?_
  case ywy23x9 => (intro wq hq; obtain ⟨g1, g2, g3, g4, g5, g6⟩ := HXX.out wq hq; go_simp; first | done | with_reducible rfl)
  case fwy23x9 => (go_frame; rfl)
  refine wpIn_take (i := 10) (d := (some 30)) (v := .pointer (some ⟨eb, eo + b * 16 + 13, none⟩)) (a' := ?awy24x10) rfl rfl (by kernel_rfl) (by kernel_rfl) (by kernel_rfl) (fun _ _ _ h => h) (Or.inl ⟨by rfl, ?ywy24x10⟩) ?fwy24x10 ?_
  case ywy24x10 => (intro wq hq; obtain ⟨g1, g2, g3, g4, g5, g6⟩ := HXX.out wq hq; go_simp; first | done | with_reducible rfl)
  case fwy24x10 => (go_frame; rfl)
  refine wpIn_take (i := 11) (d := (some 31)) (v := .int .i64 tb) (a' := ?awy25x11) rfl rfl (by kernel_rfl) (by kernel_rfl) (by kernel_rfl) (fun _ _ _ h => h) (Or.inl ⟨by rfl, ?ywy25x11⟩) ?fwy25x11 ?_
  case ywy25x11 => (intro wq hq; obtain ⟨g1, g2, g3, g4, g5, g6⟩ := HXX.out wq hq; go_simp; first | done | with_reducible rfl)
  case fwy25x11 => (go_frame; rfl)
  refine wpIn_take (i := 12) (d := (some 32)) (v := .bool (decide (tb < ta))) (a' := ?awy26x12) rfl rfl (by kernel_rfl) (by kernel_rfl) (by kernel_rfl) (fun _ _ _ h => h) (Or.inl ⟨by rfl, ?ywy26x12⟩) ?fwy26x12 ?_
  case ywy26x12 => (intro wq hq; go_simp; first | done | with_reducible rfl)
  case fwy26x12 => (go_frame; rfl)
  refine wpIn_take (i := 13) (d := (some 6)) (v := .bool (decide (tb < ta))) (a' := ?awy27x13) rfl rfl (by kernel_rfl) (by kernel_rfl) (by kernel_rfl) (fun _ _ _ h => h) (Or.inl ⟨by rfl, ?ywy27x13⟩) ?fwy27x13 ?_
  case ywy27x13 => (intro wq hq; go_simp; first | done | with_reducible rfl)
  case fwy27x13 => (go_frame; rfl)
  refine wpIn_done hD2 (by kernel_rfl) ?_ _
  go_wp2
  go_ret
  exact ⟨ret_bool HR.out.symm, belowP hb0 hD2⟩
 subst ht
 refine wp_region_in (by kernel_rfl) (fun w' => Below W0.heap.size W0 w') ?_
 change wpIn _ _ _ _ _ _ _ _ (World.drew _)
 refine wpIn_take (i := 0) (d := (some 7)) (v := .pointer (some ⟨w.heap.size, 1, none⟩)) (a' := ?awy28x0) rfl rfl (by kernel_rfl) (by kernel_rfl) (by kernel_rfl) (fun _ _ _ h => h) (Or.inl ⟨by rfl, ?ywy28x0⟩) ?fwy28x0 ?_
 case ywy28x0 => (intro wq hq; obtain ⟨g1, g2, g3, g4, g5, g6⟩ := HXX.out wq hq; go_simp; first | done | with_reducible rfl)
 case fwy28x0 => (go_frame; rfl)
 refine wpIn_take (i := 1) (d := (some 8)) (v := .slice (some ⟨eb, eo, none⟩) n q.ce) (a' := ?awy29x1) rfl rfl (by kernel_rfl) (by kernel_rfl) (by kernel_rfl) (fun _ _ _ h => h) (Or.inl ⟨by rfl, ?ywy29x1⟩) ?fwy29x1 ?_
 case ywy29x1 => (intro wq hq; obtain ⟨g1, g2, g3, g4, g5, g6⟩ := HXX.out wq hq; go_simp; first | done | with_reducible rfl)
 case fwy29x1 => (go_frame; rfl)
 refine wpIn_take (i := 2) (d := (some 9)) (v := .int .i64 (a : Int)) (a' := ?awy30x2) rfl rfl (by kernel_rfl) (by kernel_rfl) (by kernel_rfl) (fun _ _ _ h => h) (Or.inl ⟨by rfl, ?ywy30x2⟩) ?fwy30x2 ?_
 case ywy30x2 => (intro wq hq; obtain ⟨g1, g2, g3, g4, g5, g6⟩ := HXX.out wq hq; go_simp; first | done | with_reducible rfl)
 case fwy30x2 => (go_frame; rfl)
 refine wpIn_take (i := 3) (d := (some 10)) (v := .pointer (some ⟨eb, eo + a * 16, none⟩)) (a' := ?awy31x3) rfl rfl (by kernel_rfl) (by kernel_rfl) (by kernel_rfl) (fun _ _ _ h => h) (Or.inl ⟨by rfl, ?ywy31x3⟩) ?fwy31x3 ?_
 case ywy31x3 => (intro wq hq; obtain ⟨g1, g2, g3, g4, g5, g6⟩ := HXX.out wq hq; go_simp; first | done | with_reducible rfl)
 case fwy31x3 => (go_frame; rfl)
 refine wpIn_take (i := 4) (d := (some 11)) (v := .pointer (some ⟨eb, eo + a * 16 + 13, none⟩)) (a' := ?awy32x4) rfl rfl (by kernel_rfl) (by kernel_rfl) (by kernel_rfl) (fun _ _ _ h => h) (Or.inl ⟨by rfl, ?ywy32x4⟩) ?fwy32x4 ?_
 case ywy32x4 => (intro wq hq; obtain ⟨g1, g2, g3, g4, g5, g6⟩ := HXX.out wq hq; go_simp; first | done | with_reducible rfl)
 case fwy32x4 => (go_frame; rfl)
 refine wpIn_take (i := 5) (d := (some 12)) (v := .int .i64 ta) (a' := ?awy33x5) rfl rfl (by kernel_rfl) (by kernel_rfl) (by kernel_rfl) (fun _ _ _ h => h) (Or.inl ⟨by rfl, ?ywy33x5⟩) ?fwy33x5 ?_
 case ywy33x5 => (intro wq hq; obtain ⟨g1, g2, g3, g4, g5, g6⟩ := HXX.out wq hq; go_simp; first | done | with_reducible rfl)
 case fwy33x5 => (go_frame; rfl)
 refine wpIn_take (i := 6) (d := (some 13)) (v := .pointer (some ⟨w.heap.size, 1, none⟩)) (a' := ?awy34x6) rfl rfl (by kernel_rfl) (by kernel_rfl) (by kernel_rfl) (fun _ _ _ h => h) (Or.inl ⟨by rfl, ?ywy34x6⟩) ?fwy34x6 ?_
 case ywy34x6 => (intro wq hq; obtain ⟨g1, g2, g3, g4, g5, g6⟩ := HXX.out wq hq; go_simp; first | done | with_reducible rfl)
 case fwy34x6 => (go_frame; rfl)
 refine wpIn_take (i := 7) (d := (some 14)) (v := .slice (some ⟨eb, eo, none⟩) n q.ce) (a' := ?awy35x7) rfl rfl (by kernel_rfl) (by kernel_rfl) (by kernel_rfl) (fun _ _ _ h => h) (Or.inl ⟨by rfl, ?ywy35x7⟩) ?fwy35x7 ?_
 case ywy35x7 => (intro wq hq; obtain ⟨g1, g2, g3, g4, g5, g6⟩ := HXX.out wq hq; go_simp; first | done | with_reducible rfl)
 case fwy35x7 => (go_frame; rfl)
 refine wpIn_take (i := 8) (d := (some 15)) (v := .int .i64 (b : Int)) (a' := ?awy36x8) rfl rfl (by kernel_rfl) (by kernel_rfl) (by kernel_rfl) (fun _ _ _ h => h) (Or.inl ⟨by rfl, ?ywy36x8⟩) ?fwy36x8 ?_
 case ywy36x8 => (intro wq hq; obtain ⟨g1, g2, g3, g4, g5, g6⟩ := HXX.out wq hq; go_simp; first | done | with_reducible rfl)
 case fwy36x8 => (go_frame; rfl)
 refine wpIn_take (i := 9) (d := (some 16)) (v := .pointer (some ⟨eb, eo + b * 16, none⟩)) (a' := ?awy37x9) rfl rfl (by kernel_rfl) (by kernel_rfl) (by kernel_rfl) (fun _ _ _ h => h) (Or.inl ⟨by rfl, ?ywy37x9⟩) ?fwy37x9 ?_
 case ywy37x9 => (intro wq hq; obtain ⟨g1, g2, g3, g4, g5, g6⟩ := HXX.out wq hq; go_simp; first | done | with_reducible rfl)
 case fwy37x9 => (go_frame; rfl)
 refine wpIn_take (i := 10) (d := (some 17)) (v := .pointer (some ⟨eb, eo + b * 16 + 13, none⟩)) (a' := ?awy38x10) rfl rfl (by kernel_rfl) (by kernel_rfl) (by kernel_rfl) (fun _ _ _ h => h) (Or.inl ⟨by rfl, ?ywy38x10⟩) ?fwy38x10 ?_
 case ywy38x10 => (intro wq hq; obtain ⟨g1, g2, g3, g4, g5, g6⟩ := HXX.out wq hq; go_simp; first | done | with_reducible rfl)
 case fwy38x10 => (go_frame; rfl)
 refine wpIn_take (i := 11) (d := (some 18)) (v := .int .i64 ta) (a' := ?awy39x11) rfl rfl (by kernel_rfl) (by kernel_rfl) (by kernel_rfl) (fun _ _ _ h => h) (Or.inl ⟨by rfl, ?ywy39x11⟩) ?fwy39x11 ?_
 case ywy39x11 => (intro wq hq; obtain ⟨g1, g2, g3, g4, g5, g6⟩ := HXX.out wq hq; go_simp; first | done | with_reducible rfl)
 case fwy39x11 => (go_frame; rfl)
 refine wpIn_take (i := 12) (d := (some 19)) (v := .bool false) (a' := ?awy40x12) rfl rfl (by kernel_rfl) (by kernel_rfl) (by kernel_rfl) (fun _ _ _ h => h) (Or.inl ⟨by rfl, ?ywy40x12⟩) ?fwy40x12 ?_
 case ywy40x12 => (intro wq hq; go_simp)
 case fwy40x12 => (go_frame; rfl)
 refine wpIn_done hD (by kernel_rfl) ?_ _
 by_cases hm : na = nb
 case neg =>
  have HR : Hid (R = ltK nb na) := by show _ = _; rw [HY.out, if_pos rfl, if_neg hm]
  have t1 : (na.toList == nb.toList) = false := by rw [beq_eq_false_iff_ne]; intro h; exact hm (toList_inj h)
  have l1 := lessP_ltK nb na
  have l2 : Op.bytesLess na.toList nb.toList = !ltK nb na := by rw [lessP_ltK na nb]; exact ltK_not hm
  clear HY
  go_upto_region 3 with fail
  refine wp_region_in (by kernel_rfl) (fun w' => Below W0.heap.size W0 w') ?_
  change wpIn _ _ _ _ _ _ _ _ (World.drew _)
  refine wpIn_take (i := 0) (d := (some 33)) (v := .pointer (some ⟨w.heap.size, 0, none⟩)) (a' := ?awy41x0) rfl rfl (by kernel_rfl) (by kernel_rfl) (by kernel_rfl) (fun _ _ _ h => h) (Or.inl ⟨by rfl, ?ywy41x0⟩) ?fwy41x0 ?_
  case ywy41x0 => (intro wq hq; obtain ⟨g1, g2, g3, g4, g5, g6⟩ := HXX.out wq hq; go_simp; first | done | with_reducible rfl)
  case fwy41x0 => (go_frame; rfl)
  refine wpIn_take (i := 1) (d := (some 34)) (v := .slice (some ⟨mb, mo, none⟩) n q.cn) (a' := ?awy42x1) rfl rfl (by kernel_rfl) (by kernel_rfl) (by kernel_rfl) (fun _ _ _ h => h) (Or.inl ⟨by rfl, ?ywy42x1⟩) ?fwy42x1 ?_
  case ywy42x1 => (intro wq hq; obtain ⟨g1, g2, g3, g4, g5, g6⟩ := HXX.out wq hq; go_simp; first | done | with_reducible rfl)
  case fwy42x1 => (go_frame; rfl)
  refine wpIn_take (i := 2) (d := (some 35)) (v := .int .i64 (a : Int)) (a' := ?awy43x2) rfl rfl (by kernel_rfl) (by kernel_rfl) (by kernel_rfl) (fun _ _ _ h => h) (Or.inl ⟨by rfl, ?ywy43x2⟩) ?fwy43x2 ?_
  case ywy43x2 => (intro wq hq; obtain ⟨g1, g2, g3, g4, g5, g6⟩ := HXX.out wq hq; go_simp; first | done | with_reducible rfl)
  case fwy43x2 => (go_frame; rfl)
  refine wpIn_take (i := 3) (d := (some 36)) (v := .pointer (some ⟨mb, mo + a, none⟩)) (a' := ?awy44x3) rfl rfl (by kernel_rfl) (by kernel_rfl) (by kernel_rfl) (fun _ _ _ h => h) (Or.inl ⟨by rfl, ?ywy44x3⟩) ?fwy44x3 ?_
  case ywy44x3 => (intro wq hq; obtain ⟨g1, g2, g3, g4, g5, g6⟩ := HXX.out wq hq; go_simp; first | done | with_reducible rfl)
  case fwy44x3 => (go_frame; rfl)
  refine wpIn_take (i := 4) (d := (some 37)) (v := .string na) (a' := ?awy45x4) rfl rfl (by kernel_rfl) (by kernel_rfl) (by kernel_rfl) (fun _ _ _ h => h) (Or.inl ⟨by rfl, ?ywy45x4⟩) ?fwy45x4 ?_
  case ywy45x4 => (intro wq hq; obtain ⟨g1, g2, g3, g4, g5, g6⟩ := HXX.out wq hq; go_simp; first | done | with_reducible rfl)
  case fwy45x4 => (go_frame; rfl)
  refine wpIn_take (i := 5) (d := (some 38)) (v := .pointer (some ⟨w.heap.size, 0, none⟩)) (a' := ?awy46x5) rfl rfl (by kernel_rfl) (by kernel_rfl) (by kernel_rfl) (fun _ _ _ h => h) (Or.inl ⟨by rfl, ?ywy46x5⟩) ?fwy46x5 ?_
  case ywy46x5 => (intro wq hq; obtain ⟨g1, g2, g3, g4, g5, g6⟩ := HXX.out wq hq; go_simp; first | done | with_reducible rfl)
  case fwy46x5 => (go_frame; rfl)
  refine wpIn_take (i := 6) (d := (some 39)) (v := .slice (some ⟨mb, mo, none⟩) n q.cn) (a' := ?awy47x6) rfl rfl (by kernel_rfl) (by kernel_rfl) (by kernel_rfl) (fun _ _ _ h => h) (Or.inl ⟨by rfl, ?ywy47x6⟩) ?fwy47x6 ?_
  case ywy47x6 => (intro wq hq; obtain ⟨g1, g2, g3, g4, g5, g6⟩ := HXX.out wq hq; go_simp; first | done | with_reducible rfl)
  case fwy47x6 => (go_frame; rfl)
  refine wpIn_take (i := 7) (d := (some 40)) (v := .int .i64 (b : Int)) (a' := ?awy48x7) rfl rfl (by kernel_rfl) (by kernel_rfl) (by kernel_rfl) (fun _ _ _ h => h) (Or.inl ⟨by rfl, ?ywy48x7⟩) ?fwy48x7 ?_
  case ywy48x7 => (intro wq hq; obtain ⟨g1, g2, g3, g4, g5, g6⟩ := HXX.out wq hq; go_simp; first | done | with_reducible rfl)
  case fwy48x7 => (go_frame; rfl)
  refine wpIn_take (i := 8) (d := (some 41)) (v := .pointer (some ⟨mb, mo + b, none⟩)) (a' := ?awy49x8) rfl rfl (by kernel_rfl) (by kernel_rfl) (by kernel_rfl) (fun _ _ _ h => h) (Or.inl ⟨by rfl, ?ywy49x8⟩) ?fwy49x8 ?_
  case ywy49x8 => (intro wq hq; obtain ⟨g1, g2, g3, g4, g5, g6⟩ := HXX.out wq hq; go_simp; first | done | with_reducible rfl)
  case fwy49x8 => (go_frame; rfl)
  refine wpIn_take (i := 9) (d := (some 42)) (v := .string nb) (a' := ?awy50x9) rfl rfl (by kernel_rfl) (by kernel_rfl) (by kernel_rfl) (fun _ _ _ h => h) (Or.inl ⟨by rfl, ?ywy50x9⟩) ?fwy50x9 ?_
  case ywy50x9 => (intro wq hq; obtain ⟨g1, g2, g3, g4, g5, g6⟩ := HXX.out wq hq; go_simp; first | done | with_reducible rfl)
  case fwy50x9 => (go_frame; rfl)
  refine wpIn_take (i := 10) (d := (some 43)) (v := .bool true) (a' := ?awy51x10) rfl rfl (by kernel_rfl) (by kernel_rfl) (by kernel_rfl) (fun _ _ _ h => h) (Or.inl ⟨by rfl, ?ywy51x10⟩) ?fwy51x10 ?_
  case ywy51x10 => (intro wq hq; go_simp)
  case fwy51x10 => (go_frame; rfl)
  refine wpIn_done hD2 (by kernel_rfl) ?_ _
  go_upto_region 4 with fail
  refine wp_region_in (by kernel_rfl) (fun w' => Below W0.heap.size W0 w') ?_
  change wpIn _ _ _ _ _ _ _ _ (World.drew _)
  refine wpIn_take (i := 0) (d := (some 44)) (v := .pointer (some ⟨w.heap.size, 0, none⟩)) (a' := ?awy52x0) rfl rfl (by kernel_rfl) (by kernel_rfl) (by kernel_rfl) (fun _ _ _ h => h) (Or.inl ⟨by rfl, ?ywy52x0⟩) ?fwy52x0 ?_
  case ywy52x0 => (intro wq hq; obtain ⟨g1, g2, g3, g4, g5, g6⟩ := HXX.out wq hq; go_simp; first | done | with_reducible rfl)
  case fwy52x0 => (go_frame; rfl)
  refine wpIn_take (i := 1) (d := (some 45)) (v := .slice (some ⟨mb, mo, none⟩) n q.cn) (a' := ?awy53x1) rfl rfl (by kernel_rfl) (by kernel_rfl) (by kernel_rfl) (fun _ _ _ h => h) (Or.inl ⟨by rfl, ?ywy53x1⟩) ?fwy53x1 ?_
  case ywy53x1 => (intro wq hq; obtain ⟨g1, g2, g3, g4, g5, g6⟩ := HXX.out wq hq; go_simp; first | done | with_reducible rfl)
  case fwy53x1 => (go_frame; rfl)
  refine wpIn_take (i := 2) (d := (some 46)) (v := .int .i64 (a : Int)) (a' := ?awy54x2) rfl rfl (by kernel_rfl) (by kernel_rfl) (by kernel_rfl) (fun _ _ _ h => h) (Or.inl ⟨by rfl, ?ywy54x2⟩) ?fwy54x2 ?_
  case ywy54x2 => (intro wq hq; obtain ⟨g1, g2, g3, g4, g5, g6⟩ := HXX.out wq hq; go_simp; first | done | with_reducible rfl)
  case fwy54x2 => (go_frame; rfl)
  refine wpIn_take (i := 3) (d := (some 47)) (v := .pointer (some ⟨mb, mo + a, none⟩)) (a' := ?awy55x3) rfl rfl (by kernel_rfl) (by kernel_rfl) (by kernel_rfl) (fun _ _ _ h => h) (Or.inl ⟨by rfl, ?ywy55x3⟩) ?fwy55x3 ?_
  case ywy55x3 => (intro wq hq; obtain ⟨g1, g2, g3, g4, g5, g6⟩ := HXX.out wq hq; go_simp; first | done | with_reducible rfl)
  case fwy55x3 => (go_frame; rfl)
  refine wpIn_take (i := 4) (d := (some 48)) (v := .string na) (a' := ?awy56x4) rfl rfl (by kernel_rfl) (by kernel_rfl) (by kernel_rfl) (fun _ _ _ h => h) (Or.inl ⟨by rfl, ?ywy56x4⟩) ?fwy56x4 ?_
  case ywy56x4 => (intro wq hq; obtain ⟨g1, g2, g3, g4, g5, g6⟩ := HXX.out wq hq; go_simp; first | done | with_reducible rfl)
  case fwy56x4 => (go_frame; rfl)
  refine wpIn_take (i := 5) (d := (some 49)) (v := .pointer (some ⟨w.heap.size, 0, none⟩)) (a' := ?awy57x5) rfl rfl (by kernel_rfl) (by kernel_rfl) (by kernel_rfl) (fun _ _ _ h => h) (Or.inl ⟨by rfl, ?ywy57x5⟩) ?fwy57x5 ?_
  case ywy57x5 => (intro wq hq; obtain ⟨g1, g2, g3, g4, g5, g6⟩ := HXX.out wq hq; go_simp; first | done | with_reducible rfl)
  case fwy57x5 => (go_frame; rfl)
  refine wpIn_take (i := 6) (d := (some 50)) (v := .slice (some ⟨mb, mo, none⟩) n q.cn) (a' := ?awy58x6) rfl rfl (by kernel_rfl) (by kernel_rfl) (by kernel_rfl) (fun _ _ _ h => h) (Or.inl ⟨by rfl, ?ywy58x6⟩) ?fwy58x6 ?_
  case ywy58x6 => (intro wq hq; obtain ⟨g1, g2, g3, g4, g5, g6⟩ := HXX.out wq hq; go_simp; first | done | with_reducible rfl)
  case fwy58x6 => (go_frame; rfl)
  refine wpIn_take (i := 7) (d := (some 51)) (v := .int .i64 (b : Int)) (a' := ?awy59x7) rfl rfl (by kernel_rfl) (by kernel_rfl) (by kernel_rfl) (fun _ _ _ h => h) (Or.inl ⟨by rfl, ?ywy59x7⟩) ?fwy59x7 ?_
  case ywy59x7 => (intro wq hq; obtain ⟨g1, g2, g3, g4, g5, g6⟩ := HXX.out wq hq; go_simp; first | done | with_reducible rfl)
  case fwy59x7 => (go_frame; rfl)
  refine wpIn_take (i := 8) (d := (some 52)) (v := .pointer (some ⟨mb, mo + b, none⟩)) (a' := ?awy60x8) rfl rfl (by kernel_rfl) (by kernel_rfl) (by kernel_rfl) (fun _ _ _ h => h) (Or.inl ⟨by rfl, ?ywy60x8⟩) ?fwy60x8 ?_
  case ywy60x8 => (intro wq hq; obtain ⟨g1, g2, g3, g4, g5, g6⟩ := HXX.out wq hq; go_simp; first | done | with_reducible rfl)
  case fwy60x8 => (go_frame; rfl)
  refine wpIn_take (i := 9) (d := (some 53)) (v := .string nb) (a' := ?awy61x9) rfl rfl (by kernel_rfl) (by kernel_rfl) (by kernel_rfl) (fun _ _ _ h => h) (Or.inl ⟨by rfl, ?ywy61x9⟩) ?fwy61x9 ?_
  case ywy61x9 => (intro wq hq; obtain ⟨g1, g2, g3, g4, g5, g6⟩ := HXX.out wq hq; go_simp; first | done | with_reducible rfl)
  case fwy61x9 => (go_frame; rfl)
  refine wpIn_take (i := 10) (d := (some 54)) (v := .bool (ltK nb na)) (a' := ?awy62x10) rfl rfl (by kernel_rfl) (by kernel_rfl) (by kernel_rfl) (fun _ _ _ h => h) (Or.inl ⟨by rfl, ?ywy62x10⟩) ?fwy62x10 ?_
  case ywy62x10 => (intro wq hq; obtain ⟨g1, g2, g3, g4, g5, g6⟩ := HXX.out wq hq; go_simp; first | done | exact l2 | with_reducible rfl)
  case fwy62x10 => (go_frame; rfl)
  refine wpIn_take (i := 11) (d := (some 6)) (v := .bool (ltK nb na)) (a' := ?awy63x11) rfl rfl (by kernel_rfl) (by kernel_rfl) (by kernel_rfl) (fun _ _ _ h => h) (Or.inl ⟨by rfl, ?ywy63x11⟩) ?fwy63x11 ?_
  case ywy63x11 => (intro wq hq; go_simp; first | done | with_reducible rfl)
  case fwy63x11 => (go_frame; rfl)
  refine wpIn_done hD3 (by kernel_rfl) ?_ _
  go_wp2
  go_ret
  exact ⟨ret_bool HR.out.symm, belowP hb0 hD3⟩
 subst hm
 have HR : Hid (R = decide (b < a)) := by show _ = _; rw [HY.out, if_pos rfl, if_pos rfl]
 clear HY
 go_upto_region 3 with fail
 refine wp_region_in (by kernel_rfl) (fun w' => Below W0.heap.size W0 w') ?_
 change wpIn _ _ _ _ _ _ _ _ (World.drew _)
 refine wpIn_take (i := 0) (d := (some 33)) (v := .pointer (some ⟨w.heap.size, 0, none⟩)) (a' := ?awy64x0) rfl rfl (by kernel_rfl) (by kernel_rfl) (by kernel_rfl) (fun _ _ _ h => h) (Or.inl ⟨by rfl, ?ywy64x0⟩) ?fwy64x0 ?_
 case ywy64x0 => (intro wq hq; obtain ⟨g1, g2, g3, g4, g5, g6⟩ := HXX.out wq hq; go_simp; first | done | with_reducible rfl)
 case fwy64x0 => (go_frame; rfl)
 refine wpIn_take (i := 1) (d := (some 34)) (v := .slice (some ⟨mb, mo, none⟩) n q.cn) (a' := ?awy65x1) rfl rfl (by kernel_rfl) (by kernel_rfl) (by kernel_rfl) (fun _ _ _ h => h) (Or.inl ⟨by rfl, ?ywy65x1⟩) ?fwy65x1 ?_
 case ywy65x1 => (intro wq hq; obtain ⟨g1, g2, g3, g4, g5, g6⟩ := HXX.out wq hq; go_simp; first | done | with_reducible rfl)
 case fwy65x1 => (go_frame; rfl)
 refine wpIn_take (i := 2) (d := (some 35)) (v := .int .i64 (a : Int)) (a' := ?awy66x2) rfl rfl (by kernel_rfl) (by kernel_rfl) (by kernel_rfl) (fun _ _ _ h => h) (Or.inl ⟨by rfl, ?ywy66x2⟩) ?fwy66x2 ?_
 case ywy66x2 => (intro wq hq; obtain ⟨g1, g2, g3, g4, g5, g6⟩ := HXX.out wq hq; go_simp; first | done | with_reducible rfl)
 case fwy66x2 => (go_frame; rfl)
 refine wpIn_take (i := 3) (d := (some 36)) (v := .pointer (some ⟨mb, mo + a, none⟩)) (a' := ?awy67x3) rfl rfl (by kernel_rfl) (by kernel_rfl) (by kernel_rfl) (fun _ _ _ h => h) (Or.inl ⟨by rfl, ?ywy67x3⟩) ?fwy67x3 ?_
 case ywy67x3 => (intro wq hq; obtain ⟨g1, g2, g3, g4, g5, g6⟩ := HXX.out wq hq; go_simp; first | done | with_reducible rfl)
 case fwy67x3 => (go_frame; rfl)
 refine wpIn_take (i := 4) (d := (some 37)) (v := .string na) (a' := ?awy68x4) rfl rfl (by kernel_rfl) (by kernel_rfl) (by kernel_rfl) (fun _ _ _ h => h) (Or.inl ⟨by rfl, ?ywy68x4⟩) ?fwy68x4 ?_
 case ywy68x4 => (intro wq hq; obtain ⟨g1, g2, g3, g4, g5, g6⟩ := HXX.out wq hq; go_simp; first | done | with_reducible rfl)
 case fwy68x4 => (go_frame; rfl)
 refine wpIn_take (i := 5) (d := (some 38)) (v := .pointer (some ⟨w.heap.size, 0, none⟩)) (a' := ?awy69x5) rfl rfl (by kernel_rfl) (by kernel_rfl) (by kernel_rfl) (fun _ _ _ h => h) (Or.inl ⟨by rfl, ?ywy69x5⟩) ?fwy69x5 ?_
 case ywy69x5 => (intro wq hq; obtain ⟨g1, g2, g3, g4, g5, g6⟩ := HXX.out wq hq; go_simp; first | done | with_reducible rfl)
 case fwy69x5 => (go_frame; rfl)
 refine wpIn_take (i := 6) (d := (some 39)) (v := .slice (some ⟨mb, mo, none⟩) n q.cn) (a' := ?awy70x6) rfl rfl (by kernel_rfl) (by kernel_rfl) (by kernel_rfl) (fun _ _ _ h => h) (Or.inl ⟨by rfl, ?ywy70x6⟩) ?fwy70x6 ?_
 case ywy70x6 => (intro wq hq; obtain ⟨g1, g2, g3, g4, g5, g6⟩ := HXX.out wq hq; go_simp; first | done | with_reducible rfl)
 case fwy70x6 => (go_frame; rfl)
 refine wpIn_take (i := 7) (d := (some 40)) (v := .int .i64 (b : Int)) (a' := ?awy71x7) rfl rfl (by kernel_rfl) (by kernel_rfl) (by kernel_rfl) (fun _ _ _ h => h) (Or.inl ⟨by rfl, ?ywy71x7⟩) ?fwy71x7 ?_
 case ywy71x7 => (intro wq hq; obtain ⟨g1, g2, g3, g4, g5, g6⟩ := HXX.out wq hq; go_simp; first | done | with_reducible rfl)
 case fwy71x7 => (go_frame; rfl)
 refine wpIn_take (i := 8) (d := (some 41)) (v := .pointer (some ⟨mb, mo + b, none⟩)) (a' := ?awy72x8) rfl rfl (by kernel_rfl) (by kernel_rfl) (by kernel_rfl) (fun _ _ _ h => h) (Or.inl ⟨by rfl, ?ywy72x8⟩) ?fwy72x8 ?_
 case ywy72x8 => (intro wq hq; obtain ⟨g1, g2, g3, g4, g5, g6⟩ := HXX.out wq hq; go_simp; first | done | with_reducible rfl)
 case fwy72x8 => (go_frame; rfl)
 refine wpIn_take (i := 9) (d := (some 42)) (v := .string na) (a' := ?awy73x9) rfl rfl (by kernel_rfl) (by kernel_rfl) (by kernel_rfl) (fun _ _ _ h => h) (Or.inl ⟨by rfl, ?ywy73x9⟩) ?fwy73x9 ?_
 case ywy73x9 => (intro wq hq; obtain ⟨g1, g2, g3, g4, g5, g6⟩ := HXX.out wq hq; go_simp; first | done | with_reducible rfl)
 case fwy73x9 => (go_frame; rfl)
 refine wpIn_take (i := 10) (d := (some 43)) (v := .bool false) (a' := ?awy74x10) rfl rfl (by kernel_rfl) (by kernel_rfl) (by kernel_rfl) (fun _ _ _ h => h) (Or.inl ⟨by rfl, ?ywy74x10⟩) ?fwy74x10 ?_
 case ywy74x10 => (intro wq hq; go_simp)
 case fwy74x10 => (go_frame; rfl)
 refine wpIn_done hD2 (by kernel_rfl) ?_ _
 go_wp2
 go_ret
 exact ⟨ret_bool (by rw [HR.out]), belowP hb0 hD2⟩
theorem pos_get {T : List Nat} (h : T.Nodup) {i : Nat} (hi : i < T.length) : T.idxOf T[i] = i := by
 have h1 := List.idxOf_lt_length_iff.2 (List.getElem_mem hi)
 have h2 : T[T.idxOf T[i]] = T[i] := List.getElem_idxOf h1
 exact (List.getElem_inj h).1 h2
def aheadT (p : Pa) (a b : Nat) : Bool := decide (levelT p b < levelT p a) || (decide (levelT p a = levelT p b) && youngT p b a)
theorem ahead_lt (p : Pa) (a b : Nat) : aheadT p a b = true ↔ LtT (levelT p) p a b := by
 unfold aheadT LtT
 have := young_lt (levelT p) p b a
 rw [show (decide (levelT p a > levelT p b)) = decide (levelT p b < levelT p a) from rfl] at this
 rw [this, decide_eq_true_eq]
noncomputable def upM (Q : List (List Nat)) (S : List Nat) (k : Nat) : List Nat := (List.range S.length).filter fun t => decide (S.getD t 0 ∈ chT Q [S.getD k 0])
def cntM (p : Pa) (S : List Nat) (k : Nat) : Nat := ((List.range S.length).filter fun t => aheadT p (S.getD t 0) (S.getD k 0)).length
noncomputable def parM (p : Pa) (S : List Nat) : List (List Nat) := (List.range S.length).map (upM (toQ p.auth) S)
def rnkM (p : Pa) (S : List Nat) : List Int := (List.range S.length).map fun k => (cntM p S k : Int)
theorem filter_at (S : List Nat) (A : Nat → Bool) : ((List.range S.length).filter fun t => A (S.getD t 0)).length = (S.filter A).length := by
 have e : S = (List.range S.length).map fun t => S.getD t 0 := by
  apply List.ext_getElem
  · simp
  · intro i h1 h2
    simp only [List.getElem_map, List.getElem_range]
    rw [getD_in h1]
 conv => rhs; rw [e, List.filter_map, List.length_map]
 rfl
theorem ahead_idx {p : Pa} : ∀ {L : List Nat}, L.Pairwise (LtT (levelT p) p) → ∀ {x : Nat}, x ∈ L → (L.filter fun y => aheadT p y x).length = L.idxOf x
 | [], _, x, h => by cases h
 | y :: r, hp, x, h => by
  rw [List.pairwise_cons] at hp
  by_cases e : y = x
  · subst e
    have h0 : aheadT p y y = false := by
     cases hc : aheadT p y y with
     | true => exact absurd ((ahead_lt p y y).1 hc) (ltT_irrefl _ p y)
     | false => rfl
    have h1 : (r.filter fun z => aheadT p z y) = [] := by
     rw [List.filter_eq_nil_iff]
     intro z hz hc
     exact ltT_irrefl _ p y (ltT_trans (hp.1 z hz) ((ahead_lt p z y).1 hc))
    rw [List.filter_cons, h0, List.idxOf_cons_self]
    simp [h1]
  · have hx : x ∈ r := (List.mem_cons.1 h).resolve_left fun e' => e e'.symm
    have h0 : aheadT p y x = true := (ahead_lt p y x).2 (hp.1 x hx)
    rw [List.filter_cons, h0, if_pos rfl, List.length_cons, ahead_idx hp.2 hx, List.idxOf_cons, show (y == x) = false from by simpa using e]
    rfl
theorem cnt_idx {p : Pa} {S L : List Nat} (h : Rkd (levelT p) p S L) {k : Nat} (hk : k < S.length) : cntM p S k = L.idxOf (S.getD k 0) := by
 unfold cntM
 rw [filter_at S fun y => aheadT p y (S.getD k 0)]
 rw [(h.perm.symm.filter _).length_eq]
 exact ahead_idx h.sorted (h.perm.mem_iff.2 (getD_inm hk))
theorem lead_idx {Q : List (List Nat)} {Th : List Nat} (hc : ∀ x ∈ Th, ∀ y ∈ par Q x, y ∈ Th) {x : Nat} (hx : x ∈ Th) {y : Nat} (h : Lead Q [x] y) : y ∈ Th ∧ Lead (rwsT Q Th) [Th.idxOf x] (Th.idxOf y) := by
 have key : ∀ {b y : Nat}, b ∈ Th → y ∈ par Q b → y ∈ Th ∧ Th.idxOf y ∈ par (rwsT Q Th) (Th.idxOf b) := by
  intro b y hb hy
  refine ⟨hc b hb y hy, ?_⟩
  rw [par_rws (idx_lt hb)]
  unfold rwT
  rw [List.mem_map]
  exact ⟨y, by rw [idx_get hb]; exact hy, idx_zs _ _⟩
 induction h with
 | one h1 h2 =>
  rw [List.mem_singleton.1 h1] at h2
  have := key hx h2
  exact ⟨this.1, .one (List.mem_singleton.2 rfl) this.2⟩
 | more h1 h2 ih =>
  have := key ih.1 h2
  exact ⟨this.1, .more ih.2 this.2⟩
theorem idx_lead {Q : List (List Nat)} {Th : List Nat} (hc : ∀ x ∈ Th, ∀ y ∈ par Q x, y ∈ Th) {a i : Nat} (ha : a < Th.length) (h : Lead (rwsT Q Th) [a] i) : i < Th.length ∧ Lead Q [Th.getD a 0] (Th.getD i 0) := by
 have key : ∀ {b j : Nat}, b < Th.length → j ∈ par (rwsT Q Th) b → j < Th.length ∧ Th.getD j 0 ∈ par Q (Th.getD b 0) := by
  intro b j hb hj
  rw [par_rws hb] at hj
  unfold rwT at hj
  rw [List.mem_map] at hj
  obtain ⟨y, hy, e⟩ := hj
  rw [idx_zs] at e
  have hyT := hc _ (getD_inm hb) y hy
  subst e
  exact ⟨idx_lt hyT, by rw [idx_get hyT]; exact hy⟩
 induction h with
 | one h1 h2 =>
  rw [List.mem_singleton.1 h1] at h2
  have := key ha h2
  exact ⟨this.1, .one (List.mem_singleton.2 rfl) this.2⟩
 | more h1 h2 ih =>
  have := key ih.1 h2
  exact ⟨this.1, .more ih.2 this.2⟩
theorem byp_same {p : Pa} {l : List Int} {L T T' : List Nat} (hr : rightT p = true) (hL : Rkd (levelT p) p (thereT p.evs.length l) L)
    (hT : lin (rwsT (toQ p.auth) (thT (toQ p.auth) (thereT p.evs.length l) p.evs.length)) (rkT L (thT (toQ p.auth) (thereT p.evs.length l) p.evs.length)) = some T)
    (hT' : lin (parM p (thereT p.evs.length l)) (rnkM p (thereT p.evs.length l)) = some T') :
    toldT (thT (toQ p.auth) (thereT p.evs.length l) p.evs.length) (rkT L (thT (toQ p.auth) (thereT p.evs.length l) p.evs.length)) T = T'.map fun k => (thereT p.evs.length l).getD k 0 := by
 have hQ : BackQ (toQ p.auth) := (back_of (right_parts hr).2.1).2.1
 have hS : ∀ x ∈ thereT p.evs.length l, x < p.evs.length := fun x hx => (there_mem.1 hx).1
 have hSr := there_rises p.evs.length l
 have hSn : (thereT p.evs.length l).Nodup := hSr.imp fun h => by omega
 have hST : ∀ x ∈ thereT p.evs.length l, x ∈ thT (toQ p.auth) (thereT p.evs.length l) p.evs.length := fun x hx => (thT_mem hQ hS).2 (.inl hx)
 have hc : ∀ x ∈ thT (toQ p.auth) (thereT p.evs.length l) p.evs.length, ∀ y ∈ par (toQ p.auth) x, y ∈ thT (toQ p.auth) (thereT p.evs.length l) p.evs.length := fun x hx y hy => thT_chain hQ hS hx hy
 have hTr := thT_rises (toQ p.auth) (thereT p.evs.length l) p.evs.length
 generalize thT (toQ p.auth) (thereT p.evs.length l) p.evs.length = Th at *
 generalize hSS : thereT p.evs.length l = S at *
 have hql : (rwsT (toQ p.auth) Th).length = Th.length := by simp [rwsT]
 have hpl : (parM p S).length = S.length := by simp [parM]
 have hrk : ∀ i, i < Th.length → rk (rkT L Th) i = rkV L (Th.getD i 0) := by
  intro i hi
  unfold rk rkT
  rw [List.getD_eq_getElem?_getD, List.getElem?_map, List.getElem?_eq_getElem hi, getD_in hi]
  rfl
 have hin : ∀ a, a < S.length → S.getD a 0 ∈ L := fun a ha => hL.perm.mem_iff.2 (getD_inm ha)
 have hf : ∀ a, a < S.length → Th.idxOf (S.getD a 0) < Th.length := fun a ha => idx_lt (hST _ (getD_inm ha))
 have hfr : ∀ a, a < S.length → rk (rkT L Th) (Th.idxOf (S.getD a 0)) = (L.idxOf (S.getD a 0) : Int) + 1 := fun a ha => by
  rw [hrk _ (hf a ha), idx_get (hST _ (getD_inm ha)), rkV_in (hin a ha)]
 have hinj : ∀ a b, a < S.length → b < S.length → S.getD a 0 = S.getD b 0 → a = b := fun a b ha hb e => by
  rw [getD_in ha, getD_in hb] at e
  exact (List.getElem_inj hSn).1 e
 have hidx : ∀ {M : List Nat} {x y : Nat}, x ∈ M → y ∈ M → M.idxOf x = M.idxOf y → x = y := fun {M x y} hx hy e => by
  rw [← idx_get hx, ← idx_get hy, e]
 have hrr : ∀ a, a < S.length → rk (rnkM p S) a = (L.idxOf (S.getD a 0) : Int) := fun a ha => by
  unfold rk rnkM
  rw [List.getD_eq_getElem?_getD, List.getElem?_map, List.getElem?_range ha]
  simp only [Option.map_some, Option.getD_some]
  rw [cnt_idx hL ha]
 have hpar : ∀ a, a < S.length → par (parM p S) a = upM (toQ p.auth) S a := fun a ha => by
  unfold par parM
  rw [List.getD_eq_getElem?_getD, List.getElem?_map, List.getElem?_range ha]
  rfl
 have H : Sub (rwsT (toQ p.auth) Th) (parM p S) (rkT L Th) (rnkM p S) (fun k => Th.idxOf (S.getD k 0)) := by
  refine ⟨rws_back hQ hTr hc, ?_, ?_, ?_, ?_, ?_, ?_, ?_⟩
  · intro a b ha hb e
    rw [hpl] at ha hb
    exact hinj a b ha hb (hidx (hST _ (getD_inm ha)) (hST _ (getD_inm hb)) e)
  · intro a ha
    rw [hpl] at ha
    rw [hql]
    exact hf a ha
  · intro a ha
    rw [hpl] at ha
    show 0 < rk (rkT L Th) (Th.idxOf (S.getD a 0))
    rw [hfr a ha]
    omega
  · intro i hi h0
    rw [hql] at hi
    rw [hrk i hi] at h0
    have hm : Th.getD i 0 ∈ L := by
     refine Classical.byContradiction fun hn => ?_
     rw [rkV_out hn] at h0
     omega
    have hmS := hL.perm.mem_iff.1 hm
    refine ⟨S.idxOf (Th.getD i 0), by rw [hpl]; exact idx_lt hmS, ?_⟩
    show Th.idxOf (S.getD (S.idxOf (Th.getD i 0)) 0) = i
    rw [idx_get hmS]
    have hTn : Th.Nodup := hTr.imp fun h => by omega
    rw [getD_in hi]
    exact pos_get hTn hi
  · intro a ha b hb
    rw [hpl] at ha hb
    rw [hpar a ha]
    unfold upM
    rw [List.mem_filter, List.mem_range, decide_eq_true_eq, cht_mem hQ]
    have haT := hST _ (getD_inm (d := 0) ha)
    have hbT := hST _ (getD_inm (d := 0) hb)
    constructor
    · rintro ⟨_, h⟩
      exact (lead_idx hc haT h).2
    · intro h
      have := (idx_lead hc (idx_lt haT) h).2
      rw [idx_get haT, idx_get hbT] at this
      exact ⟨hb, this⟩
  · intro a b hb
    by_cases ha : a < S.length
    · rw [hpar a ha] at hb
      unfold upM at hb
      rw [hpl]
      exact List.mem_range.1 (List.mem_filter.1 hb).1
    · unfold par at hb
      rw [List.getD_eq_getElem?_getD, List.getElem?_eq_none (by rw [hpl]; omega)] at hb
      cases hb
  · intro a b ha hb
    rw [hpl] at ha hb
    unfold Lt
    rw [hrr a ha, hrr b hb]
    show _ ↔ rk (rkT L Th) (Th.idxOf (S.getD a 0)) < rk (rkT L Th) (Th.idxOf (S.getD b 0)) ∨ rk (rkT L Th) (Th.idxOf (S.getD a 0)) = rk (rkT L Th) (Th.idxOf (S.getD b 0)) ∧ Th.idxOf (S.getD a 0) < Th.idxOf (S.getD b 0)
    rw [hfr a ha, hfr b hb]
    constructor
    · rintro (h | ⟨h, h2⟩)
      · exact .inl (by omega)
      · have := hinj a b ha hb (hidx (hin a ha) (hin b hb) (by omega))
        omega
    · rintro (h | ⟨h, h2⟩)
      · exact .inl (by omega)
      · have := hinj a b ha hb (hidx (hin a ha) (hin b hb) (by omega))
        subst this
        omega
 have hz : ∀ i, 0 ≤ rk (rkT L Th) i := fun i => by
  by_cases hi : i < Th.length
  · rw [hrk i hi]
    by_cases hm : Th.getD i 0 ∈ L
    · rw [rkV_in hm]; omega
    · rw [rkV_out hm]; omega
  · unfold rk rkT
    rw [List.getD_eq_getElem?_getD, List.getElem?_eq_none (by simpa using hi)]
    simp
 have hs := sub_told H hz hT hT'
 unfold toldT
 rw [hs, List.map_map]
 refine List.map_congr_left fun k hk => ?_
 have hk' := (lin_fit hT').1.lt k hk
 rw [hpl] at hk'
 show Th.getD (Th.idxOf (S.getD k 0)) 0 = S.getD k 0
 exact idx_get (hST _ (getD_inm hk'))
end Go.Proofs.YtimhpglfolbomaaGreat.Od

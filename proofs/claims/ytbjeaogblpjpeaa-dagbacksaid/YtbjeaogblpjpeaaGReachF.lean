/-
  Past, by a contract.
-/
import Derived.Test.YtbjeaogblpjpeaaGDown
namespace Go.Proofs.Ytbjeaogblpjpeaa
open Go.RowKit Go.Maps

set_option maxRecDepth 100000 in
set_option maxHeartbeats 4000000 in
theorem reachedF_any {O : Nat → Prop} {g : Option Addr} {T : List Th} (F : Nat → Prop) (L : List Bool) (fb : Nat) (w : World) (h : Gq O w g T) (hg : Good T) (hT : T.length ≤ 100) (hfb : Bk w fb L) (hL : L.length ≤ T.length) (hat : ∀ j, j < L.length → (L.getD j false = true ↔ F j)) (hF : ∀ i, F i → i < L.length) :
    Calls Try.prog 36 #[.slice (some ⟨fb, 0, none⟩) L.length L.length, .func (.func 34) #[.pointer g] #[]] w (ReachP T.length (prevs T) F w) := by
  have HL : Hid (T = [] ∨ ∀ k, O k → k < w.heap.size) := h.lt
  have HQ : Hid (∀ wx, Below w.heap.size w wx → Gq O wx g T) := fun wx hb => h.below hb
  have HFB : Hid (∀ wx, Below w.heap.size w wx → Bk wx fb L) := fun wx hb => bk_below hfb hb
  have HAT : Hid (∀ j, j < L.length → (L.getD j false = true ↔ F j)) := hat
  obtain ⟨M, hM⟩ : ∃ M, L.length = M := ⟨_, rfl⟩
  have HM : Hid (L.length = M) := hM
  have HTOP : Hid (ComeP M (prevs T) F M (List.replicate M false)) := come_top hg.pl (by rw [← hM]; exact hF)
  have HEND : Hid (reach M (prevs T) F = reach T.length (prevs T) F) := reach_cut hg.pl (by rw [← hM]; exact hF) (by rw [← hM]; exact hL)
  have HG : Hid (Good T) := hg
  rw [hM] at hL ⊢
  clear hF hat hg h hM hfb
  go_enter Try.func36, Try.ntmps36
  go_wp2_with (first
    | (at_make; refine wpList_bools rfl (.tmp 9) (.tmp 9) rfl M (by omega) rfl rfl ?_))
  intro w1 hsz1 hb1 hbk1
  have HB1 : Hid (Bk w1 w.heap.size (List.replicate M false)) := hbk1
  have HBb1 : Hid (Below w.heap.size w w1) := hb1
  clear hbk1 hb1
  go_wp2
  go_loopw [6, 7] (fun v i wr => ∃ k : Nat, ∃ C : List Bool, k ≤ M ∧ i = .int .i64 ((k : Int) - 1) ∧ Bk wr w.heap.size C ∧ ComeP M (prevs T) F k C ∧ wr.ownsRow w.heap.size 3 1 v (zs (downs M (prevs T) F k)).length ((zs (downs M (prevs T) F k)).map (Value.int .i64)) ∧ Below w.heap.size w wr) (fun _ i _ => (intOf i + 1).toNat)
  case atStart => exact ⟨M, List.replicate M false, Nat.le_refl _, rfl, HB1.out, HTOP.out, by rw [downs_top]; exact World.ownsRow_nil _ _ _ _, HBb1.out⟩
  case round =>
    clear HB1 HBb1 hsz1
    obtain ⟨k, C, hk, rfl, hC, hcome, hown, hb⟩ := hrel
    have HCM : Hid (ComeP M (prevs T) F k C) := hcome
    have hsz := hb.size
    clear hcome
    have hCL : Hid (C.length = M) := HCM.out.1
    cases k with
    | zero =>
      have hrev := reverse_own wr hown (by have := downs_len M (prevs T) F 0; omega)
      have HR : Hid (zs (reach T.length (prevs T) F) = (zs (downs M (prevs T) F 0)).reverse) := by show _ = _; rw [← HEND.out, ← downs_zero]; simp [zs]
      generalize zs (downs M (prevs T) F 0) = D at *
      go_wp2_with (first
        | (go_at_call 42; refine hrev.mono ?_; rintro e w2 ⟨rfl, ho2, hg2⟩))
      go_ret
      refine ⟨_, rfl, ?_, below_row hb hg2 hown hsz⟩
      rw [HR.out, List.length_reverse]
      exact ho2
    | succ m =>
      have hm : m < M := by omega
      have ei : ((m + 1 : Nat) : Int) - 1 = (m : Int) := by omega
      rw [ei]
      have hTn : ∀ k, O k → k < w.heap.size := by
        rcases HL.out with rfl | h'
        · simp at hL; omega
        · exact h'
      have HTN : Hid (∀ k, O k → k < w.heap.size) := hTn
      clear hTn
      have hself : C.getD m false = true ↔ Rch (prevs T) F m := (HCM.out.2 m hm).trans (cm_self HG.out.pl)
      have hcc := hC.cell m (by rw [hCL.out]; exact hm)
      have hlc := (HFB.out wr hb).cell m (by rw [HM.out]; exact hm)
      have hlat := HAT.out m (by rw [HM.out]; exact hm)
      have HE : Hid (∀ x ∈ prevs T m, x < M) := fun x hx => by have := HG.out.pl m x hx; omega
      have HEL : Hid ((prevs T m).length ≤ 100) := by have := rise_length (HG.out.pr m) (HG.out.pl m); show _ ≤ _; omega
      have hfol := fun wx (hbx : Below w.heap.size w wx) => follows_any (m : Int) wx (HQ.out wx hbx) hT
      rw [thAt_nat] at hfol
      change ∀ wx, Below w.heap.size w wx → Calls Try.prog 34 #[.pointer g, .int .i64 m] wx fun e w' => ∃ p c, e = .returned (.slice p (zs (prevs T m)).length c) ∧ RdI O wx p c (zs (prevs T m)) ∧ Below wx.heap.size wx w' at hfol
      have HFOL : Hid (∀ wx, Below w.heap.size w wx → Calls Try.prog 34 #[.pointer g, .int .i64 m] wx fun e w' => ∃ p c, e = .returned (.slice p (zs (prevs T m)).length c) ∧ RdI O wx p c (zs (prevs T m)) ∧ Below wx.heap.size wx w') := hfol
      clear hfol
      by_cases hR : Rch (prevs T) F m
      · have HCN : Hid (ComeP M (prevs T) F m (setAll C (prevs T m))) := HCM.out.yes (.inr hR)
        have HZ : Hid (zs (downs M (prevs T) F m) = zs (downs M (prevs T) F (m + 1)) ++ [(m : Int)]) := by show _ = _; rw [downs_yes hm hR]; simp [zs]
        have hlen := downs_len M (prevs T) F (m + 1)
        rw [hself.2 hR] at hcc
        clear hself hlat hR
        generalize zs (downs M (prevs T) F (m + 1)) = D at *
        generalize prevs T m = ns at *
        go_wp2_with (first
          | (at_builtin; refine wpList_push rfl (.tmp 22) (.tmp 24) 35 3 (.int .i64 0) 8 rfl Try.underlying35 Try.info3 rfl (by decide) int_one w.heap.size _ D rfl ?a0 _ (m : Int) rfl ?a1 ?a2 ?a3 ?_))
        case a0 => exact hown.alloc _
        case a1 => exact cell_row (cur := [_]) (heap_alloc_new _ _) 0 _ rfl
        case a2 => omega
        case a3 => simp; omega
        intro v' w1 hown1 hg1
        have hsz1 := hg1.size
        simp at hsz1
        have hC1 : Bk w1 w.heap.size C := bk_grown (hown.alloc _) (bk_below hC ((Below.refl _ _).alloc (Nat.le_refl _) _)) hg1
        have hb1 : Below w.heap.size w w1 := below_row (hb.alloc hsz _) hg1 (hown.alloc _) (by simp; omega)
        have hc1 := hC1.cell m (by rw [hCL.out]; exact hm)
        have HC1 : Hid (w1.ownsRow w.heap.size 3 1 v' (zs (downs M (prevs T) F m)).length ((zs (downs M (prevs T) F m)).map (Value.int .i64))) := by show World.ownsRow _ _ _ _ _ _ _; rw [HZ.out, List.length_append, List.map_append]; exact hown1
        have hcx : C.getD m false = true := by
          have := hC.cell m (by rw [hCL.out]; exact hm)
          rw [hcc] at this
          cases hx : C.getD m false with
          | true => rfl
          | false => rw [hx] at this; cases this
        rw [hcx] at hc1
        have hf1 := HFOL.out w1 hb1
        clear hown hcc hC hlc hown1 hcx
        go_wp2_with (first
          | (go_at_call 34; refine hf1.mono ?_; rintro e w2 ⟨p2, c2, rfl, r2, hb2⟩
             have hz2 := hb2.size
             have hmk := mark_any C w.heap.size M ns p2 c2 w2 (bk_below hC1 hb2) (by rw [hCL.out]; exact Nat.le_refl _) (r2.same (Same.of_below hb2 fun k hk => by have := HTN.out k hk; omega)) (fun hO => by have := HTN.out _ hO; omega) (by rw [hCL.out]; exact HE.out) (by rw [hCL.out]; omega) (by have := HEL.out; omega) (fun _ k hk => by have := HTN.out k hk; omega)
             rw [hCL.out] at hmk)
          | (go_at_call 39; refine hmk.mono ?_; rintro e w3 ⟨rfl, hC3, hk3⟩))
        go_roundw
        case rel => exact ⟨m, _, by omega, congrArg (Value.int .i64) (by omega), hC3, HCN.out, own_keep (own_below HC1.out hb2) hk3 (fun k hk' e => own_ne_bk HC1.out hC1 (by rw [hk', e])), below_keep (hb1.trans (hb2.mono (by omega))) hk3 (by omega) (Nat.le_refl _)⟩
        case measure => simp [intOf]; try omega
      · have hcf : C.getD m false = false := by
          cases hx : C.getD m false with
          | false => rfl
          | true => exact absurd (hself.1 hx) hR
        have HZ : Hid (zs (downs M (prevs T) F m) = zs (downs M (prevs T) F (m + 1))) := by show _ = _; rw [downs_no hR]
        rw [hcf] at hcc
        by_cases hFm : F m
        · have HCN : Hid (ComeP M (prevs T) F m (setAll C (prevs T m))) := HCM.out.yes (.inl hFm)
          rw [hlat.2 hFm] at hlc
          have HO := own_cast hown HZ.out
          have hf1 := HFOL.out wr hb
          clear hself hlat hR hFm hown hcf
          generalize prevs T m = ns at *
          go_wp2_with (first
            | (go_at_call 34; refine hf1.mono ?_; rintro e w2 ⟨p2, c2, rfl, r2, hb2⟩
               have hz2 := hb2.size
               have hmk := mark_any C w.heap.size M ns p2 c2 w2 (bk_below hC hb2) (by rw [hCL.out]; exact Nat.le_refl _) (r2.same (Same.of_below hb2 fun k hk => by have := HTN.out k hk; omega)) (fun hO => by have := HTN.out _ hO; omega) (by rw [hCL.out]; exact HE.out) (by rw [hCL.out]; omega) (by have := HEL.out; omega) (fun _ k hk => by have := HTN.out k hk; omega)
               rw [hCL.out] at hmk)
            | (go_at_call 39; refine hmk.mono ?_; rintro e w3 ⟨rfl, hC3, hk3⟩))
          go_roundw
          case rel => exact ⟨m, _, by omega, congrArg (Value.int .i64) (by omega), hC3, HCN.out, own_keep (own_below HO hb2) hk3 (fun k hk' e => own_ne_bk HO hC (by rw [hk', e])), below_keep (hb.trans (hb2.mono (by omega))) hk3 (by omega) (Nat.le_refl _)⟩
          case measure => simp [intOf]; try omega
        · have HCN : Hid (ComeP M (prevs T) F m C) := HCM.out.no (by rintro (h' | h'); exact hFm h'; exact hR h')
          have hlf : L.getD m false = false := by
            cases hx : L.getD m false with
            | false => rfl
            | true => exact absurd (hlat.1 hx) hFm
          rw [hlf] at hlc
          have HO := own_cast hown HZ.out
          clear hself hlat hR hFm hown hcf hlf
          go_wp2
          go_roundw
          case rel => exact ⟨m, _, by omega, congrArg (Value.int .i64) (by omega), hC, HCN.out, HO, hb⟩
          case measure => simp [intOf]; try omega
theorem frm_iff {n : Nat} {l : List Int} {L : List Bool} (hL : L.length ≤ n) (hat : ∀ j, j < L.length → L.getD j false = decide ((j : Int) ∈ l)) : ∀ j, j < L.length → (L.getD j false = true ↔ frm n l j) := by
  intro j hj
  rw [hat j hj]
  unfold frm
  simp
  omega
set_option maxHeartbeats 2000000 in
theorem Past_any {O : Nat → Prop} {g : Option Addr} {T : List Th} (l : List Int) (p : Option Addr) (c : Nat) (w : World) (h : Gq O w g T) (hg : Good T) (r : RdI (· < w.heap.size) w p c l) (hT : T.length ≤ 100) (hl : l.length ≤ 1000) (hw : ∀ x ∈ l, -9223372036854775808 ≤ x ∧ x ≤ 9223372036854775807) :
    Calls Try.prog 22 #[.pointer g, .slice p l.length c] w (ReachP T.length (prevs T) (frm T.length l) w) := by
  have hma := marked_any l p c w h r hT hl hw
  have HQ : Hid (∀ wx, Below w.heap.size w wx → Gq O wx g T) := fun wx hb => h.below hb
  clear h r hw
  go_enter Try.func22, Try.ntmps22
  go_wp2_with (first
    | (go_at_call 37; refine hma.mono ?_; rintro e w1 ⟨bk, L, rfl, hbk, hLn, hat, hfr, hb, hlo⟩
       have hrc := reachedF_any (frm T.length l) L bk w1 (HQ.out _ hb) hg hT hbk hLn (frm_iff hLn hat) hfr
       clear hat hfr)
    | (go_at_call 36; refine hrc.mono ?_; rintro e w2 ⟨v, rfl, ho, hb2⟩))
  go_ret
  exact ⟨_, rfl, own_le ho hb.size, hb.trans (hb2.mono hb.size)⟩
end Go.Proofs.Ytbjeaogblpjpeaa

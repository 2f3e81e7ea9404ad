/-
  OrderEver, walked.
-/
import Derived.Test.YtmkppbcngpgkdaaOEver
import Derived.Test.YtmkppbcngpgkdaaOLawB
namespace Go.Proofs.Ytmkppbcngpgkdaa
open Go.RowKit Go.Maps

theorem keep_push {w w' : World} {v : Value} {o : Obj} (hg : (w.alloc o).grownBy w' v.ownBlock) : Keep (v.ownBlock = some ·) w w' :=
  ((Keep.refl _ w).alloc o).trans (Keep.of_grown (S := (v.ownBlock = some ·)) hg fun _ _ e => e) fun _ _ h => h
theorem loc_push {w : World} {v v' : Value} (hl : v'.ownBlock = v.ownBlock ∨ v'.ownBlock = some (w.heap.size + 1)) : v'.ownBlock = v.ownBlock ∨ ∀ k, v'.ownBlock = some k → w.heap.size ≤ k := by
  refine hl.imp id fun e k hk => ?_
  rw [e] at hk
  cases hk
  omega

set_option maxRecDepth 100000 in
set_option maxHeartbeats 16000000 in
theorem orderEver_any (P : List (List Int)) (R : List Int) (p rp : Option Addr) (c rc : Nat) (w : World) (r : RdR (· < w.heap.size) w p c P) (rr : RdI (· < w.heap.size) w rp rc R) (hP : P.length ≤ 9223372036854775807) (hl : ∀ x ∈ P, x.length ≤ 9223372036854775807) (hR : R.length ≤ 9223372036854775807) (hw : ∀ x ∈ P, ∀ y ∈ x, wf64 y) :
    Calls Try.prog 5 #[.slice p P.length c, .slice rp R.length rc] w (TrueP w) := by
  have hfew := few_any P p c w r hP hl
  cases hf : fewB P with
  | false =>
    rw [hf] at hfew
    clear r rr hl hf
    generalize P.length = n at *
    generalize R.length = m at *
    go_enter Try.func5, Try.ntmps5
    go_wp2_with (first
      | (go_at_call 9; refine hfew.mono ?_; rintro e w' ⟨rfl, rfl⟩))
    go_ret
    exact ⟨rfl, Below.refl _ _⟩
  | true =>
    rw [hf] at hfew
    obtain ⟨h1, h2⟩ := few_iff.1 hf
    by_cases hRl : R.length ≤ 50
    · have HW : Hid (∀ x ∈ P, ∀ y ∈ x, wf64 y) := hw
      have HR : Hid (RdR (· < w.heap.size) w p c P) := r
      have HRR : Hid (RdI (· < w.heap.size) w rp rc R) := rr
      have H2 : Hid (∀ x ∈ P, x.length ≤ 40) := h2
      obtain ⟨n, hn⟩ : ∃ n, P.length = n := ⟨_, rfl⟩
      have HN : Hid (P.length = n) := hn
      rw [hn] at hfew h1 ⊢
      obtain ⟨m, hm⟩ : ∃ m, R.length = m := ⟨_, rfl⟩
      have HM : Hid (R.length = m) := hm
      rw [hm] at hRl ⊢
      obtain ⟨B, hB⟩ : ∃ B, w.heap.size = B := ⟨_, rfl⟩
      have HB : Hid (w.heap.size = B) := hB
      rw [hB] at HR HRR
      obtain ⟨L, ho⟩ := bkP_lin P R n
      have hLl := (linP_some ho).2.2.2
      rw [bkP_len] at hLl
      have HO : Hid (linP (bkP P n) (bkK R n) = some L) := ho
      have HLL : Hid ((zs L).length = n) := by show _ = _; rw [zs_len]; exact hLl
      clear r rr hl hf h2 hn hm hP hB hw hR ho hLl
      go_enter Try.func5, Try.ntmps5
      go_wp2_with (first
        | (go_at_call 9; refine hfew.mono ?_; rintro e w' ⟨rfl, rfl⟩))
      go_loopw [5, 6, 7] (fun bv rv i wr => ∃ (k : Nat) (vs : List (Option Addr × Nat × Nat)), k ≤ n ∧ i = .int .i64 k ∧ Bw B wr bv rv vs (bkP P k) (bkK R k) ∧ Below B w wr) (fun _ _ i _ => n - (intOf i).toNat)
      case atStart => exact ⟨0, [], Nat.zero_le _, rfl, Bw.nil _ _, Below.refl _ _⟩
      case round =>
        obtain ⟨k, vs, hk, rfl, hbw, hbl⟩ := hrel
        have hbB := hbl.size
        rw [HB.out] at hbB
        by_cases hlt : k < n
        · obtain ⟨ad, p1, c1, rfl, _, hcell, hr⟩ := (HR.out.below hbl).at k (by rw [HN.out]; exact hlt)
          have hkP : P.getD k [] ∈ P := getD_inm (by rw [HN.out]; exact hlt)
          have hrl := H2.out _ hkP
          have HWk : Hid _ := HW.out _ hkP
          have HBk : Hid (bkR P k = if k = 0 then [] else (P.getD k []).map (bkZ k)) := rfl
          obtain ⟨w0, hw0⟩ : ∃ w0, wr = w0 := ⟨_, rfl⟩
          have HW0 : Hid (wr = w0) := hw0
          have HBW : Hid (Bw B w0 _ _ vs (bkP P k) (bkK R k)) := hw0 ▸ hbw
          have HBL : Hid (Below B w w0) := by rw [← hw0]; exact hbl
          obtain ⟨s0, hs0⟩ : ∃ s0, w0.heap.size = s0 := ⟨_, rfl⟩
          have HS0 : Hid (w0.heap.size = s0) := hs0
          have hBs : B ≤ s0 := by rw [← hs0, ← hw0]; exact hbB
          have HCl : Hid (∀ wx, Below s0 w0 wx → wx.cell? (ad.add k) = some (.slice p1 (P.getD k []).length c1) ∧ RdI (· < B) wx p1 c1 (P.getD k [])) := by
            intro wx hx
            rename_i hab
            have hab' : ad.block < B := hab
            refine ⟨?_, hr.same fun j hj => ?_⟩
            · rw [World.cell?_of_block (hx.block _ (by rw [add_block]; omega)), ← hw0]; exact hcell
            · have hj' : j < B := hj
              rw [hx.block j (by omega), hw0]
          have hb00 : Below s0 w0 wr := by rw [hw0]; exact Below.refl _ _
          clear hbw hbl hr hcell hkP hw0 hs0 hbB
          generalize P.getD k [] = row at *
          obtain ⟨jm, hjm⟩ : ∃ jm, jm = if k = 0 then 0 else row.length := ⟨_, rfl⟩
          have hjr : jm ≤ row.length := by rw [hjm]; split <;> omega
          have HJ : Hid (jm = if k = 0 then 0 else row.length) := hjm
          have HBR : Hid (bkR P k = (row.take jm).map (bkZ k)) := by
            show _ = _
            rw [HBk.out, hjm]
            split
            · simp
            · rw [List.take_length]
          clear hjm HBk
          go_wp2
          go_loopw [8, 9] (fun lv i wx => ∃ j : Nat, j ≤ jm ∧ i = .int .i64 j ∧ wx.ownsRow s0 3 1 lv ((row.take j).map (bkZ k)).length (((row.take j).map (bkZ k)).map (Value.int .i64)) ∧ Below s0 w0 wx) (fun _ i _ => jm - (intOf i).toNat)
          case atStart => exact ⟨0, Nat.zero_le _, rfl, World.ownsRow_nil _ _ _ _, hb00⟩
          case round =>
            clear hb00
            obtain ⟨j, hj, rfl, hown, hbx⟩ := hrel
            have hbS := hbx.size
            rw [HS0.out] at hbS
            obtain ⟨hcell, hr⟩ := HCl.out wr hbx
            by_cases hjt : j < jm
            · have hk0 : 0 < k := by
                rcases Nat.eq_zero_or_pos k with h | h
                · have := HJ.out; rw [if_pos h] at this; omega
                · exact h
              obtain ⟨ad2, rfl, _, hcx⟩ := hr.at j 0 (by omega)
              have HT : Hid ((row.take (j + 1)).map (bkZ k) = (row.take j).map (bkZ k) ++ [bkZ k (row.getD j 0)]) := by
                show _ = _
                rw [take_snoc row j 0 (by omega), List.map_append]
                rfl
              have hwf := HWk.out _ (getD_inm (l := row) (j := j) (d := 0) (by omega))
              have hbz := bkZ_in hk0 (row.getD j 0)
              have hll : ((row.take j).map (bkZ k)).length ≤ 1000 := by rw [List.length_map, List.length_take]; omega
              generalize row.getD j 0 = x at *
              generalize hL0 : (row.take j).map (bkZ k) = l0 at *
              clear hL0
              obtain ⟨z, hz0⟩ : ∃ z, bkZ k x = z := ⟨_, rfl⟩
              rw [hz0] at HT hbz
              obtain ⟨y, hy⟩ : ∃ y, x.tmod (k : Int) = y := ⟨_, rfl⟩
              rw [hy] at hbz
              have hz : (y + (k : Int)).tmod (k : Int) = z := by rw [← hy]; exact hz0
              clear hz0
              have hkz : ((k : Int) == 0) = false := by rw [beq_eq_false_iff_ne]; omega
              have hkn : (k : Int) ≠ 0 := by omega
              have hjr' : (j : Int) < (row.length : Int) := by omega
              have hk0' : (0 : Int) < (k : Int) := by omega
              have hw1 : IntKind.i64.wrap (y + (k : Int)) = y + (k : Int) := by rw [IntKind.wrap_i64]; omega
              have hw2 : IntKind.i64.wrap y = y := by rw [IntKind.wrap_i64]; omega
              have hw3 : IntKind.i64.wrap z = z := by rw [IntKind.wrap_i64]; omega
              have tok3 : True := trivial
              go_wp2_with (first
                | (at_builtin; have _t := tok3; refine wpList_push rfl (.tmp 40) (.tmp 54) 25 3 (.int .i64 0) 8 rfl Try.underlying25 Try.info3 rfl (by decide) int_one s0 _ l0 rfl ?a0 _ z rfl ?a1 ?a2 ?a3 ?_; clear tok3))
              case a0 => exact hown.alloc _
              case a1 => exact cell_row (cur := [_]) (heap_alloc_new _ _) 0 _ rfl
              case a2 => omega
              case a3 => simp; omega
              intro v' w5 ho5 hg5 _
              have HO5 : Hid (w5.ownsRow s0 3 1 v' ((row.take (j + 1)).map (bkZ k)).length (((row.take (j + 1)).map (bkZ k)).map (Value.int .i64))) := by
                show World.ownsRow _ _ _ _ _ _ _
                rw [HT.out, List.length_append, List.map_append]
                exact ho5
              have hb5 : Below s0 w0 w5 := (hbx.alloc hbS _).grown hg5 (by simp; omega) fun k hk => (hown.lt k hk).1
              clear ho5 hg5 hown
              go_wp2
              go_roundw
              case rel => exact ⟨j + 1, by omega, by go_num, HO5.out, hb5⟩
              case measure => simp [intOf]; omega
            · obtain rfl : j = jm := by omega
              have hbr := own_same HBW.out.brow fun k e => hbx.block k (by have := (HBW.out.brow.lt k e).2; rw [HS0.out] at this; exact this)
              have hvl : vs.length ≤ 1000 := by rw [HBW.out.len, bkP_len]; omega
              rw [← HBR.out] at hown
              obtain ⟨q5, c5, hlv, _⟩ := own_rd hown
              have hm5l := bkR_len P k 40 H2.out
              obtain ⟨m5, hm5⟩ : ∃ m5, (bkR P k).length = m5 := ⟨_, rfl⟩
              rw [hm5] at hlv
              subst hlv
              have HO5 : Hid (wr.ownsRow s0 3 1 (.slice q5 m5 c5) (bkR P k).length ((bkR P k).map (Value.int .i64))) := hown
              have HBR : Hid (bkP P k ++ [bkR P k] = bkP P k ++ [bkR P k]) := rfl
              clear hown hm5 hr
              have hjk : ((j : Int) < (row.length : Int) ∧ k = 0) ∨ j = row.length := by
                have := HJ.out
                split at this
                · rename_i h0
                  rcases Nat.lt_or_ge j row.length with h' | h'
                  · exact .inl ⟨by omega, h0⟩
                  · right; omega
                · exact .inr this
              rcases hjk with ⟨hj1, hj2⟩ | hj1
              · have dj : decide ((j : Int) < (row.length : Int)) = true := decide_eq_true hj1
                have dk : decide ((0 : Int) < (k : Int)) = false := by rw [decide_eq_false_iff_not]; omega
                have nk : ¬ ((0 : Int) < (k : Int)) := by omega
                clear hj2
                by_cases hkm : k < m
                · have tok1 : True := trivial
                  have tok2 : True := trivial
                  go_wp2_with (first
                    | (at_builtin; have _t := tok1; refine wpList_push (enc := slV) rfl (.tmp 56) (.tmp 58) 22 25 (.slice none 0 0) 24 rfl Try.underlying22 Try.infoI rfl (by decide) slV_one B _ vs rfl ?a0 _ (q5, m5, c5) rfl ?a1 ?a2 ?a3 ?_; clear tok1))
                  case a0 => exact hbr.alloc _
                  case a1 => rfl
                  case a2 => omega
                  case a3 => omega
                  intro bv' w6 ho6 hg6 hl6
                  have ho6' : w6.ownsRow B 25 1 bv' (vs ++ [(q5, m5, c5)]).length ((vs ++ [(q5, m5, c5)]).map slV) := by rw [List.length_append, List.map_append]; exact ho6
                  have HB6 : Hid (Bw B w6 bv' u6 (vs ++ [(q5, m5, c5)]) (bkP P (k + 1)) (bkK R k)) := by
                    show Bw _ _ _ _ _ _ _
                    rw [bkP_snoc]
                    exact HBW.out.row (by rw [HS0.out]; exact hBs) (by rw [HS0.out]; exact hbx) (by rw [HS0.out]; exact HO5.out) rfl ho6' (keep_push hg6) (loc_push hl6)
                  have hb6 : Below B w w6 := by
                    have h7 : Below B w (wr.alloc (.cells #[.slice q5 m5 c5] 25)) := (HBL.out.trans (hbx.mono hBs)).alloc (by omega) _
                    exact h7.grown hg6 (by simp; omega) fun k hk => (hbr.lt k hk).1
                  have hz6 : B ≤ w6.heap.size := by have := hg6.size; simp at this; omega
                  have hrr6 := HB6.out.rrow
                  clear ho6 ho6' hg6 hl6 hbr
                  obtain ⟨ar, e0, _, crk⟩ := (HRR.out.same (fun j hj => hb6.block j hj)).at k 0 (by rw [HM.out]; exact hkm)
                  subst e0
                  have HK1 : Hid (bkK R (k + 1) = bkK R k ++ [R.getD k 0]) := bkK_snoc R k
                  generalize R.getD k 0 = rx at *
                  have hkl6 : (bkK R k).length ≤ 1000 := by rw [bkK_len]; omega
                  go_wp2_with (first
                    | (at_builtin; have _t := tok2; refine wpList_push rfl (.tmp 68) (.tmp 70) 23 2 (.int .i64 0) 8 rfl Try.underlying23 Try.info2 rfl (by decide) int_one B _ (bkK R k) rfl ?a0 _ rx rfl ?a1 ?a2 ?a3 ?_; clear tok2))
                  case a0 => exact hrr6.alloc _
                  case a1 => exact cell_row (cur := [_]) (heap_alloc_new _ _) 0 _ rfl
                  case a2 => omega
                  case a3 => simp; omega
                  intro rv' w7 ho7 hg7 hl7
                  have ho7' : w7.ownsRow B 2 1 rv' (bkK R k ++ [rx]).length ((bkK R k ++ [rx]).map (Value.int .i64)) := by rw [List.length_append, List.map_append]; exact ho7
                  have HB7 : Hid (Bw B w7 bv' rv' (vs ++ [(q5, m5, c5)]) (bkP P (k + 1)) (bkK R (k + 1))) := by
                    show Bw _ _ _ _ _ _ _
                    rw [HK1.out]
                    exact HB6.out.rank ho7' (keep_push hg7) (loc_push hl7)
                  have hb7 : Below B w w7 := (hb6.alloc hz6 _).grown hg7 (by simp; omega) fun k hk => (hrr6.lt k hk).1
                  clear ho7 ho7' hg7 hl7 hrr6 HB6
                  go_wp2
                  go_roundw
                  case rel => exact ⟨k + 1, _, by omega, by go_num, HB7.out, hb7⟩
                  case measure => simp [intOf]; omega
                · have tok1 : True := trivial
                  have tok2 : True := trivial
                  go_wp2_with (first
                    | (at_builtin; have _t := tok1; refine wpList_push (enc := slV) rfl (.tmp 56) (.tmp 58) 22 25 (.slice none 0 0) 24 rfl Try.underlying22 Try.infoI rfl (by decide) slV_one B _ vs rfl ?a0 _ (q5, m5, c5) rfl ?a1 ?a2 ?a3 ?_; clear tok1))
                  case a0 => exact hbr.alloc _
                  case a1 => rfl
                  case a2 => omega
                  case a3 => omega
                  intro bv' w6 ho6 hg6 hl6
                  have ho6' : w6.ownsRow B 25 1 bv' (vs ++ [(q5, m5, c5)]).length ((vs ++ [(q5, m5, c5)]).map slV) := by rw [List.length_append, List.map_append]; exact ho6
                  have HB6 : Hid (Bw B w6 bv' u6 (vs ++ [(q5, m5, c5)]) (bkP P (k + 1)) (bkK R k)) := by
                    show Bw _ _ _ _ _ _ _
                    rw [bkP_snoc]
                    exact HBW.out.row (by rw [HS0.out]; exact hBs) (by rw [HS0.out]; exact hbx) (by rw [HS0.out]; exact HO5.out) rfl ho6' (keep_push hg6) (loc_push hl6)
                  have hb6 : Below B w w6 := by
                    have h7 : Below B w (wr.alloc (.cells #[.slice q5 m5 c5] 25)) := (HBL.out.trans (hbx.mono hBs)).alloc (by omega) _
                    exact h7.grown hg6 (by simp; omega) fun k hk => (hbr.lt k hk).1
                  have hz6 : B ≤ w6.heap.size := by have := hg6.size; simp at this; omega
                  have hrr6 := HB6.out.rrow
                  clear ho6 ho6' hg6 hl6 hbr
                  have HK1 : Hid (bkK R (k + 1) = bkK R k ++ [0]) := by
                    show _ = _
                    rw [bkK_snoc, List.getD_eq_getElem?_getD, List.getElem?_eq_none (by rw [HM.out]; omega)]
                    rfl
                  have hkl6 : (bkK R k).length ≤ 1000 := by rw [bkK_len]; omega
                  go_wp2_with (first
                    | (at_builtin; have _t := tok2; refine wpList_push rfl (.tmp 68) (.tmp 70) 23 2 (.int .i64 0) 8 rfl Try.underlying23 Try.info2 rfl (by decide) int_one B _ (bkK R k) rfl ?a0 _ (0 : Int) rfl ?a1 ?a2 ?a3 ?_; clear tok2))
                  case a0 => exact hrr6.alloc _
                  case a1 => exact cell_row (cur := [_]) (heap_alloc_new _ _) 0 _ rfl
                  case a2 => omega
                  case a3 => simp; omega
                  intro rv' w7 ho7 hg7 hl7
                  have ho7' : w7.ownsRow B 2 1 rv' (bkK R k ++ [(0 : Int)]).length ((bkK R k ++ [(0 : Int)]).map (Value.int .i64)) := by rw [List.length_append, List.map_append]; exact ho7
                  have HB7 : Hid (Bw B w7 bv' rv' (vs ++ [(q5, m5, c5)]) (bkP P (k + 1)) (bkK R (k + 1))) := by
                    show Bw _ _ _ _ _ _ _
                    rw [HK1.out]
                    exact HB6.out.rank ho7' (keep_push hg7) (loc_push hl7)
                  have hb7 : Below B w w7 := (hb6.alloc hz6 _).grown hg7 (by simp; omega) fun k hk => (hrr6.lt k hk).1
                  clear ho7 ho7' hg7 hl7 hrr6 HB6
                  go_wp2
                  go_roundw
                  case rel => exact ⟨k + 1, _, by omega, by go_num, HB7.out, hb7⟩
                  case measure => simp [intOf]; omega
              · have dj : decide ((j : Int) < (row.length : Int)) = false := by rw [decide_eq_false_iff_not]; omega
                by_cases hkm : k < m
                · have tok1 : True := trivial
                  have tok2 : True := trivial
                  go_wp2_with (first
                    | (at_builtin; have _t := tok1; refine wpList_push (enc := slV) rfl (.tmp 56) (.tmp 58) 22 25 (.slice none 0 0) 24 rfl Try.underlying22 Try.infoI rfl (by decide) slV_one B _ vs rfl ?a0 _ (q5, m5, c5) rfl ?a1 ?a2 ?a3 ?_; clear tok1))
                  case a0 => exact hbr.alloc _
                  case a1 => rfl
                  case a2 => omega
                  case a3 => omega
                  intro bv' w6 ho6 hg6 hl6
                  have ho6' : w6.ownsRow B 25 1 bv' (vs ++ [(q5, m5, c5)]).length ((vs ++ [(q5, m5, c5)]).map slV) := by rw [List.length_append, List.map_append]; exact ho6
                  have HB6 : Hid (Bw B w6 bv' u6 (vs ++ [(q5, m5, c5)]) (bkP P (k + 1)) (bkK R k)) := by
                    show Bw _ _ _ _ _ _ _
                    rw [bkP_snoc]
                    exact HBW.out.row (by rw [HS0.out]; exact hBs) (by rw [HS0.out]; exact hbx) (by rw [HS0.out]; exact HO5.out) rfl ho6' (keep_push hg6) (loc_push hl6)
                  have hb6 : Below B w w6 := by
                    have h7 : Below B w (wr.alloc (.cells #[.slice q5 m5 c5] 25)) := (HBL.out.trans (hbx.mono hBs)).alloc (by omega) _
                    exact h7.grown hg6 (by simp; omega) fun k hk => (hbr.lt k hk).1
                  have hz6 : B ≤ w6.heap.size := by have := hg6.size; simp at this; omega
                  have hrr6 := HB6.out.rrow
                  clear ho6 ho6' hg6 hl6 hbr
                  obtain ⟨ar, e0, _, crk⟩ := (HRR.out.same (fun j hj => hb6.block j hj)).at k 0 (by rw [HM.out]; exact hkm)
                  subst e0
                  have HK1 : Hid (bkK R (k + 1) = bkK R k ++ [R.getD k 0]) := bkK_snoc R k
                  generalize R.getD k 0 = rx at *
                  have hkl6 : (bkK R k).length ≤ 1000 := by rw [bkK_len]; omega
                  go_wp2_with (first
                    | (at_builtin; have _t := tok2; refine wpList_push rfl (.tmp 68) (.tmp 70) 23 2 (.int .i64 0) 8 rfl Try.underlying23 Try.info2 rfl (by decide) int_one B _ (bkK R k) rfl ?a0 _ rx rfl ?a1 ?a2 ?a3 ?_; clear tok2))
                  case a0 => exact hrr6.alloc _
                  case a1 => exact cell_row (cur := [_]) (heap_alloc_new _ _) 0 _ rfl
                  case a2 => omega
                  case a3 => simp; omega
                  intro rv' w7 ho7 hg7 hl7
                  have ho7' : w7.ownsRow B 2 1 rv' (bkK R k ++ [rx]).length ((bkK R k ++ [rx]).map (Value.int .i64)) := by rw [List.length_append, List.map_append]; exact ho7
                  have HB7 : Hid (Bw B w7 bv' rv' (vs ++ [(q5, m5, c5)]) (bkP P (k + 1)) (bkK R (k + 1))) := by
                    show Bw _ _ _ _ _ _ _
                    rw [HK1.out]
                    exact HB6.out.rank ho7' (keep_push hg7) (loc_push hl7)
                  have hb7 : Below B w w7 := (hb6.alloc hz6 _).grown hg7 (by simp; omega) fun k hk => (hrr6.lt k hk).1
                  clear ho7 ho7' hg7 hl7 hrr6 HB6
                  go_wp2
                  go_roundw
                  case rel => exact ⟨k + 1, _, by omega, by go_num, HB7.out, hb7⟩
                  case measure => simp [intOf]; omega
                · have tok1 : True := trivial
                  have tok2 : True := trivial
                  go_wp2_with (first
                    | (at_builtin; have _t := tok1; refine wpList_push (enc := slV) rfl (.tmp 56) (.tmp 58) 22 25 (.slice none 0 0) 24 rfl Try.underlying22 Try.infoI rfl (by decide) slV_one B _ vs rfl ?a0 _ (q5, m5, c5) rfl ?a1 ?a2 ?a3 ?_; clear tok1))
                  case a0 => exact hbr.alloc _
                  case a1 => rfl
                  case a2 => omega
                  case a3 => omega
                  intro bv' w6 ho6 hg6 hl6
                  have ho6' : w6.ownsRow B 25 1 bv' (vs ++ [(q5, m5, c5)]).length ((vs ++ [(q5, m5, c5)]).map slV) := by rw [List.length_append, List.map_append]; exact ho6
                  have HB6 : Hid (Bw B w6 bv' u6 (vs ++ [(q5, m5, c5)]) (bkP P (k + 1)) (bkK R k)) := by
                    show Bw _ _ _ _ _ _ _
                    rw [bkP_snoc]
                    exact HBW.out.row (by rw [HS0.out]; exact hBs) (by rw [HS0.out]; exact hbx) (by rw [HS0.out]; exact HO5.out) rfl ho6' (keep_push hg6) (loc_push hl6)
                  have hb6 : Below B w w6 := by
                    have h7 : Below B w (wr.alloc (.cells #[.slice q5 m5 c5] 25)) := (HBL.out.trans (hbx.mono hBs)).alloc (by omega) _
                    exact h7.grown hg6 (by simp; omega) fun k hk => (hbr.lt k hk).1
                  have hz6 : B ≤ w6.heap.size := by have := hg6.size; simp at this; omega
                  have hrr6 := HB6.out.rrow
                  clear ho6 ho6' hg6 hl6 hbr
                  have HK1 : Hid (bkK R (k + 1) = bkK R k ++ [0]) := by
                    show _ = _
                    rw [bkK_snoc, List.getD_eq_getElem?_getD, List.getElem?_eq_none (by rw [HM.out]; omega)]
                    rfl
                  have hkl6 : (bkK R k).length ≤ 1000 := by rw [bkK_len]; omega
                  go_wp2_with (first
                    | (at_builtin; have _t := tok2; refine wpList_push rfl (.tmp 68) (.tmp 70) 23 2 (.int .i64 0) 8 rfl Try.underlying23 Try.info2 rfl (by decide) int_one B _ (bkK R k) rfl ?a0 _ (0 : Int) rfl ?a1 ?a2 ?a3 ?_; clear tok2))
                  case a0 => exact hrr6.alloc _
                  case a1 => exact cell_row (cur := [_]) (heap_alloc_new _ _) 0 _ rfl
                  case a2 => omega
                  case a3 => simp; omega
                  intro rv' w7 ho7 hg7 hl7
                  have ho7' : w7.ownsRow B 2 1 rv' (bkK R k ++ [(0 : Int)]).length ((bkK R k ++ [(0 : Int)]).map (Value.int .i64)) := by rw [List.length_append, List.map_append]; exact ho7
                  have HB7 : Hid (Bw B w7 bv' rv' (vs ++ [(q5, m5, c5)]) (bkP P (k + 1)) (bkK R (k + 1))) := by
                    show Bw _ _ _ _ _ _ _
                    rw [HK1.out]
                    exact HB6.out.rank ho7' (keep_push hg7) (loc_push hl7)
                  have hb7 : Below B w w7 := (hb6.alloc hz6 _).grown hg7 (by simp; omega) fun k hk => (hrr6.lt k hk).1
                  clear ho7 ho7' hg7 hl7 hrr6 HB6
                  go_wp2
                  go_roundw
                  case rel => exact ⟨k + 1, _, by omega, by go_num, HB7.out, hb7⟩
                  case measure => simp [intOf]; omega
        · obtain rfl : k = n := by omega
          obtain ⟨q, c, q', c', hq, hq', hrd, hrr⟩ := hbw.read
          rw [bkP_len] at hq
          rw [bkK_len] at hq'
          subst hq hq'
          have hli := linear_any (bkP P k) (bkK R k) q q' c c' wr hrd hrr (by rw [bkP_len]; omega) (fun x hx => by
            obtain ⟨i, _, rfl⟩ := List.mem_map.1 hx
            have := bkR_len P i 40 H2.out
            omega) (by rw [bkK_len]; omega)
          rw [HO.out, bkP_len, bkK_len] at hli
          unfold LinP at hli
          simp only [Option.getD_some, Option.isSome_some, if_true] at hli
          clear hrd hrr hbw
          go_wp2_with (first
            | (go_at_call 10; refine hli.mono ?_; rintro e w1 ⟨v1, rfl, ho1, hb1⟩; obtain ⟨q1, c1, rfl, _⟩ := own_view ho1; rw [HLL.out]; have hb8 : Below w.heap.size w w1 := by { rw [HB.out]; exact hbl.trans (hb1.mono hbB) }; clear ho1)
            | (go_at_call 13; refine (awake_from hb8).mono ?_; rintro e w4 ⟨rfl, hb9⟩))
          go_ret
          exact ⟨rfl, hb9⟩
    · clear r rr hl hf h2
      generalize P.length = n at *
      generalize R.length = m at *
      go_enter Try.func5, Try.ntmps5
      go_wp2_with (first
        | (go_at_call 9; refine hfew.mono ?_; rintro e w' ⟨rfl, rfl⟩))
      go_ret
      exact ⟨rfl, Below.refl _ _⟩
end Go.Proofs.Ytmkppbcngpgkdaa

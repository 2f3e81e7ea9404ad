/-
  The document's answer of layer 2, walked: number, Decode.
-/
import Derived.Test.YtfblafpcdlmbjaaRef
namespace Go.Proofs.Ytfblafpcdlmbjaa
open Go.RowKit

theorem num_none (c : Int) (h : ∀ j : Nat, j < 64 → ltr j ≠ c) : num c = -1 := by
  have h1 := num_lo c
  have h2 := num_hi c
  by_cases hn : 0 ≤ num c
  · have := h (num c).toNat (by omega)
    rw [show ((num c).toNat : Int) = num c by omega] at this
    exact absurd (ltr_num c hn) this
  · omega

set_option maxHeartbeats 400000 in
theorem refNumber_any (c : Int) (w : World) :
    Calls Try.prog 45 #[.int .u8 c] w fun e w' => e = .returned (.int .i64 (num c)) ∧ w = w' := by
  go_enter Try.func45, Try.ntmps45
  go_wp2
  go_loop [3] (fun i => ∃ k : Nat, k ≤ 64 ∧ i = .int .i64 k ∧ ∀ j : Nat, j < k → ltr j ≠ c) (fun i => 64 - (intOf i).toNat)
  case atStart => exact ⟨0, by omega, rfl, fun j hj => by omega⟩
  case round =>
    obtain ⟨k, hk, rfl, hall⟩ := hrel
    have HA : Hid (∀ j : Nat, j < k → ltr j ≠ c) := hall
    clear hall
    by_cases hlt : k < 64
    · by_cases hc : ltr k = c
      · have HN : Hid (num c = k) := by
          have : num c = k := by rw [← hc]; exact num_ltr k (by omega) (by omega)
          exact this
        have hcb : (ltr k == c) = true := by simp [hc]
        clear hc
        go_wp2_with (go_at_call 36; refine (letter_any _ _ (by omega) (by omega)).mono ?_; rintro e w' ⟨rfl, rfl⟩)
        go_ret
        exact ⟨ret_int HN.out.symm, rfl⟩
      · have hcb : (ltr k == c) = false := by simp [hc]
        have HC : Hid (ltr k ≠ c) := hc
        clear hc
        go_wp2_with (go_at_call 36; refine (letter_any _ _ (by omega) (by omega)).mono ?_; rintro e w' ⟨rfl, rfl⟩)
        go_round
        case rel => exact ⟨k + 1, by omega, by go_num, fun j hj => by
                              by_cases e : j = k
                              · rw [e]; exact HC.out
                              · exact HA.out j (by omega)⟩
        case measure => simp [intOf]; omega
    · obtain rfl : k = 64 := by omega
      have HN : Hid (num c = -1) := num_none c HA.out
      go_wp2
      go_ret
      exact ⟨ret_int HN.out.symm, rfl⟩

theorem isLet_num (c : Int) : (isLet c = true ∧ 0 ≤ num c ∧ num0 c = num c) ∨ (isLet c = false ∧ num c < 0) := by
  unfold isLet num0
  by_cases h : 0 ≤ num c
  · left; simp [h]
  · right; simp [h]; omega

set_option maxHeartbeats 2000000 in
theorem refDecode_any (s : ByteArray) (w : World) (hs : s.size ≤ 5000) :
    Calls Try.prog 33 #[.string s] w fun e w' => ((flt (ints s)).1 ≠ 0 ∧ e = .returned (.tuple #[.slice none 0 0, .int .i64 (flt (ints s)).1, .int .i64 (flt (ints s)).2]) ∨
      (flt (ints s)).1 = 0 ∧ ∃ q cq, e = .returned (.tuple #[.slice q (dec (ints s)).length cq, .int .i64 0, .int .i64 0]) ∧ Rd w'.heap.size w' q cq (dec (ints s))) ∧ Below w.heap.size w w' := by
  have HLN : Hid ((ints s).length = s.size) := ints_length s
  go_enter Try.func33, Try.ntmps33
  go_wp2
  go_loopw [5, 6] (fun v i wr => ∃ k : Nat, k ≤ s.size ∧ i = .int .i64 k ∧ (∀ j, j < k → isLet ((ints s).getD j 0) = true) ∧ wr.ownsRow w.heap.size 3 1 v (allB6 ((ints s).take k)).length ((allB6 ((ints s).take k)).map (Value.int .i64)) ∧ Below w.heap.size w wr)
    (fun _ i _ => s.size - (intOf i).toNat)
  case atStart => exact ⟨0, Nat.zero_le _, rfl, fun j hj => by omega, World.ownsRow_nil _ _ _ _, Below.refl _ _⟩
  case round =>
    obtain ⟨k, hk, rfl, hall, hown, hb⟩ := hrel
    have HA : Hid (∀ j, j < k → isLet ((ints s).getD j 0) = true) := hall
    clear hall
    by_cases hlt : k < s.size
    · have HG : Hid ((ints s).getD k 0 = (s[k].toNat : Int)) := ints_getD s k hlt
      obtain ⟨z, hz⟩ : ∃ z, num (s[k].toNat : Int) = z := ⟨_, rfl⟩
      have hz63 : z ≤ 63 := by rw [← hz]; exact num_hi _
      rcases isLet_num (s[k].toNat : Int) with ⟨hl, hn, h0⟩ | ⟨hl, hn⟩
      · have hz0 : 0 ≤ z := by rw [← hz]; exact hn
        have HL : Hid (isLet (s[k].toNat : Int) = true) := hl
        have HN0 : Hid (num0 (s[k].toNat : Int) = z) := by
          have : num0 (s[k].toNat : Int) = z := h0.trans hz
          exact this
        obtain ⟨D, hD⟩ : ∃ D, D = allB6 ((ints s).take k) := ⟨_, rfl⟩
        rw [← hD] at hown
        have HD : Hid (D = allB6 ((ints s).take k)) := hD
        have hDl : D.length ≤ 6 * k := by rw [hD, allB6_length]; simp; omega
        have HDL : Hid (D.length ≤ 6 * k) := hDl
        clear hl hn h0 hD hDl
        go_wp2_with (go_at_call 45; refine (refNumber_any _ _).mono ?_; rintro e w' ⟨rfl, rfl⟩)
        go_loopw [5, 8] (fun v i wx => ∃ t : Nat, t ≤ 6 ∧ i = .int .i64 ((t : Int) - 1) ∧ wx.ownsRow w.heap.size 3 1 v (D ++ (b6 z).take (6 - t)).length ((D ++ (b6 z).take (6 - t)).map (Value.int .i64)) ∧ Below w.heap.size w wx)
          (fun _ i _ => (intOf i + 1).toNat)
        case atStart => exact ⟨6, Nat.le_refl _, rfl, by simpa using hown, hb⟩
        case round =>
          clear hown hb
          obtain ⟨t, ht, rfl, hown, hb⟩ := hrel
          by_cases htp : 0 < t
          · obtain ⟨u, rfl⟩ : ∃ u, t = u + 1 := ⟨t - 1, by omega⟩
            have hbit := bit_i64 z u hz0 (by omega)
            have hbb := bitAt_bd z u
            have HT : Hid ((b6 z).take (6 - u) = (b6 z).take (6 - (u + 1)) ++ [bitAt z u]) := by
              have := take_b6 z (6 - (u + 1)) (by omega)
              rw [show 6 - (u + 1) + 1 = 6 - u by omega, show 5 - (6 - (u + 1)) = u by omega] at this
              exact this
            go_wp2_with (at_builtin; refine wpList_push rfl (.tmp 31) (.tmp 36) 46 3 .i64 8 rfl Try.underlying46 Try.info3 (by decide) w.heap.size _ (D ++ (b6 z).take (6 - (u + 1))) rfl ?a0 _ (bitAt z u) rfl ?a1 ?a2 ?a3 ?_)
            case a0 => exact hown.alloc _
            case a1 => exact cell_row (cur := [_]) (heap_alloc_new _ _) 0 _ rfl
            case a2 => have := HDL.out; rw [List.length_append, List.length_take]; omega
            case a3 => have := hb.size; simp; omega
            intro v' w' hown' hb'
            have hB' : Below w.heap.size w w' := (hb.alloc hb.size _).trans hb'
            clear hown hb hb'
            go_wp2
            go_roundw
            case rel => exact ⟨u, by omega, by go_num, by rw [HT.out, ← List.append_assoc]; simpa using hown', hB'⟩
            case measure => simp [intOf]
          · obtain rfl : t = 0 := by omega
            go_wp2
            go_roundw
            case rel =>
              refine ⟨k + 1, by omega, by go_num, ?_, ?_, hb⟩
              · intro j hj
                by_cases e : j = k
                · rw [e, HG.out]; exact HL.out
                · exact HA.out j (by omega)
              · have e : allB6 ((ints s).take (k + 1)) = D ++ b6 z := by rw [take_snoc (ints s) k (by rw [HLN.out]; exact hlt), allB6_snoc, HG.out, HN0.out, HD.out]
                rw [e]
                have e6 : (b6 z).take (6 - 0) = b6 z := rfl
                rw [e6] at hown
                exact hown
            case measure => simp [intOf]; omega
      · have hz0 : z < 0 := by rw [← hz]; exact hn
        have hgood := good_at (ints s) k (by rw [HLN.out]; exact hlt) HA.out (by rw [HG.out]; exact hl)
        have HF : Hid (flt (ints s) = (20, (k : Int))) := by
          have : flt (ints s) = (20, (k : Int)) := by unfold flt; rw [hgood, HLN.out, if_pos hlt]
          exact this
        clear hl hn hgood
        go_wp2_with (go_at_call 45; refine (refNumber_any _ _).mono ?_; rintro e w' ⟨rfl, rfl⟩)
        go_ret3
        refine ⟨.inl ⟨by rw [HF.out]; simp, ?_⟩, hb⟩
        rw [HF.out]
        exact ret_three rfl rfl
    · obtain rfl : k = s.size := by omega
      have hgood : Hid (good (ints s) = s.size) := (good_all (ints s) (by rw [HLN.out]; exact HA.out)).trans HLN.out
      rename World => wb
      have htake : (ints s).take s.size = ints s := List.take_of_length_le (by rw [HLN.out]; exact Nat.le_refl _)
      rw [htake] at hown
      obtain ⟨L, hL⟩ : ∃ L, L = allB6 (ints s) := ⟨_, rfl⟩
      rw [← hL] at hown
      have HL : Hid (L = allB6 (ints s)) := hL
      have hLl : L.length = 6 * s.size := by rw [hL, allB6_length, HLN.out]
      have HLL : Hid (L.length = 6 * s.size) := hLl
      have hLle : L.length ≤ 30000 := by omega
      clear htake hL hLl
      by_cases h1 : s.size % 4 = 1
      · have h1' : (s.size : Int) % 4 = 1 := by omega
        have hf : flt (ints s) = (22, (s.size : Int)) := by unfold flt; rw [hgood.out, HLN.out, if_neg (by omega), if_pos h1]
        have HF : Hid (flt (ints s) = (22, (s.size : Int))) := hf
        clear hf
        go_wp2
        go_ret3
        refine ⟨.inl ⟨by rw [HF.out]; simp, ?_⟩, hb⟩
        rw [HF.out]
        exact ret_three rfl rfl
      · have h1b : ((s.size : Int) % 4 == 1) = false := by simp; omega
        have HED : Hid (eight L = dec (ints s)) := by
          have := eight_dec (ints s) (by rw [HLN.out]; exact h1)
          rw [← HL.out] at this
          exact this
        have HTS : Hid ((∀ x ∈ L.drop (8 * (dec (ints s)).length), x = 0) ↔ spar (ints s) = 0) := by
          have := tail_spar (ints s) (by rw [HLN.out]; exact h1)
          rw [← HL.out] at this
          exact this
        have hLb : ∀ x ∈ L, 0 ≤ x ∧ x ≤ 1 := by rw [HL.out]; exact allB6_bd (ints s)
        have HLB : Hid (∀ x ∈ L, 0 ≤ x ∧ x ≤ 1) := hLb
        obtain ⟨q, cq, rfl, hrdi⟩ := own_rdi hown
        clear hLb hown
        go_wp2
        go_loopw [9, 10] (fun v i wx => ∃ (m : Nat) (done : List Int), m ≤ L.length ∧ m = 8 * done.length ∧ i = .int .i64 m ∧ eight L = done ++ eight (L.drop m) ∧
            wx.ownsRow wb.heap.size 5 1 v done.length (done.map (Value.int .u8)) ∧ Below wb.heap.size wb wx)
          (fun _ i _ => L.length - (intOf i).toNat)
        case atStart => exact ⟨0, [], Nat.zero_le _, rfl, rfl, rfl, World.ownsRow_nil _ _ _ _, Below.refl _ _⟩
        case round =>
          obtain ⟨m, done, hm, hm8, rfl, hsix, hown, hbx⟩ := hrel
          have HSX : Hid (eight L = done ++ eight (L.drop m)) := hsix
          have HM8 : Hid (m = 8 * done.length) := hm8
          have hdl : done.length ≤ 30000 := by omega
          clear hsix hm8
          by_cases hlt : m + 8 ≤ L.length
          · obtain ⟨g, rfl, hcell⟩ := hrdi.at hbx m (by omega)
            obtain ⟨x0, hx0⟩ : ∃ x, L.getD m 0 = x := ⟨_, rfl⟩
            obtain ⟨x1, hx1⟩ : ∃ x, L.getD (m + 1) 0 = x := ⟨_, rfl⟩
            obtain ⟨x2, hx2⟩ : ∃ x, L.getD (m + 2) 0 = x := ⟨_, rfl⟩
            obtain ⟨x3, hx3⟩ : ∃ x, L.getD (m + 3) 0 = x := ⟨_, rfl⟩
            obtain ⟨x4, hx4⟩ : ∃ x, L.getD (m + 4) 0 = x := ⟨_, rfl⟩
            obtain ⟨x5, hx5⟩ : ∃ x, L.getD (m + 5) 0 = x := ⟨_, rfl⟩
            obtain ⟨x6, hx6⟩ : ∃ x, L.getD (m + 6) 0 = x := ⟨_, rfl⟩
            obtain ⟨x7, hx7⟩ : ∃ x, L.getD (m + 7) 0 = x := ⟨_, rfl⟩
            have b0 : 0 ≤ x0 ∧ x0 ≤ 1 := hx0 ▸ getD_bit HLB.out m
            have b1 : 0 ≤ x1 ∧ x1 ≤ 1 := hx1 ▸ getD_bit HLB.out (m + 1)
            have b2 : 0 ≤ x2 ∧ x2 ≤ 1 := hx2 ▸ getD_bit HLB.out (m + 2)
            have b3 : 0 ≤ x3 ∧ x3 ≤ 1 := hx3 ▸ getD_bit HLB.out (m + 3)
            have b4 : 0 ≤ x4 ∧ x4 ≤ 1 := hx4 ▸ getD_bit HLB.out (m + 4)
            have b5 : 0 ≤ x5 ∧ x5 ≤ 1 := hx5 ▸ getD_bit HLB.out (m + 5)
            have b6 : 0 ≤ x6 ∧ x6 ≤ 1 := hx6 ▸ getD_bit HLB.out (m + 6)
            have b7 : 0 ≤ x7 ∧ x7 ≤ 1 := hx7 ▸ getD_bit HLB.out (m + 7)
            have c0 := hcell 0 x0 (by omega) hx0
            rw [Nat.add_zero] at c0
            have c1 := hcell 1 x1 (by omega) hx1
            have c2 := hcell 2 x2 (by omega) hx2
            have c3 := hcell 3 x3 (by omega) hx3
            have c4 := hcell 4 x4 (by omega) hx4
            have c5 := hcell 5 x5 (by omega) hx5
            have c6 := hcell 6 x6 (by omega) hx6
            have c7 := hcell 7 x7 (by omega) hx7
            have HST : Hid (eight (L.drop m) = (2 * (2 * (2 * (2 * (2 * (2 * (2 * x0 + x1) + x2) + x3) + x4) + x5) + x6) + x7) :: eight (L.drop (m + 8))) := eight_step L m x0 x1 x2 x3 x4 x5 x6 x7 hlt hx0 hx1 hx2 hx3 hx4 hx5 hx6 hx7
            clear hx0 hx1 hx2 hx3 hx4 hx5 hx6 hx7 hcell
            go_wp2
            refine wp_loop_rounds 9 ?_
            iterate 8 (rw [rounds_succ]; go_wp2)
            rw [rounds_succ]
            go_wp2_with (at_builtin; refine wpList_push rfl (.tmp 64) (.tmp 67) 33 5 .u8 1 rfl Try.underlying33 Try.info5 (by decide) wb.heap.size _ done rfl ?a0 _ (2 * (2 * (2 * (2 * (2 * (2 * (2 * x0 + x1) + x2) + x3) + x4) + x5) + x6) + x7) rfl ?a1 ?a2 ?a3 ?_)
            case a0 => exact hown.alloc _
            case a1 => exact cell_row (cur := [_]) (heap_alloc_new _ _) 0 _ rfl
            case a2 => omega
            case a3 => have := hbx.size; simp; omega
            intro v' w' hown' hb'
            have hB' : Below wb.heap.size wb w' := (hbx.alloc hbx.size _).trans hb'
            clear hown hbx hb' c0 c1 c2 c3 c4 c5 c6 c7
            go_wp2
            go_roundw
            case rel =>
              have R : ∃ (m' : Nat) (done' : List Int), m' ≤ L.length ∧ m' = 8 * done'.length ∧ Value.int .i64 ((m : Int) + 8) = .int .i64 m' ∧ eight L = done' ++ eight (L.drop m') ∧
                  w'.ownsRow wb.heap.size 5 1 v' done'.length (done'.map (Value.int .u8)) ∧ Below wb.heap.size wb w' := by
                refine ⟨m + 8, done ++ [2 * (2 * (2 * (2 * (2 * (2 * (2 * x0 + x1) + x2) + x3) + x4) + x5) + x6) + x7], by omega, by have := HM8.out; simp; omega, by go_num, ?_, by simpa using hown', hB'⟩
                rw [HSX.out, HST.out]; simp
              first | exact R | ((repeat apply Exists.intro); exact ⟨R, rfl⟩)
            case measure => simp [intOf]; omega
          · have hdn : done = dec (ints s) := by
              have := HSX.out
              rw [HED.out, eight_short (L.drop m) (by simp; omega)] at this
              simpa using this.symm
            have HDN : Hid (done = dec (ints s)) := hdn
            have hm8 := HM8.out
            obtain ⟨q2, cq2, rfl, hrq⟩ := own_rd hown (by rw [hdn]; exact dec_bd _)
            have h8 : 8 * (done.length : Int) = m := by omega
            clear hdn hown hm8
            have hdb : decide ((m : Int) + 8 ≤ (L.length : Int)) = false := by simp; omega
            go_wp2
            go_loop [13] (fun i => ∃ k : Nat, m ≤ k ∧ k ≤ L.length ∧ i = .int .i64 k ∧ ∀ j, m ≤ j → j < k → L.getD j 0 = 0) (fun i => L.length - (intOf i).toNat)
            case atStart => exact ⟨m, Nat.le_refl _, hm, rfl, fun j h1 h2 => by omega⟩
            case round =>
              obtain ⟨k, hmk, hkl, rfl, hall⟩ := hrel
              have HZ : Hid (∀ j, m ≤ j → j < k → L.getD j 0 = 0) := hall
              have HD8 : Hid (8 * (dec (ints s)).length = m) := by
                have := HM8.out
                rw [HDN.out] at this
                exact this.symm
              clear hall
              by_cases hlk : k < L.length
              · obtain ⟨g, rfl, hcell⟩ := hrdi.at hbx k hlk
                obtain ⟨x, hx⟩ : ∃ x, L.getD k 0 = x := ⟨_, rfl⟩
                have c0 := hcell 0 x (by omega) hx
                rw [Nat.add_zero] at c0
                have HX : Hid (L.getD k 0 = x) := hx
                clear hx hcell
                by_cases hx0 : x = 0
                · subst hx0
                  go_wp2
                  go_round
                  case rel => exact ⟨k + 1, by omega, by omega, by go_num, fun j h1 h2 => by
                                        by_cases e : j = k
                                        · rw [e]; exact HX.out
                                        · exact HZ.out j h1 (by omega)⟩
                  case measure => simp [intOf]; omega
                · have hxb : (x != 0) = true := by simp [hx0]
                  have hf : flt (ints s) = (21, (s.size : Int) - 1) := by
                    have hsp : spar (ints s) ≠ 0 := by
                      intro h
                      have := HTS.out.2 h (L.getD k 0) (by
                        rw [HD8.out, List.getD_eq_getElem?_getD, List.getElem?_eq_getElem hlk]
                        simp only [Option.getD_some]
                        have e : L[k] = (L.drop m)[k - m]'(by simp; omega) := by simp [Nat.add_sub_cancel' hmk]
                        rw [e]
                        exact List.getElem_mem _)
                      rw [HX.out] at this
                      exact hx0 this
                    unfold flt
                    rw [hgood.out, HLN.out, if_neg (by omega), if_neg h1, if_pos hsp]
                  have HF : Hid (flt (ints s) = (21, (s.size : Int) - 1)) := hf
                  clear hf hx0
                  go_wp2
                  go_ret3
                  refine ⟨.inl ⟨by rw [HF.out]; simp, ?_⟩, hb.trans (hbx.mono hb.size)⟩
                  rw [HF.out]
                  exact ret_three rfl rfl
              · have hf : flt (ints s) = (0, 0) := by
                  have hsp : spar (ints s) = 0 := by
                    refine HTS.out.1 fun x hx => ?_
                    rw [HD8.out] at hx
                    obtain ⟨i, hi, rfl⟩ := List.mem_iff_getElem.1 hx
                    have hi' : m + i < L.length := by simp at hi; omega
                    have := HZ.out (m + i) (by omega) (by omega)
                    rw [List.getD_eq_getElem?_getD, List.getElem?_eq_getElem hi'] at this
                    simpa using this
                  unfold flt
                  rw [hgood.out, HLN.out, if_neg (by omega), if_neg h1, if_neg (by simp [hsp])]
                have HF : Hid (flt (ints s) = (0, 0)) := hf
                clear hf
                go_wp2
                go_ret3
                refine ⟨.inr ⟨by rw [HF.out], q2, cq2, ?_, ?_⟩, hb.trans (hbx.mono hb.size)⟩
                · rw [← HDN.out]; rfl
                · rw [← HDN.out]; exact hrq
theorem refDecode_bad (s : ByteArray) (w : World) (hs : s.size ≤ 5000) (hf : (flt (ints s)).1 ≠ 0) :
    Calls Try.prog 33 #[.string s] w fun e w' => e = .returned (.tuple #[.slice none 0 0, .int .i64 (flt (ints s)).1, .int .i64 (flt (ints s)).2]) ∧ Below w.heap.size w w' := by
  refine (refDecode_any s w hs).mono fun e w' ⟨h, hb⟩ => ?_
  rcases h with ⟨_, h⟩ | ⟨h, _⟩
  · exact ⟨h, hb⟩
  · exact absurd h hf
theorem refDecode_good (s : ByteArray) (w : World) (hs : s.size ≤ 5000) (hf : (flt (ints s)).1 = 0) :
    Calls Try.prog 33 #[.string s] w fun e w' => ∃ q cq, e = .returned (.tuple #[.slice q (dec (ints s)).length cq, .int .i64 0, .int .i64 0]) ∧ Rd w'.heap.size w' q cq (dec (ints s)) ∧ Below w.heap.size w w' := by
  refine (refDecode_any s w hs).mono fun e w' ⟨h, hb⟩ => ?_
  rcases h with ⟨h, _⟩ | ⟨_, q, cq, h1, h2⟩
  · exact absurd hf h
  · exact ⟨q, cq, h1, h2, hb⟩

end Go.Proofs.Ytfblafpcdlmbjaa

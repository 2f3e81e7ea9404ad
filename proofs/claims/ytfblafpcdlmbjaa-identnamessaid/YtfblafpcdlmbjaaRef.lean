/-
  The document's answer of layer 2, walked: bits, letter, Encode.
-/
import Derived.Test.YtfblafpcdlmbjaaLaws
import Derived.Test.YtfblafpcdlmbjaaRefMath
namespace Go.Proofs.Ytfblafpcdlmbjaa
open Go.RowKit

theorem Try.info3 : (Try.prog.info? 3).map (fun i => (i.zero, i.size, i.bytes)) = some (some (.int .i64 0), 1, 8) := by kernel_rfl

theorem ret_str {a b : ByteArray} (h : a = b) : Ending.returned (.string a) = .returned (.string b) := by rw [h]

set_option maxHeartbeats 400000 in
theorem letter_any (n : Int) (w : World) (h0 : 0 ≤ n) (h1 : n ≤ 63) :
    Calls Try.prog 36 #[.int .i64 n] w fun e w' => e = .returned (.int .u8 (ltr n)) ∧ w = w' := by
  have x1 := abc_run .i64 n h0 h1
  go_enter Try.func36, Try.ntmps36
  go_wp2
  go_ret
  exact ⟨rfl, rfl⟩

/-- One integer more at the end of a row of the call's own. -/
theorem wpList_push {w : World} {ops : Array Oper} {rest : List Oper} {o : Oper} {a : Act} {Q : Exit → Act → World → Prop} (hgd : o.guard = none) (s x : Operand) (t e : TypeId) (k : IntKind) (bytes : Nat)
    (ho : o.op = .call { callee := .builtin .append, args := #[s, x], argTypes := #[t, t] }) (ht : Try.prog.underlying t = some (.slice e))
    (hinfo : (Try.prog.info? e).map (fun i => (i.zero, i.size, i.bytes)) = some (some (.int k 0), 1, bytes)) (hby : bytes ≤ 8)
    (base : Nat) (v : Value) (L : List Int) (hs : a.eval s = v) (hown : w.ownsRow base e 1 v L.length (L.map (Value.int k)))
    (ad : Addr) (y : Int) (hx : a.eval x = .slice (some ad) 1 1) (hc : w.cell? ad = some (.int k y)) (hlen : L.length ≤ 1000000000) (hbase : base ≤ w.heap.size)
    (h : ∀ v' w', w'.ownsRow base e 1 v' (L ++ [y]).length ((L ++ [y]).map (Value.int k)) → Below base w w' → wpList Try.prog ops Q rest (a.put o.dst v') w') : wpList Try.prog ops Q (o :: rest) a w := by
  obtain ⟨i0, hi, hz0, hz1, hz2⟩ := info_parts hinfo
  refine wpList_append_own w hgd s x t ho base e i0 (.int k 0) 1 bytes ht hi hz0 hz1 hz2 rfl (by decide) v L.length (L.map (Value.int k)) hs hown ad 1 1 [.int k y] hx rfl (fun j u hj => ?_) (fun u hu => ?_) (by unfold maxLen; omega) ?_ hbase ?_
  · match j, hj with
    | 0, hj => simp at hj; subst hj; simpa [Addr.add] using hc
  · simp at hu; subst hu; rfl
  · have : (L.length + 1) * bytes ≤ (L.length + 1) * 8 := Nat.mul_le_mul_left _ hby
    omega
  · intro v' w' hown' hgrow _
    exact h v' w' (by rw [List.length_append, List.map_append]; exact hown') ((Below.refl _ _).grown hgrow hbase (own_base hown))

set_option maxHeartbeats 1000000 in
theorem bits_any (zs : List Int) (p : Option Addr) (c : Nat) (w : World) (hz : zs.length ≤ 1000000) (hrd : Rd w.heap.size w p c zs) :
    Calls Try.prog 35 #[.slice p zs.length c] w fun e w' => ∃ v, e = .returned v ∧ w'.ownsRow w.heap.size 3 1 v (allBits zs).length ((allBits zs).map (Value.int .i64)) ∧ Below w.heap.size w w' := by
  obtain ⟨i0, hi, hz0, hz1, hz2⟩ := info_parts Try.info3
  go_enter Try.func35, Try.ntmps35
  go_wp2
  go_loopw [3, 4] (fun v i wr => ∃ k : Nat, k ≤ zs.length ∧ i = .int .i64 k ∧ wr.ownsRow w.heap.size 3 1 v (allBits (zs.take k)).length ((allBits (zs.take k)).map (Value.int .i64)) ∧ Below w.heap.size w wr)
    (fun _ i _ => zs.length - (intOf i).toNat)
  case atStart => exact ⟨0, Nat.zero_le _, rfl, World.ownsRow_nil _ _ _ _, Below.refl _ _⟩
  case round =>
    obtain ⟨k, hk, rfl, hown, hb⟩ := hrel
    by_cases hlt : k < zs.length
    · obtain ⟨z, hzk⟩ : ∃ z, zs.getD k 0 = z := ⟨_, rfl⟩
      have hzb : 0 ≤ z ∧ z ≤ 255 := hzk ▸ getD_bd hrd.2.1 k
      obtain ⟨ad, rfl, had, hcell⟩ := hrd.2.2 k hlt
      obtain ⟨D, hD⟩ : ∃ D, D = allBits (zs.take k) := ⟨_, rfl⟩
      rw [← hD] at hown
      have hDl : D.length = 8 * k := by rw [hD, allBits_length]; simp; omega
      have HD : Hid (D = allBits (zs.take k)) := hD
      have HDL : Hid (D.length = 8 * k) := hDl
      have HZ : Hid (zs.getD k 0 = z) := hzk
      rw [hzk] at hcell
      clear hD hDl hzk
      go_wp2
      go_loopw [3, 5] (fun v i wx => ∃ t : Nat, t ≤ 8 ∧ i = .int .i64 ((t : Int) - 1) ∧ wx.ownsRow w.heap.size 3 1 v (D ++ (b8 z).take (8 - t)).length ((D ++ (b8 z).take (8 - t)).map (Value.int .i64)) ∧ Below w.heap.size w wx)
        (fun _ i _ => (intOf i + 1).toNat)
      case atStart => exact ⟨8, Nat.le_refl _, rfl, by simpa using hown, hb⟩
      case round =>
        clear hown hb
        obtain ⟨t, ht, rfl, hown, hb⟩ := hrel
        by_cases htp : 0 < t
        · obtain ⟨u, rfl⟩ : ∃ u, t = u + 1 := ⟨t - 1, by omega⟩
          have hcw : wr.cell? (ad.add k) = some (.int .u8 z) := (hb.cell (by rw [add_block]; exact had)).trans hcell
          have hbit := bit_u8 z u hzb.1 hzb.2
          have hbb := bitAt_bd z u
          have HT : Hid ((b8 z).take (8 - u) = (b8 z).take (8 - (u + 1)) ++ [bitAt z u]) := by
            have := take_b8 z (8 - (u + 1)) (by omega)
            rw [show 8 - (u + 1) + 1 = 8 - u by omega, show 7 - (8 - (u + 1)) = u by omega] at this
            exact this
          go_wp2_with (at_builtin; refine wpList_push rfl (.tmp 16) (.tmp 25) 46 3 .i64 8 rfl Try.underlying46 Try.info3 (by decide) w.heap.size _ (D ++ (b8 z).take (8 - (u + 1))) rfl ?a0 _ (bitAt z u) rfl ?a1 ?a2 ?a3 ?_)
          case a0 => exact hown.alloc _
          case a1 => exact cell_row (cur := [_]) (heap_alloc_new _ _) 0 _ rfl
          case a2 => rw [List.length_append, HDL.out, List.length_take]; omega
          case a3 => have := hb.size; simp; omega
          intro v' w' hown' hb'
          have hB' : Below w.heap.size w w' := (hb.alloc hb.size _).trans hb'
          clear hown hb hb'
          go_wp2
          go_roundw
          case rel => exact ⟨u, by omega, by go_num, by rw [HT.out, ← List.append_assoc]; simpa using hown', hB'⟩
          case measure => simp [intOf]
        · obtain rfl : t = 0 := by omega
          go_wp2
          go_roundw
          case rel =>
            refine ⟨k + 1, by omega, by go_num, ?_, hb⟩
            have e : allBits (zs.take (k + 1)) = D ++ b8 z := by rw [take_snoc zs k hlt, allBits_snoc, HZ.out, HD.out]
            rw [e]
            have e8 : (b8 z).take (8 - 0) = b8 z := rfl
            rw [e8] at hown
            exact hown
          case measure => simp [intOf]; omega
    · obtain rfl : k = zs.length := by omega
      rw [List.take_length] at hown
      go_wp2
      go_ret
      exact ⟨_, rfl, hown, hb⟩
/-- Integers that are read at p. -/
def RdI (w : World) (p : Option Addr) (P : List Int) : Prop := ∀ j, j < P.length → ∃ g, p = some ⟨g, 0, none⟩ ∧ g < w.heap.size ∧ w.cell? ⟨g, j, none⟩ = some (.int .i64 (P.getD j 0))
theorem own_rdi {w : World} {B : Nat} {v : Value} {L : List Int} (h : w.ownsRow B 3 1 v L.length (L.map (Value.int .i64))) : ∃ q cq, v = .slice q L.length cq ∧ RdI w q L := by
  rcases h.2 with ⟨rfl, hn⟩ | ⟨g, cap, cur, rfl, hg, hgg, h1, h2, h3, h4⟩
  · obtain rfl : L = [] := List.eq_nil_of_length_eq_zero hn
    exact ⟨none, 0, rfl, fun j hj => by simp at hj⟩
  · refine ⟨_, cap, rfl, fun j hj => ⟨g, rfl, (Array.getElem?_eq_some_iff.1 hgg).1, ?_⟩⟩
    rw [h.cellAt j (by omega), List.getElem?_map, List.getElem?_eq_getElem hj, List.getD_eq_getElem?_getD, List.getElem?_eq_getElem hj]
    rfl
theorem RdI.at {w w' : World} {q : Option Addr} {P : List Int} (h : RdI w q P) (hb : Below w.heap.size w w') (m : Nat) (hm : m < P.length) : ∃ g, q = some ⟨g, 0, none⟩ ∧ ∀ j x, m + j < P.length → P.getD (m + j) 0 = x → w'.cell? ⟨g, m + j, none⟩ = some (.int .i64 x) := by
  obtain ⟨g, ha, _, _⟩ := h m hm
  refine ⟨g, ha, fun j x hj hx => ?_⟩
  obtain ⟨g', ha', hB, hc⟩ := h (m + j) hj
  obtain rfl : g = g' := by rw [ha] at ha'; cases ha'; rfl
  rw [hb.cell (by exact hB), hc, hx]

set_option maxHeartbeats 1000000 in
theorem refEncode_any (zs : List Int) (p : Option Addr) (c : Nat) (w : World) (hz : zs.length ≤ 1000000) (hrd : Rd w.heap.size w p c zs) :
    Calls Try.prog 25 #[.slice p zs.length c] w fun e w' => e = .returned (.string (strOfNums (enc zs))) ∧ Below w.heap.size w w' := by
  have HA : Hid ((allBits zs).length = 8 * zs.length) := allBits_length zs
  obtain ⟨A, hA⟩ : ∃ A, A = allBits zs := ⟨_, rfl⟩
  have HAA : Hid (A = allBits zs) := hA
  have hAl : A.length = 8 * zs.length := by rw [hA, allBits_length]
  have HAL : Hid (A.length = 8 * zs.length) := hAl
  clear hA hAl
  go_enter Try.func25, Try.ntmps25
  go_wp2_with (go_at_call 35; refine (bits_any zs _ _ _ hz hrd).mono ?_; rintro e w1 ⟨v, rfl, hown, hb1⟩)
  rw [← HAA.out] at hown
  go_loopw [3] (fun v wr => ∃ t : Nat, t ≤ pad A.length ∧ wr.ownsRow w.heap.size 3 1 v (A ++ List.replicate t 0).length ((A ++ List.replicate t 0).map (Value.int .i64)) ∧ Below w.heap.size w wr)
    (fun v _ => (6 - lenOf v % 6) % 6)
  case atStart => exact ⟨0, Nat.zero_le _, by simpa using hown, hb1⟩
  case round =>
    clear hown hb1
    obtain ⟨t, ht, hown, hb⟩ := hrel
    obtain ⟨L, hL⟩ : ∃ L, L = A ++ List.replicate t (0 : Int) := ⟨_, rfl⟩
    have HL : Hid (L = A ++ List.replicate t (0 : Int)) := hL
    have hLl : L.length = A.length + t := by rw [hL]; simp
    have HLL : Hid (L.length = A.length + t) := hLl
    rw [← hL] at hown
    clear hL
    obtain ⟨q, cq, rfl, hrdi⟩ := own_rdi hown
    have hp : t ≤ (6 - A.length % 6) % 6 := ht
    by_cases h6 : L.length % 6 = 0
    · have h6' : (L.length : Int) % 6 = 0 := by omega
      rename World => wb
      have htp : t = pad A.length := by unfold pad; omega
      have hLd : L.length % 6 = 0 := h6
      have HLS : Hid (six L = enc zs) := by
        have e := six_bits zs hrd.2.1
        rw [← HAA.out, ← HAL.out, ← htp, ← HL.out] at e
        exact e
      have hLb : ∀ x ∈ L, 0 ≤ x ∧ x ≤ 1 := by
        intro x hx
        rw [HL.out] at hx
        rcases List.mem_append.1 hx with h | h
        · rw [HAA.out] at h; exact allBits_bd zs x h
        · rw [List.eq_of_mem_replicate h]; omega
      have hLle : L.length ≤ 1000000000 := by have := HAL.out; have : pad A.length ≤ 5 := by unfold pad; omega
                                              omega
      have HLB : Hid (∀ x ∈ L, 0 ≤ x ∧ x ≤ 1) := hLb
      have h6b : ((L.length : Int) % 6 != 0) = false := by simp [h6']
      clear hLl hp ht h6' hown hLb htp
      go_wp2
      go_loopw [4, 5] (fun v i wx => ∃ (m : Nat) (done : List Int), m ≤ L.length ∧ m % 6 = 0 ∧ i = .int .i64 m ∧ six L = done ++ six (L.drop m) ∧ done.length ≤ m ∧
          wx.ownsRow wb.heap.size 5 1 v done.length (done.map (Value.int .u8)) ∧ Below wb.heap.size wb wx)
        (fun _ i _ => L.length - (intOf i).toNat)
      case atStart => exact ⟨0, [], Nat.zero_le _, rfl, rfl, rfl, Nat.le_refl _, World.ownsRow_nil _ _ _ _, Below.refl _ _⟩
      case round =>
        obtain ⟨m, done, hm, hm6, rfl, hsix, hdl, hown, hbx⟩ := hrel
        have HSX : Hid (six L = done ++ six (L.drop m)) := hsix
        clear hsix
        by_cases hlt : m < L.length
        · have hm6l : m + 6 ≤ L.length := by omega
          obtain ⟨g, rfl, hcell⟩ := hrdi.at hbx m hlt
          obtain ⟨x0, hx0⟩ : ∃ x, L.getD m 0 = x := ⟨_, rfl⟩
          obtain ⟨x1, hx1⟩ : ∃ x, L.getD (m + 1) 0 = x := ⟨_, rfl⟩
          obtain ⟨x2, hx2⟩ : ∃ x, L.getD (m + 2) 0 = x := ⟨_, rfl⟩
          obtain ⟨x3, hx3⟩ : ∃ x, L.getD (m + 3) 0 = x := ⟨_, rfl⟩
          obtain ⟨x4, hx4⟩ : ∃ x, L.getD (m + 4) 0 = x := ⟨_, rfl⟩
          obtain ⟨x5, hx5⟩ : ∃ x, L.getD (m + 5) 0 = x := ⟨_, rfl⟩
          have b0 : 0 ≤ x0 ∧ x0 ≤ 1 := hx0 ▸ getD_bit HLB.out m
          have b1 : 0 ≤ x1 ∧ x1 ≤ 1 := hx1 ▸ getD_bit HLB.out (m + 1)
          have b2 : 0 ≤ x2 ∧ x2 ≤ 1 := hx2 ▸ getD_bit HLB.out (m + 2)
          have b3 : 0 ≤ x3 ∧ x3 ≤ 1 := hx3 ▸ getD_bit HLB.out (m + 3)
          have b4 : 0 ≤ x4 ∧ x4 ≤ 1 := hx4 ▸ getD_bit HLB.out (m + 4)
          have b5 : 0 ≤ x5 ∧ x5 ≤ 1 := hx5 ▸ getD_bit HLB.out (m + 5)
          have c0 := hcell 0 x0 (by omega) hx0
          rw [Nat.add_zero] at c0
          have c1 := hcell 1 x1 (by omega) hx1
          have c2 := hcell 2 x2 (by omega) hx2
          have c3 := hcell 3 x3 (by omega) hx3
          have c4 := hcell 4 x4 (by omega) hx4
          have c5 := hcell 5 x5 (by omega) hx5
          have HST : Hid (six (L.drop m) = ltr (2 * (2 * (2 * (2 * (2 * x0 + x1) + x2) + x3) + x4) + x5) :: six (L.drop (m + 6))) := six_step L m x0 x1 x2 x3 x4 x5 hm6l hx0 hx1 hx2 hx3 hx4 hx5
          clear hx0 hx1 hx2 hx3 hx4 hx5 hcell
          go_wp2
          refine wp_loop_rounds 7 ?_
          iterate 6 (rw [rounds_succ]; go_wp2)
          rw [rounds_succ]
          go_wp2_with (first
            | (go_at_call 36; refine (letter_any _ _ (by omega) (by omega)).mono ?_; rintro e w' ⟨rfl, rfl⟩)
            | (at_builtin; refine wpList_push rfl (.tmp 36) (.tmp 39) 33 5 .u8 1 rfl Try.underlying33 Try.info5 (by decide) wb.heap.size _ done rfl ?a0 _ (ltr (2 * (2 * (2 * (2 * (2 * x0 + x1) + x2) + x3) + x4) + x5)) rfl ?a1 ?a2 ?a3 ?_))
          case a0 => exact hown.alloc _
          case a1 => exact cell_row (cur := [_]) (heap_alloc_new _ _) 0 _ rfl
          case a2 => omega
          case a3 => have := hbx.size; simp; omega
          intro v' w' hown' hb'
          have hB' : Below wb.heap.size wb w' := (hbx.alloc hbx.size _).trans hb'
          clear hown hbx hb' c0 c1 c2 c3 c4 c5
          go_wp2
          go_roundw
          case rel =>
            have R : ∃ (m' : Nat) (done' : List Int), m' ≤ L.length ∧ m' % 6 = 0 ∧ Value.int .i64 ((m : Int) + 6) = .int .i64 m' ∧ six L = done' ++ six (L.drop m') ∧ done'.length ≤ m' ∧
                w'.ownsRow wb.heap.size 5 1 v' done'.length (done'.map (Value.int .u8)) ∧ Below wb.heap.size wb w' := by
              refine ⟨m + 6, done ++ [ltr (2 * (2 * (2 * (2 * (2 * x0 + x1) + x2) + x3) + x4) + x5)], by omega, by omega, by go_num, ?_, by simp; omega, by simpa using hown', hB'⟩
              rw [HSX.out, HST.out]; simp
            first | exact R | ((repeat apply Exists.intro); exact ⟨R, rfl⟩)
          case measure => simp [intOf]; omega
        · obtain rfl : m = L.length := by omega
          have hd0 : done = enc zs := by
            have := HSX.out
            rw [HLS.out, List.drop_length] at this
            simpa [six] using this.symm
          have hds : Hid (done = enc zs) := hd0
          clear hd0
          have hcv := own_string hown
          go_wp2
          go_ret
          exact ⟨ret_str (by rw [hds.out]), hb.trans (hbx.mono hb.size)⟩
    · have h6' : ¬ (L.length : Int) % 6 = 0 := by omega
      have hAle := HAL.out
      have hLle : L.length ≤ 1000000000 := by omega
      have hpt : t + 1 ≤ pad A.length := by unfold pad; omega
      clear hLl hp ht hAle
      go_wp2_with (at_builtin; refine wpList_push rfl (.tmp 14) (.tmp 15) 46 3 .i64 8 rfl Try.underlying46 Try.info3 (by decide) w.heap.size _ L rfl ?a0 _ 0 rfl ?a1 hLle ?a3 ?_)
      case a0 => exact hown.alloc _
      case a1 => exact cell_row (cur := [_]) (heap_alloc_new _ _) 0 _ rfl
      case a3 => have := hb.size; simp; omega
      intro v' w' hown' hb'
      have hB' : Below w.heap.size w w' := (hb.alloc hb.size _).trans hb'
      clear hown hb hb'
      go_wp2
      go_roundw
      case rel =>
        refine ⟨t + 1, hpt, ?_, hB'⟩
        have e : A ++ List.replicate (t + 1) (0 : Int) = L ++ [0] := by rw [HL.out, List.replicate_succ', List.append_assoc]
        rw [e]
        simpa using hown'
      case measure =>
        have hown2 : w'.ownsRow w.heap.size 3 1 v' (L ++ [0]).length ((L ++ [0]).map (Value.int .i64)) := by simpa using hown'
        obtain ⟨q', cq', rfl, _⟩ := own_rdi hown2
        simp [lenOf]
        omega

end Go.Proofs.Ytfblafpcdlmbjaa

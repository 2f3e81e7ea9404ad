/-
  The statements of layer 2 that need no answer of the document's, walked: each returns true, and turns nothing that was there.
-/
import Derived.Test.YtlljgkbigpmblaaAwake
import Derived.Test.YtlljgkbigpmblaaBack
import Derived.Laws.AppendOwnNone
namespace Go.Proofs.Ytlljgkbigpmblaa
open Go.RowKit

theorem rd_string {B : Nat} {w : World} {p : Option Addr} {c : Nat} {rs : List Int} (h : Rd B w p c rs) :
    (convert 22 9 (.slice p rs.length c)).run Try.prog w = .ok (.string (strOfNums rs)) w := by
  cases p with
  | none =>
    have h0 : rs = [] := by
      cases rs with
      | nil => rfl
      | cons x r => obtain ⟨a, ha, _⟩ := h.2.2 0 (by simp); cases ha
    subst h0
    exact run_convert_bytes_nil w 22 5 Try.underlying22 Try.underlying5 0 c 9 Try.underlying9
  | some a =>
    have := run_convert_bytes_back (P := Try.prog) w 22 9 5 a c (rs.map fun n => UInt8.ofNat n.toNat) Try.underlying22 Try.underlying5 Try.underlying9 (fun j hj => by
      have hj' : j < rs.length := by simpa using hj
      obtain ⟨a', ha, _, hc⟩ := h.2.2 j hj'
      cases ha
      rw [hc, List.getElem_map]
      have hb := h.2.1 rs[j] (List.getElem_mem hj')
      have hx : rs[j].toNat < 256 := by omega
      rw [UInt8.toNat_ofNat_of_lt' hx, List.getD_eq_getElem?_getD, List.getElem?_eq_getElem hj']
      congr 2
      simp
      omega)
    rw [List.length_map] at this
    exact this

theorem decode_enc (zs : List Int) (w : World) (hz : zs.length ≤ 1000000) (hb : ∀ x ∈ zs, 0 ≤ x ∧ x ≤ 255) :
    Calls Try.prog 12 #[.string (strOfNums (enc zs))] w fun e w' => e = .returned (.tuple #[.slice (some ⟨w.heap.size, 0, none⟩) zs.length zs.length, .int .i64 0, .int .i64 0]) ∧
      w'.heap[w.heap.size]? = some (.cells (zs.map (Value.int .u8)).toArray 5 (0, 0)) ∧ Below w.heap.size w w' := by
  have e1 : ints (strOfNums (enc zs)) = enc zs := ints_str _ (enc_bd zs hb)
  have h := decode_good (strOfNums (enc zs)) w (by rw [← ints_length, e1]; have := enc_le zs; omega) (by rw [e1, flt_enc zs hb])
  rw [e1, dec_enc zs hb] at h
  exact h

set_option maxHeartbeats 1000000 in
theorem baseBack_any (zs : List Int) (p : Option Addr) (c : Nat) (w : World) (hz : zs.length ≤ 140737488351232) (hrd : Rd w.heap.size w p c zs) :
    Calls Try.prog 5 #[.slice p zs.length c] w fun e w' => e = .returned (.bool true) ∧ Below w.heap.size w w' := by
  by_cases hl : 5000 < zs.length
  · go_enter Try.func5, Try.ntmps5
    go_wp2
    go_ret
    exact ⟨rfl, Below.refl _ _⟩
  · go_enter Try.func5, Try.ntmps5
    go_wp2_with (first
      | (go_at_call 9; refine (encode_any zs _ _ _ (by omega) hrd).mono ?_; rintro e w1 ⟨rfl, hb1⟩)
      | (go_at_call 12; refine (decode_enc zs _ (by omega) hrd.2.1).mono ?_; rintro e w2 ⟨rfl, hrow, hb2⟩; have hB := hb1.trans (hb2.mono hb1.size); have hcv1 := rd_string (rd_row hrow hrd.2.1 zs.length (Nat.le_refl _)); have hcv2 := rd_string (hrd.carry hB); clear hrow)
      | (go_at_call 11; refine (awake_any _).mono ?_; rintro e w3 ⟨rfl, hb3⟩))
    go_ret
    exact ⟨rfl, hB.trans (hb3.mono hB.size)⟩

set_option maxHeartbeats 1000000 in
theorem baseOnce_any (s : ByteArray) (w : World) (hs : s.size ≤ 140737488351232) :
    Calls Try.prog 6 #[.string s] w fun e w' => e = .returned (.bool true) ∧ Below w.heap.size w w' := by
  by_cases hl : 5000 < s.size
  · go_enter Try.func6, Try.ntmps6
    go_wp2
    go_ret
    exact ⟨rfl, Below.refl _ _⟩
  · by_cases hf : (flt (ints s)).1 = 0
    · have hdl : (dec (ints s)).length ≤ 1000000 := by
        have h1 := dec_length (ints s)
        have h2 := byts_bd (((ints s).length : Int) % 4) (by omega)
        rw [ints_length] at h1 h2
        omega
      have he : strOfNums (enc (dec (ints s))) = s := by rw [enc_dec _ hf, str_ints]
      go_enter Try.func6, Try.ntmps6
      go_wp2_with (first
        | (go_at_call 12; refine (decode_good s _ hs hf).mono ?_; rintro e w1 ⟨rfl, hrow, hb1⟩; have hrd := rd_row hrow (dec_bd (ints s)) _ (Nat.le_refl _); clear hrow)
        | (go_at_call 9; refine (encode_any (dec (ints s)) _ _ _ hdl hrd).mono ?_; rintro e w2 ⟨rfl, hb2⟩)
        | (go_at_call 11; refine (awake_any _).mono ?_; rintro e w3 ⟨rfl, hb3⟩))
      go_ret
      have c2 := hb1.trans (hb2.mono hb1.size)
      exact ⟨rfl, c2.trans (hb3.mono c2.size)⟩
    · go_enter Try.func6, Try.ntmps6
      go_wp2_with (first
        | (go_at_call 12; refine (decode_bad s _ hs hf).mono ?_; rintro e w1 ⟨rfl, hb1⟩)
        | (go_at_call 11; refine (awake_any _).mono ?_; rintro e w3 ⟨rfl, hb3⟩))
      go_ret
      exact ⟨rfl, hb1.trans (hb3.mono hb1.size)⟩

theorem own_rd {w : World} {B : Nat} {v : Value} {L : List Int} (h : w.ownsRow B 5 1 v L.length (L.map (Value.int .u8))) (hL : ∀ x ∈ L, 0 ≤ x ∧ x ≤ 255) : ∃ q cq, v = .slice q L.length cq ∧ Rd w.heap.size w q cq L := by
  rcases h.2 with ⟨rfl, hn⟩ | ⟨g, cap, cur, rfl, hg, hgg, h1, h2, h3, h4⟩
  · obtain rfl : L = [] := List.eq_nil_of_length_eq_zero hn
    exact ⟨none, 0, rfl, Nat.le_refl _, hL, fun j hj => by simp at hj⟩
  · refine ⟨_, cap, rfl, h1, hL, fun j hj => ⟨_, rfl, (Array.getElem?_eq_some_iff.1 hgg).1, ?_⟩⟩
    have e : (⟨g, 0, none⟩ : Addr).add j = ⟨g, j, none⟩ := by unfold Addr.add; split <;> simp_all
    rw [e, h.cellAt j (by omega), List.getElem?_map, List.getElem?_eq_getElem hj, List.getD_eq_getElem?_getD, List.getElem?_eq_getElem hj]
    rfl
theorem Rd.all {B : Nat} {w : World} {q : Option Addr} {cq : Nat} {R : List Int} (h : Rd B w q cq R) (ad : Addr) (hq : q = some ad) : ∀ j u, (R.map (Value.int .u8))[j]? = some u → w.cell? (ad.add j) = some u := by
  intro j u hj
  have hjl : j < R.length := by
    rcases Nat.lt_or_ge j R.length with h' | h'
    · exact h'
    · rw [List.getElem?_eq_none (by simpa using h')] at hj; cases hj
  obtain ⟨a, ha, _, hc⟩ := h.2.2 j hjl
  obtain rfl : ad = a := by rw [hq] at ha; exact Option.some.inj ha
  rw [hc, ← hj, List.getElem?_map, List.getElem?_eq_getElem hjl, List.getD_eq_getElem?_getD, List.getElem?_eq_getElem hjl]
  rfl
theorem wpList_append_rd {w : World} {ops : Array Oper} {rest : List Oper} {o : Oper} {a : Act} {Q : Exit → Act → World → Prop} (hgd : o.guard = none) (s x : Operand)
    (ho : o.op = .call { callee := .builtin .append, args := #[s, x], argTypes := #[22, 22] })
    (base : Nat) (v : Value) (L : List Int) (hs : a.eval s = v) (hown : w.ownsRow base 5 1 v L.length (L.map (Value.int .u8)))
    (B : Nat) (q : Option Addr) (cq : Nat) (R : List Int) (hx : a.eval x = .slice q R.length cq) (hrd : Rd B w q cq R) (hnone : q = none → cq = 0) (hlen : L.length + R.length ≤ 1000000) (hbase : base ≤ w.heap.size)
    (h : ∀ v' w', w'.ownsRow base 5 1 v' (L ++ R).length ((L ++ R).map (Value.int .u8)) → Below base w w' → wpList Try.prog ops Q rest (a.put o.dst v') w') : wpList Try.prog ops Q (o :: rest) a w := by
  obtain ⟨i0, hi, hz0, hz1, hz2⟩ := info_parts Try.info5
  cases q with
  | none =>
    obtain rfl := hnone rfl
    obtain rfl : R = [] := by
      cases R with
      | nil => rfl
      | cons y r => obtain ⟨a, ha, _⟩ := hrd.2.2 0 (by simp); cases ha
    refine wpList_append_own_none hgd s x 22 ho base 5 i0 1 Try.underlying22 hi v L.length (L.map (Value.int .u8)) hs hown hx ?_
    exact h v w (by rw [List.append_nil]; exact hown) (Below.refl _ _)
  | some ad =>
    refine wpList_append_own w hgd s x 22 ho base 5 i0 (.int .u8 0) 1 1 Try.underlying22 hi hz0 hz1 hz2 rfl (by decide) v L.length (L.map (Value.int .u8)) hs hown ad R.length cq (R.map (Value.int .u8)) hx (by simp) (hrd.all ad rfl) (u8_oneCell _) (by unfold maxLen; omega) (by omega) hbase ?_
    intro v' w' hown' hgrow _
    exact h v' w' (by rw [List.length_append, List.map_append]; exact hown') ((Below.refl _ _).grown hgrow hbase (own_base hown))
theorem Rd.grow {B B' : Nat} {w : World} {p : Option Addr} {c : Nat} {rs : List Int} (h : Rd B w p c rs) (hB : B ≤ B') : Rd B' w p c rs :=
  ⟨h.1, h.2.1, fun j hj => by
    obtain ⟨a, ha, hb, hc⟩ := h.2.2 j hj
    exact ⟨a, ha, by omega, hc⟩⟩
theorem Rd.take {B : Nat} {w : World} {p : Option Addr} {c : Nat} {rs : List Int} (h : Rd B w p c rs) (m : Nat) : Rd B w p c (rs.take m) := by
  refine ⟨by have := h.1; simp; omega, fun x hx => h.2.1 x (List.mem_of_mem_take hx), fun j hj => ?_⟩
  simp only [List.length_take] at hj
  obtain ⟨a, ha, hb, hc⟩ := h.2.2 j (by omega)
  refine ⟨a, ha, hb, ?_⟩
  rw [hc, List.getD_eq_getElem?_getD, List.getD_eq_getElem?_getD, List.getElem?_take, if_pos (by omega)]
theorem own_empty (w : World) (B : Nat) (hB : B ≤ w.heap.size) : (w.alloc (.cells #[] 5)).ownsRow B 5 1 (.slice (some ⟨w.heap.size, 0, none⟩) 0 0) ([] : List Int).length (([] : List Int).map (Value.int .u8)) :=
  ⟨rfl, .inr ⟨_, 0, #[], rfl, hB, heap_alloc_new _ _, Nat.le_refl _, Nat.zero_le _, rfl, rfl⟩⟩

set_option maxHeartbeats 1000000 in
theorem baseCuts_any (xs ys : List Int) (p p' : Option Addr) (c c' : Nat) (w : World) (hz : xs.length ≤ 140737488351232) (hz' : ys.length ≤ 140737488351232) (hrd : Rd w.heap.size w p c xs) (hrd' : Rd w.heap.size w p' c' ys)
    (hn : p = none → c = 0) (hn' : p' = none → c' = 0) :
    Calls Try.prog 8 #[.slice p xs.length c, .slice p' ys.length c'] w fun e w' => e = .returned (.bool true) ∧ Below w.heap.size w w' := by
  by_cases hl : 5000 < xs.length + ys.length
  · go_enter Try.func8, Try.ntmps8
    go_wp2
    go_ret
    exact ⟨rfl, Below.refl _ _⟩
  · obtain ⟨A, hA⟩ : ∃ A, A = xs.take (xs.length / 3 * 3) := ⟨_, rfl⟩
    have hAl : A.length = xs.length / 3 * 3 := by rw [hA]; simp; omega
    have hrA : Rd w.heap.size w p c A := by rw [hA]; exact hrd.take _
    have hsl : ∀ wx, (Instr.slice 22 (.slice p xs.length c) none (some (.int .i64 ((xs.length : Int) / 3 * 3))) none).run Try.prog wx = .ok (.slice p A.length c) wx := by
      intro wx
      rw [run_slice_h wx 22 p xs.length c (by rw [elem22]; exact Try.underlying22) .i64 ((xs.length : Int) / 3 * 3) (by omega) (by have := hrd.1; omega), elem22, sizeOf5]
      have e1 : ((xs.length : Int) / 3 * 3).toNat = A.length := by omega
      cases p <;> simp [Result.andThen, sliced, e1, Addr.add]
    have HAL : Hid (A.length % 3 = 0) := by have : A.length % 3 = 0 := by omega
                                            exact this
    have hAle : A.length + ys.length ≤ 5000 := by omega
    clear hAl hA
    have hN : Hid (p = none → c = 0) := hn
    have hN' : Hid (p' = none → c' = 0) := hn'
    clear hn hn'
    go_enter Try.func8, Try.ntmps8
    go_wp2_with (at_builtin; refine wpList_append_rd rfl (.tmp 18) (.tmp 19) rfl w.heap.size _ [] rfl ?a0 w.heap.size _ _ A rfl ?a1 hN.out ?a2 ?a3 ?_)
    case a0 => exact own_empty w _ (Nat.le_refl _)
    case a1 => exact hrA.carry ((Below.refl _ _).alloc (Nat.le_refl _) _)
    case a2 => simp; omega
    case a3 => simp
    intro v1 w1 hown1 hb1
    have hB1 : Below w.heap.size w w1 := ((Below.refl _ _).alloc (Nat.le_refl _) _).trans hb1
    clear hb1
    go_wp2_with (at_builtin; refine wpList_append_rd rfl (.tmp 20) (.tmp 21) rfl w.heap.size _ A rfl hown1 w.heap.size _ _ ys rfl ?b1 hN'.out ?b2 ?b3 ?_)
    case b1 => exact hrd'.carry hB1
    case b2 => omega
    case b3 => exact hB1.size
    intro v2 w2 hown2 hb2
    have hB2 := hB1.trans hb2
    have hbd : ∀ x ∈ A ++ ys, 0 ≤ x ∧ x ≤ 255 := by
      intro x hx
      rcases List.mem_append.1 hx with h | h
      · exact hrA.2.1 x h
      · exact hrd'.2.1 x h
    obtain ⟨D, hD⟩ : ∃ D, D = A ++ ys := ⟨_, rfl⟩
    have hown3 : w2.ownsRow w.heap.size 5 1 v2 (A ++ ys).length ((A ++ ys).map (Value.int .u8)) := by rw [List.length_append, List.map_append]; exact hown2
    rw [← hD] at hown3 hbd
    obtain ⟨q, cq, rfl, hrq⟩ := own_rd hown3 hbd
    have HE : Hid (enc D = enc A ++ enc ys) := by have := enc_append A ys HAL.out
                                                  rw [← hD] at this
                                                  exact this
    have hDl : D.length ≤ 5000 := by rw [hD]; simp; omega
    have hAle' : A.length ≤ 5000 := by omega
    clear hD hown1 hown2 hown3 hb2
    have hcat : strOfNums (enc A) ++ strOfNums (enc ys) = strOfNums (enc D) := by rw [str_append, HE.out]
    have hsum : ¬ 9223372036854775807 < (strOfNums (enc A)).size + (strOfNums (enc ys)).size := by
      rw [str_size, str_size]
      have := enc_le A
      have := enc_le ys
      omega
    have hrA2 := hrA.carry hB2
    have hry2 := hrd'.carry hB2
    go_wp2_with (first
      | (go_at_call 9; have _h := hc2; refine (encode_any ys _ _ _ (by omega) (Rd.grow (hry2.carry (hc2.mono hB2.size)) (by have := hB2.size; have := hc2.size; omega))).mono ?_; rintro e w5 ⟨rfl, hb5⟩)
      | (go_at_call 9; have _h := hb3; refine (encode_any A _ _ _ (by omega) (Rd.grow (hrA2.carry (hb3.mono hB2.size)) (by have := hB2.size; have := hb3.size; omega))).mono ?_; rintro e w4 ⟨rfl, hb4⟩; have hc2 := hb3.trans (hb4.mono hb3.size))
      | (go_at_call 9; refine (encode_any D _ _ _ (by omega) hrq).mono ?_; rintro e w3 ⟨rfl, hb3⟩)
      | (go_at_call 11; refine (awake_any _).mono ?_; rintro e w6 ⟨rfl, hb6⟩))
    go_ret
    have c5 := hc2.trans (hb5.mono hc2.size)
    have c6 := c5.trans (hb6.mono c5.size)
    exact ⟨rfl, hB2.trans (c6.mono hB2.size)⟩

set_option maxHeartbeats 1000000 in
theorem refSize_any (n : Int) (w : World) (h1 : n < 1099511627776) :
    Calls Try.prog 15 #[.int .i64 n] w fun e w' => e = .returned (.int .i64 (siz n)) ∧ w = w' := by
  by_cases hn : n < 0
  · go_enter Try.func15, Try.ntmps15
    go_wp2
    go_ret
    exact ⟨ret_int (by unfold siz; rw [if_pos hn]), rfl⟩
  · go_enter Try.func15, Try.ntmps15
    go_wp2
    go_ret
    exact ⟨ret_int (by unfold siz lets; rw [if_neg (by omega)]; split <;> omega), rfl⟩

set_option maxHeartbeats 1000000 in
theorem baseSizes_any (n : Int) (zs : List Int) (p : Option Addr) (c : Nat) (w : World) (hz : zs.length ≤ 140737488351232) (hrd : Rd w.heap.size w p c zs) :
    Calls Try.prog 7 #[.int .i64 n, .slice p zs.length c] w fun e w' => e = .returned (.bool true) ∧ Below w.heap.size w w' := by
  by_cases hl : 5000 < zs.length
  · go_enter Try.func7, Try.ntmps7
    go_wp2
    go_ret
    exact ⟨rfl, Below.refl _ _⟩
  · have hss : (((strOfNums (enc zs)).size : Nat) : Int) = siz zs.length := by rw [str_size, enc_length]
    by_cases hn : n < 1099511627776
    · go_enter Try.func7, Try.ntmps7
      go_wp2_with (first
        | (go_at_call 14; refine (size_any _ _ (by omega)).mono ?_; rintro e w' ⟨rfl, rfl⟩)
        | (go_at_call 15; refine (refSize_any _ _ (by omega)).mono ?_; rintro e w' ⟨rfl, rfl⟩)
        | (go_at_call 9; refine (encode_any zs _ _ _ (by omega) hrd).mono ?_; rintro e w1 ⟨rfl, hb1⟩)
        | (go_at_call 11; refine (awake_any _).mono ?_; rintro e w2 ⟨rfl, hb2⟩))
      go_ret
      exact ⟨rfl, hb1.trans (hb2.mono hb1.size)⟩
    · go_enter Try.func7, Try.ntmps7
      go_wp2_with (first
        | (go_at_call 14; refine (size_any _ _ (by omega)).mono ?_; rintro e w' ⟨rfl, rfl⟩)
        | (go_at_call 9; refine (encode_any zs _ _ _ (by omega) hrd).mono ?_; rintro e w1 ⟨rfl, hb1⟩)
        | (go_at_call 11; refine (awake_any _).mono ?_; rintro e w2 ⟨rfl, hb2⟩))
      go_ret
      exact ⟨rfl, hb1.trans (hb2.mono hb1.size)⟩
end Go.Proofs.Ytlljgkbigpmblaa

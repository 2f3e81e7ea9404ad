/-
  The statements of layer 2 that need no answer of the document's, walked: each returns true, and turns nothing that was there.
-/
import Derived.Test.YtfblafpcdlmbjaaDecode
import Derived.Test.YtfblafpcdlmbjaaBack
import Derived.Laws.AppendOwnNone
namespace Go.Proofs.Ytfblafpcdlmbjaa
open Go.RowKit

theorem rd_string {B : Nat} {w : World} {p : Option Addr} {c : Nat} {rs : List Int} (h : Rd B w p c rs) :
    (convert 33 9 (.slice p rs.length c)).run Try.prog w = .ok (.string (strOfNums rs)) w := by
  cases p with
  | none =>
    have h0 : rs = [] := by
      cases rs with
      | nil => rfl
      | cons x r => obtain ⟨a, ha, _⟩ := h.2.2 0 (by simp); cases ha
    subst h0
    exact run_convert_bytes_nil w 33 5 Try.underlying33 Try.underlying5 0 c 9 Try.underlying9
  | some a =>
    have := run_convert_bytes_back (P := Try.prog) w 33 9 5 a c (rs.map fun n => UInt8.ofNat n.toNat) Try.underlying33 Try.underlying5 Try.underlying9 (fun j hj => by
      have hj' : j < rs.length := by simpa using hj
      obtain ⟨a', ha, _, hc⟩ := h.2.2 j hj'
      cases ha
      rw [hc, List.getElem_map]
      have hb := h.2.1 rs[j] (List.getElem_mem hj')
      have hx : rs[j].toNat < 256 := by omega
      rw [UInt8.toNat_ofNat_of_lt' hx, List.getD_eq_getElem?_getD, List.getElem?_eq_getElem hj']
      congr 2
      simp
      omega)
    rw [List.length_map] at this
    exact this

theorem decode_enc (zs : List Int) (w : World) (hz : zs.length ≤ 1000000) (hb : ∀ x ∈ zs, 0 ≤ x ∧ x ≤ 255) :
    Calls Try.prog 32 #[.string (strOfNums (enc zs))] w fun e w' => e = .returned (.tuple #[.slice (some ⟨w.heap.size, 0, none⟩) zs.length zs.length, .int .i64 0, .int .i64 0]) ∧
      w'.heap[w.heap.size]? = some (.cells (zs.map (Value.int .u8)).toArray 5 (0, 0)) ∧ Below w.heap.size w w' := by
  have e1 : ints (strOfNums (enc zs)) = enc zs := ints_str _ (enc_bd zs hb)
  have h := decode_good (strOfNums (enc zs)) w (by rw [← ints_length, e1]; have := enc_le zs; omega) (by rw [e1, flt_enc zs hb])
  rw [e1, dec_enc zs hb] at h
  exact h



theorem own_rd {w : World} {B : Nat} {v : Value} {L : List Int} (h : w.ownsRow B 5 1 v L.length (L.map (Value.int .u8))) (hL : ∀ x ∈ L, 0 ≤ x ∧ x ≤ 255) : ∃ q cq, v = .slice q L.length cq ∧ Rd w.heap.size w q cq L := by
  rcases h.2 with ⟨rfl, hn⟩ | ⟨g, cap, cur, rfl, hg, hgg, h1, h2, h3, h4⟩
  · obtain rfl : L = [] := List.eq_nil_of_length_eq_zero hn
    exact ⟨none, 0, rfl, Nat.le_refl _, hL, fun j hj => by simp at hj⟩
  · refine ⟨_, cap, rfl, h1, hL, fun j hj => ⟨_, rfl, (Array.getElem?_eq_some_iff.1 hgg).1, ?_⟩⟩
    have e : (⟨g, 0, none⟩ : Addr).add j = ⟨g, j, none⟩ := by unfold Addr.add; split <;> simp_all
    rw [e, h.cellAt j (by omega), List.getElem?_map, List.getElem?_eq_getElem hj, List.getD_eq_getElem?_getD, List.getElem?_eq_getElem hj]
    rfl
theorem Rd.all {B : Nat} {w : World} {q : Option Addr} {cq : Nat} {R : List Int} (h : Rd B w q cq R) (ad : Addr) (hq : q = some ad) : ∀ j u, (R.map (Value.int .u8))[j]? = some u → w.cell? (ad.add j) = some u := by
  intro j u hj
  have hjl : j < R.length := by
    rcases Nat.lt_or_ge j R.length with h' | h'
    · exact h'
    · rw [List.getElem?_eq_none (by simpa using h')] at hj; cases hj
  obtain ⟨a, ha, _, hc⟩ := h.2.2 j hjl
  obtain rfl : ad = a := by rw [hq] at ha; exact Option.some.inj ha
  rw [hc, ← hj, List.getElem?_map, List.getElem?_eq_getElem hjl, List.getD_eq_getElem?_getD, List.getElem?_eq_getElem hjl]
  rfl
theorem wpList_append_rd {w : World} {ops : Array Oper} {rest : List Oper} {o : Oper} {a : Act} {Q : Exit → Act → World → Prop} (hgd : o.guard = none) (s x : Operand)
    (ho : o.op = .call { callee := .builtin .append, args := #[s, x], argTypes := #[33, 33] })
    (base : Nat) (v : Value) (L : List Int) (hs : a.eval s = v) (hown : w.ownsRow base 5 1 v L.length (L.map (Value.int .u8)))
    (B : Nat) (q : Option Addr) (cq : Nat) (R : List Int) (hx : a.eval x = .slice q R.length cq) (hrd : Rd B w q cq R) (hnone : q = none → cq = 0) (hlen : L.length + R.length ≤ 1000000) (hbase : base ≤ w.heap.size)
    (h : ∀ v' w', w'.ownsRow base 5 1 v' (L ++ R).length ((L ++ R).map (Value.int .u8)) → Below base w w' → wpList Try.prog ops Q rest (a.put o.dst v') w') : wpList Try.prog ops Q (o :: rest) a w := by
  obtain ⟨i0, hi, hz0, hz1, hz2⟩ := info_parts Try.info5
  cases q with
  | none =>
    obtain rfl := hnone rfl
    obtain rfl : R = [] := by
      cases R with
      | nil => rfl
      | cons y r => obtain ⟨a, ha, _⟩ := hrd.2.2 0 (by simp); cases ha
    refine wpList_append_own_none hgd s x 33 ho base 5 i0 1 Try.underlying33 hi v L.length (L.map (Value.int .u8)) hs hown hx ?_
    exact h v w (by rw [List.append_nil]; exact hown) (Below.refl _ _)
  | some ad =>
    refine wpList_append_own w hgd s x 33 ho base 5 i0 (.int .u8 0) 1 1 Try.underlying33 hi hz0 hz1 hz2 rfl (by decide) v L.length (L.map (Value.int .u8)) hs hown ad R.length cq (R.map (Value.int .u8)) hx (by simp) (hrd.all ad rfl) (u8_oneCell _) (by unfold maxLen; omega) (by omega) hbase ?_
    intro v' w' hown' hgrow _
    exact h v' w' (by rw [List.length_append, List.map_append]; exact hown') ((Below.refl _ _).grown hgrow hbase (own_base hown))
theorem Rd.grow {B B' : Nat} {w : World} {p : Option Addr} {c : Nat} {rs : List Int} (h : Rd B w p c rs) (hB : B ≤ B') : Rd B' w p c rs :=
  ⟨h.1, h.2.1, fun j hj => by
    obtain ⟨a, ha, hb, hc⟩ := h.2.2 j hj
    exact ⟨a, ha, by omega, hc⟩⟩
theorem Rd.take {B : Nat} {w : World} {p : Option Addr} {c : Nat} {rs : List Int} (h : Rd B w p c rs) (m : Nat) : Rd B w p c (rs.take m) := by
  refine ⟨by have := h.1; simp; omega, fun x hx => h.2.1 x (List.mem_of_mem_take hx), fun j hj => ?_⟩
  simp only [List.length_take] at hj
  obtain ⟨a, ha, hb, hc⟩ := h.2.2 j (by omega)
  refine ⟨a, ha, hb, ?_⟩
  rw [hc, List.getD_eq_getElem?_getD, List.getD_eq_getElem?_getD, List.getElem?_take, if_pos (by omega)]
theorem own_empty (w : World) (B : Nat) (hB : B ≤ w.heap.size) : (w.alloc (.cells #[] 5)).ownsRow B 5 1 (.slice (some ⟨w.heap.size, 0, none⟩) 0 0) ([] : List Int).length (([] : List Int).map (Value.int .u8)) :=
  ⟨rfl, .inr ⟨_, 0, #[], rfl, hB, heap_alloc_new _ _, Nat.le_refl _, Nat.zero_le _, rfl, rfl⟩⟩



end Go.Proofs.Ytfblafpcdlmbjaa

/-
  A text as bytes, handed to the table's deeds.
-/
import Derived.Test.YtjgogmlmcebgpaaAwake
import Derived.Lib.ConvBytes
namespace Go.Proofs.Ytjgogmlmcebgpaa
open Go.RowKit Go.Maps

/-- In w1 the bytes of s lie in a new block; else it is w. -/
structure Bytes (w w1 : World) (s : ByteArray) (cap : Nat) : Prop where
  run : (convert 9 37 (.string s)).run Try.prog w = .ok (.slice (some ⟨w.heap.size, 0, none⟩) s.size cap) w1
  rd : Rd w1.heap.size w1 (some ⟨w.heap.size, 0, none⟩) cap (ints s)
  below : Below w.heap.size w w1

theorem bytes_any (s : ByteArray) (w : World) : ∃ cap w1, Bytes w w1 s cap := by
  refine ⟨grownCap w s.size 0 5, Lib.bytesWorld w 5 s, Lib.run_convert_string_bytes w 9 37 5 s Try.underlying9 Try.underlying37 Try.underlying5, ⟨?_, ints_bd s, fun j hj => ⟨_, rfl, ?_, ?_⟩⟩, ?_⟩
  · rw [ints_length]; exact grownCap_ge _ _ _ _
  · rw [Lib.bytesWorld_size]; exact Nat.lt_succ_self _
  · rw [ints_length] at hj
    have e : (⟨w.heap.size, 0, none⟩ : Addr).add j = ⟨w.heap.size, j, none⟩ := by unfold Addr.add; split <;> simp_all
    rw [e, Lib.bytesWorld_cell w 5 s j hj, ints_getD s j hj]
    have : s.data.toList.getD j 0 = s[j] := by
      rw [List.getD_eq_getElem?_getD, List.getElem?_eq_getElem (by simpa using hj)]
      rfl
    rw [this]
  · exact ⟨rfl, rfl, rfl, by rw [Lib.bytesWorld_size]; omega, fun k hk => Lib.bytesWorld_at_old w 5 s k hk⟩

section
variable {B tb b1 b2 : Nat} {v : Value} {w w1 : World} {S D : List ByteArray} {G : List (Nat × ByteArray)} {s : ByteArray} {cap : Nat}
theorem digest_text (h : Tab B w tb v b1 b2 S D G) (hc : Bytes w w1 s cap) (hs : s.size ≤ 1000) (hD : D.length ≤ 100000) :
    Calls Try.prog 14 #[.pointer (some ⟨tb, 0, none⟩), .slice (some ⟨w.heap.size, 0, none⟩) s.size cap] w1 fun e w' => e = .returned (.string (lt (no D s))) ∧ Tab B w' tb v b1 b2 S (add D s) G ∧ w.grownBy w' (some b1) := by
  have := digest_any (ints s) _ cap w1 (h.below hc.below) hc.rd (by rw [ints_length]; exact hs) hD
  rw [ints_length, str_ints] at this
  refine this.mono ?_
  rintro e w' ⟨rfl, ht, hg⟩
  exact ⟨rfl, ht, (grown_any (below_grown hc.below) _).trans hg⟩
theorem sign_text (t : ByteArray) (h : Tab B w tb v b1 b2 S D G) (hc : Bytes w w1 s cap) (hs : s.size ≤ 1000) (hG : G.length ≤ 100000) (ht : inn S t = true) :
    Calls Try.prog 16 #[.pointer (some ⟨tb, 0, none⟩), .string t, .slice (some ⟨w.heap.size, 0, none⟩) s.size cap] w1 fun e w' => e = .returned (.tuple #[.string (lt (no G (plc S t, s))), .int .i64 0]) ∧ Tab B w' tb v b1 b2 S D (add G (plc S t, s)) ∧ w.grownBy w' (some b2) := by
  have := sign_any t (ints s) _ cap w1 (h.below hc.below) hc.rd (by rw [ints_length]; exact hs) hG ht
  rw [ints_length, str_ints] at this
  refine this.mono ?_
  rintro e w' ⟨rfl, ht, hg⟩
  exact ⟨rfl, ht, (grown_any (below_grown hc.below) _).trans hg⟩
theorem verify_text (t k : ByteArray) (h : Tab B w tb v b1 b2 S D G) (hc : Bytes w w1 s cap) (hs : s.size ≤ 1000) (hG : G.length ≤ 100000) :
    Calls Try.prog 19 #[.pointer (some ⟨tb, 0, none⟩), .string t, .slice (some ⟨w.heap.size, 0, none⟩) s.size cap, .string k] w1 fun e w' => e = .returned (.bool (ver S G t s k)) ∧ Tab B w' tb v b1 b2 S D G ∧ Below w.heap.size w w' := by
  have := verify_any t (ints s) k _ cap w1 (h.below hc.below) hc.rd (by rw [ints_length]; exact hs) hG
  rw [ints_length, str_ints] at this
  refine this.mono ?_
  rintro e w' ⟨rfl, hb⟩
  exact ⟨rfl, (h.below hc.below).below hb, hc.below.trans (hb.mono hc.below.size)⟩
end

/-- The table's blocks lie below B2. -/
structure Lo (B2 tb : Nat) (v : Value) (b1 b2 : Nat) : Prop where
  tb : tb < B2
  b1 : b1 < B2
  b2 : b2 < B2
  row : ∀ k, v.ownBlock = some k → k < B2
section
variable {B B2 tb b1 b2 : Nat} {v : Value} {w w' : World} {S D : List ByteArray} {G : List (Nat × ByteArray)}
theorem Tab.lo (h : Tab B w tb v b1 b2 S D G) : Lo w.heap.size tb v b1 b2 :=
  ⟨World.block_lt_of_cell? w _ h.c0, h.texts.lt, h.tokens.lt, fun k hk => (h.row.lt k hk).2⟩
theorem Nums.low {α : Type} [DecidableEq α] {k : TypeId} {kl : α → Lit} {ok : α → Prop} {b : Nat} {l : List α} (h : Nums k kl ok w b l) (hb : b < B2) (hw : Below B2 w w') : Nums k kl ok w' b l := by
  obtain ⟨D, ⟨es, clock, e, r⟩, h2⟩ := h
  exact ⟨D, ⟨es, clock, (hw.block b hb).trans e, r⟩, h2⟩
theorem Tab.low (h : Tab B w tb v b1 b2 S D G) (hl : Lo B2 tb v b1 b2) (hw : Below B2 w w') : Tab B w' tb v b1 b2 S D G := by
  refine ⟨(hw.cell hl.tb).trans h.c0, (hw.cell hl.tb).trans h.c1, (hw.cell hl.tb).trans h.c2, ⟨h.row.1, ?_⟩, h.texts.low hl.b1 hw, h.tokens.low hl.b2 hw, h.ne, h.base, h.few, h.one⟩
  rcases h.row.2 with h' | ⟨g, cap, cur, rfl, hg, hgg, r⟩
  · exact .inl h'
  · exact .inr ⟨g, cap, cur, rfl, hg, (hw.block g (hl.row g rfl)).trans hgg, r⟩
end
end Go.Proofs.Ytjgogmlmcebgpaa

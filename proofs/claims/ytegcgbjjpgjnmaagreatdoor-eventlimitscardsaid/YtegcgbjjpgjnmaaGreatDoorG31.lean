/-
  The calls of the law's examples, each by a contract.
  The law's examples, by a contract.
  The law of limits, by a contract.
  A value of JSON that came in, as the walks read it.
-/
import Derived.Test.YtegcgbjjpgjnmaaGreatDoorG30
import Derived.Test.YtegcgbjjpgjnmaaGreatDoorG29
import Derived.Test.YtegcgbjjpgjnmaaGreatDoorG05
import Derived.Test.YtegcgbjjpgjnmaaGreatDoorG15
import Derived.Test.YtegcgbjjpgjnmaaGreatDoorG01
import Derived.Test.YtegcgbjjpgjnmaaGreatDoorChecked
import Derived.Deep.Cut
import Derived.ProofKit
import Derived.SizedLaws
import Derived.SliceStrings
namespace Go.Proofs.YtegcgbjjpgjnmaaGreatDoor
open Go.RowKit Go.Maps
/-- The sample's bytes are read there. -/
def EncR (w : World) (p : Option Addr) (n c : Nat) : Prop := n = (encB sampleE).length ∧ Rd w.heap.size w p c (encB sampleE)
theorem enc_E (w : World) (hT : Tabs w) : Calls Tryz.prog 20 #[.agg #[.string sRoom, .string sType, .string sSender, .bool false, .string nix, .int .i64 5, .int .i64 0, .string nix, .slice none 0 0, .slice none 0 0, .slice none 0 0, .slice none 0 0, .int .i64 0, .int .i64 0, .string nix, .slice none 0 0]] w fun x w' => (∃ p n c, x = .returned (.tuple #[.slice p n c, .int .i64 0]) ∧ EncR w' p n c) ∧ Below w.heap.size w w' := by
  have h := eEncode_any (O := fun _ => False) sampleE Pt.zero w (isE_bare _ _ _ _ _ _ _ _ _ _ _ _ _) (fun _ h => h.elim) szE_E hT
  simp only [valE, cellsE, J.kind, J.int, J.text, J.keys, J.list, sampleE, Pt.zero, List.length_nil] at h
  refine h.mono ?_
  rintro x w' ⟨_, _, h3, h4⟩
  obtain ⟨v, hv, how⟩ := h3 shaped_E len_E
  obtain ⟨q, c, rfl, hr⟩ := enc_rd (shaped_good shaped_E) how
  exact ⟨⟨q, _, c, hv, rfl, hr⟩, h4⟩
theorem dec_E (w : World) (p : Option Addr) (n c : Nat) (hr : EncR w p n c) (hT : Tabs w) : Calls Tryz.prog 21 #[.slice p n c] w fun x w' => (∃ pk ck pl cl pp cp pa ca ps cs, x = .returned (.tuple #[.agg #[.string sRoom, .string sType, .string sSender, .bool false, .string nix, .int .i64 5, .int .i64 0, .string nix, .slice pk 0 ck, .slice pl 0 cl, .slice pp 0 cp, .slice pa 0 ca, .int .i64 0, .int .i64 0, .string nix, .slice ps 0 cs], .int .i64 0]) ∧ IsE (New w w') w' sampleE ⟨pk, ck, pl, cl, pp, cp, pa, ca, ps, cs⟩) ∧ Below w.heap.size w w' := by
  obtain ⟨rfl, hr⟩ := hr
  have h := eDecode_ok hr (Nat.le_trans len_E (by decide)) (decode_enc (shaped_good shaped_E) len_E) (enc_bd 12 _ (good_ord 12 _ (shaped_good shaped_E))) keys_E hT
  rw [ordT_E, from_E] at h
  refine h.mono ?_
  rintro x w' ⟨⟨pt, rfl, hI⟩, hb⟩
  obtain ⟨pk, ck, pl, cl, pp, cp, pa, ca, ps, cs⟩ := pt
  exact ⟨⟨pk, ck, pl, cl, pp, cp, pa, ca, ps, cs, rfl, hI⟩, hb⟩
theorem shp_E (w : World) (hT : Tabs w) : Calls Tryz.prog 10 #[.agg #[.string sRoom, .string sType, .string sSender, .bool false, .string nix, .int .i64 5, .int .i64 0, .string nix, .slice none 0 0, .slice none 0 0, .slice none 0 0, .slice none 0 0, .int .i64 0, .int .i64 0, .string nix, .slice none 0 0]] w fun x w' => x = .returned (.int .i64 0) ∧ Below w.heap.size w w' := by
  have h := eShape_any (O := fun _ => False) sampleE Pt.zero w (isE_bare _ _ _ _ _ _ _ _ _ _ _ _ _) (fun _ h => h.elim) szE_E hT
  rw [shape_E] at h
  exact h
theorem shp_F (w : World) (hT : Tabs w) : Calls Tryz.prog 10 #[.agg #[.string sRoom, .string sType, .string sSender, .bool false, .string ⟨#[107]⟩, .int .i64 5, .int .i64 0, .string nix, .slice none 0 0, .slice none 0 0, .slice none 0 0, .slice none 0 0, .int .i64 0, .int .i64 0, .string nix, .slice none 0 0]] w fun x w' => x = .returned (.int .i64 50) ∧ Below w.heap.size w w' := by
  have h := eShape_any (O := fun _ => False) sampleF Pt.zero w (isE_bare _ _ _ _ _ _ _ _ _ _ _ _ _) (fun _ h => h.elim) szE_F hT
  rw [shape_F] at h
  exact h
theorem shp_H (w : World) (hT : Tabs w) : Calls Tryz.prog 10 #[.agg #[.string sRoom, .string sType, .string sSender, .bool false, .string nix, .int .i64 0, .int .i64 0, .string nix, .slice none 0 0, .slice none 0 0, .slice none 0 0, .slice none 0 0, .int .i64 0, .int .i64 0, .string nix, .slice none 0 0]] w fun x w' => x = .returned (.int .i64 50) ∧ Below w.heap.size w w' := by
  have h := eShape_any (O := fun _ => False) sampleH Pt.zero w (isE_bare _ _ _ _ _ _ _ _ _ _ _ _ _) (fun _ h => h.elim) szE_H hT
  rw [shape_H] at h
  exact h
theorem shp_G (w : World) (b : Nat) (hT : Tabs w) (hb : w.heap[b]? = some (.cells #[.string ⟨#[98]⟩, .string sTok, .string ⟨#[97]⟩, .string sTok] 56 (0, 0))) : Calls Tryz.prog 10 #[.agg #[.string sRoom, .string sType, .string sSender, .bool false, .string nix, .int .i64 5, .int .i64 0, .string nix, .slice none 0 0, .slice none 0 0, .slice none 0 0, .slice none 0 0, .int .i64 0, .int .i64 0, .string nix, .slice (some ⟨b, 0, none⟩) 2 2]] w fun x w' => x = .returned (.int .i64 50) ∧ Below w.heap.size w w' := by
  have h := eShape_any (O := fun q => q = b) sampleG ⟨none, 0, none, 0, none, 0, none, 0, some ⟨b, 0, none⟩, 2⟩ w (isE_G hb) (fun k hk => by subst hk; exact (Array.getElem?_eq_some_iff.mp hb).1) szE_G hT
  rw [shape_G] at h
  exact h
theorem sam_E {O : Nat → Prop} (w : World) (pk : Option Addr) (ck : Nat) (pl : Option Addr) (cl : Nat) (pp : Option Addr) (cp : Nat) (pa : Option Addr) (ca : Nat) (ps : Option Addr) (cs : Nat) (hI : IsE O w sampleE ⟨pk, ck, pl, cl, pp, cp, pa, ca, ps, cs⟩) (hO : ∀ k, O k → k < w.heap.size) : Calls Tryz.prog 19 #[.agg #[.string sRoom, .string sType, .string sSender, .bool false, .string nix, .int .i64 5, .int .i64 0, .string nix, .slice none 0 0, .slice none 0 0, .slice none 0 0, .slice none 0 0, .int .i64 0, .int .i64 0, .string nix, .slice none 0 0], .agg #[.string sRoom, .string sType, .string sSender, .bool false, .string nix, .int .i64 5, .int .i64 0, .string nix, .slice pk 0 ck, .slice pl 0 cl, .slice pp 0 cp, .slice pa 0 ca, .int .i64 0, .int .i64 0, .string nix, .slice ps 0 cs]] w fun x w' => x = .returned (.bool true) ∧ Below w.heap.size w w' :=
  same_eq0 sampleE Pt.zero ⟨pk, ck, pl, cl, pp, cp, pa, ca, ps, cs⟩ w (isE_bare _ _ _ _ _ _ _ _ _ _ _ _ _) hI hO szE_E (by kernel_rfl) rfl
section
variable {w : World} {ops : Array Oper} {rest : List Oper} {o : Oper} {a : Act} {Q : Exit → Act → World → Prop} {b : Nat} {t : TypeId} {u0 u1 u2 u3 u4 u5 u6 u7 u8 u9 u10 u11 u12 u13 u14 u15 : Value}
/-- A load of an event under a test that holds. -/
theorem wpList_load16g (hg : Region.wanted o (yielded ops a.tmps) = true) (m : Operand) (hop : o.op = Op.load 28 m) (hm : a.eval m = .pointer (some ⟨b, 0, none⟩)) (h : w.heap[b]? = some (.cells #[u0, u1, u2, u3, u4, u5, u6, u7, u8, u9, u10, u11, u12, u13, u14, u15] t (0, 0)))
    (hK : wpList Tryz.prog ops Q rest (a.put o.dst (.agg #[u0, u1, u2, u3, u4, u5, u6, u7, u8, u9, u10, u11, u12, u13, u14, u15])) w) : wpList Tryz.prog ops Q (o :: rest) a w := by
  have hl := loadAtE h
  simp only [wpList, hg, if_true]
  refine Or.inl ?_
  unfold Oper.wp
  simp [execOp, hop, hm, hl, Result.andThen]
  exact hK
end
end Go.Proofs.YtegcgbjjpgjnmaaGreatDoor
namespace Go.Proofs.YtegcgbjjpgjnmaaGreatDoor
open Go.RowKit Go.Maps
set_option maxRecDepth 100000 in
set_option maxHeartbeats 16000000 in
theorem awake_any (w : World) (hT : Tabs w) : Calls Tryz.prog 15 #[] w fun x w' => x = .returned (.bool true) ∧ Below w.heap.size w w' := by
  have hS := sample_any w
  have HT : Hid (Tabs w) := hT
  clear hT
  simp only [valE, cellsE, J.kind, J.int, J.text, J.keys, J.list, sampleE, Pt.zero, List.length_nil] at hS
  go_enter Tryz.func15, Tryz.ntmps15
  go_upto_region 2 with (go_at_call 26; refine hS.mono ?_; rintro x w1 ⟨rfl, hb1⟩)
  clear hS
  obtain ⟨W1, hW1⟩ : ∃ W1, W1 = w1.alloc (.cells #[.string sRoom, .string sType, .string sSender, .bool false, .string nix, .int .i64 5, .int .i64 0, .string nix, .slice none 0 0, .slice none 0 0, .slice none 0 0, .slice none 0 0, .int .i64 0, .int .i64 0, .string nix, .slice none 0 0] 28) := ⟨_, rfl⟩
  have e1 : W1.heap[w1.heap.size]? = some (.cells #[.string sRoom, .string sType, .string sSender, .bool false, .string nix, .int .i64 5, .int .i64 0, .string nix, .slice none 0 0, .slice none 0 0, .slice none 0 0, .slice none 0 0, .int .i64 0, .int .i64 0, .string nix, .slice none 0 0] 28 (0, 0)) := by rw [hW1]; exact heap_alloc_new _ _
  have g1 : Below w.heap.size w W1 := by rw [hW1]; exact hb1.alloc hb1.size _
  have s1 : w1.heap.size < W1.heap.size := by rw [hW1]; simp
  have s0 := hb1.size
  rw [← hW1]
  clear hW1 hb1
  go_upto_region 3 with (refine wpList_load16 rfl _ rfl rfl e1 ?_)
  obtain ⟨W2, hW2⟩ : ∃ W2, W2 = W1.alloc (.cells #[.string sRoom, .string sType, .string sSender, .bool false, .string nix, .int .i64 5, .int .i64 0, .string nix, .slice none 0 0, .slice none 0 0, .slice none 0 0, .slice none 0 0, .int .i64 0, .int .i64 0, .string nix, .slice none 0 0] 28) := ⟨_, rfl⟩
  have e2 : W2.heap[w1.heap.size]? = some (.cells #[.string sRoom, .string sType, .string sSender, .bool false, .string nix, .int .i64 5, .int .i64 0, .string nix, .slice none 0 0, .slice none 0 0, .slice none 0 0, .slice none 0 0, .int .i64 0, .int .i64 0, .string nix, .slice none 0 0] 28 (0, 0)) := by rw [hW2, Below.heap_alloc _ _ _ s1]; exact e1
  have f2 : W2.heap[W1.heap.size]? = some (.cells #[.string sRoom, .string sType, .string sSender, .bool false, .string nix, .int .i64 5, .int .i64 0, .string nix, .slice none 0 0, .slice none 0 0, .slice none 0 0, .slice none 0 0, .int .i64 0, .int .i64 0, .string nix, .slice none 0 0] 28 (0, 0)) := by rw [hW2]; exact heap_alloc_new _ _
  have g2 : Below w.heap.size w W2 := by rw [hW2]; exact g1.alloc g1.size _
  have s2 : W1.heap.size < W2.heap.size := by rw [hW2]; simp
  rw [← hW2]
  clear hW2 e1
  have q4 := six_c f2 4 _ rfl
  have z4 := six_fz f2 4
  go_upto_region 4 with fail
  clear q4 z4
  have K3 : Keep (One W1.heap.size) W2 (W2.setCell ⟨W1.heap.size, 4, none⟩ (.string ⟨#[107]⟩)) := Keep.setCell (Keep.refl _ _) (fun _ => (rfl : W1.heap.size = W1.heap.size)) _
  have f3 : (W2.setCell ⟨W1.heap.size, 4, none⟩ (.string ⟨#[107]⟩)).heap[W1.heap.size]? = some (.cells #[.string sRoom, .string sType, .string sSender, .bool false, .string ⟨#[107]⟩, .int .i64 5, .int .i64 0, .string nix, .slice none 0 0, .slice none 0 0, .slice none 0 0, .slice none 0 0, .int .i64 0, .int .i64 0, .string nix, .slice none 0 0] 28 (0, 0)) := by rw [heap_setCell_same _ W1.heap.size 4 _ _ _ f2]; rfl
  have e3 := (K3.block w1.heap.size (by omega) (by unfold One; omega)).trans e2
  obtain ⟨W3, hW3⟩ : ∃ W3, W3 = W2.setCell ⟨W1.heap.size, 4, none⟩ (.string ⟨#[107]⟩) := ⟨_, rfl⟩
  rw [← hW3] at K3 f3 e3 ⊢
  have s3 := K3.size
  have g3 : Below w.heap.size w W3 := g2.trans (K3.below (by omega) fun q hq => by unfold One; omega)
  clear hW3 f2 e2 K3
  go_upto_region 5 with (refine wpList_load16 rfl _ rfl rfl e3 ?_)
  obtain ⟨W4, hW4⟩ : ∃ W4, W4 = W3.alloc (.cells #[.string sRoom, .string sType, .string sSender, .bool false, .string nix, .int .i64 5, .int .i64 0, .string nix, .slice none 0 0, .slice none 0 0, .slice none 0 0, .slice none 0 0, .int .i64 0, .int .i64 0, .string nix, .slice none 0 0] 28) := ⟨_, rfl⟩
  have e4 : W4.heap[w1.heap.size]? = some (.cells #[.string sRoom, .string sType, .string sSender, .bool false, .string nix, .int .i64 5, .int .i64 0, .string nix, .slice none 0 0, .slice none 0 0, .slice none 0 0, .slice none 0 0, .int .i64 0, .int .i64 0, .string nix, .slice none 0 0] 28 (0, 0)) := by rw [hW4, Below.heap_alloc _ _ _ (by omega)]; exact e3
  have f4 : W4.heap[W1.heap.size]? = some (.cells #[.string sRoom, .string sType, .string sSender, .bool false, .string ⟨#[107]⟩, .int .i64 5, .int .i64 0, .string nix, .slice none 0 0, .slice none 0 0, .slice none 0 0, .slice none 0 0, .int .i64 0, .int .i64 0, .string nix, .slice none 0 0] 28 (0, 0)) := by rw [hW4, Below.heap_alloc _ _ _ (by omega)]; exact f3
  have k4 : W4.heap[W3.heap.size]? = some (.cells #[.string sRoom, .string sType, .string sSender, .bool false, .string nix, .int .i64 5, .int .i64 0, .string nix, .slice none 0 0, .slice none 0 0, .slice none 0 0, .slice none 0 0, .int .i64 0, .int .i64 0, .string nix, .slice none 0 0] 28 (0, 0)) := by rw [hW4]; exact heap_alloc_new _ _
  have g4 : Below w.heap.size w W4 := by rw [hW4]; exact g3.alloc g3.size _
  have s4 : W3.heap.size < W4.heap.size := by rw [hW4]; simp
  rw [← hW4]
  clear hW4 e3 f3
  have q5 := six_c k4 15 _ rfl
  have z5 := six_fz k4 15
  go_upto_region 6 with fail
  clear q5 z5
  have K5 : Keep (One W3.heap.size) W4 (W4.setCell ⟨W3.heap.size, 15, none⟩ (.slice (some ⟨W4.heap.size, 0, none⟩) 2 2)) := Keep.setCell (Keep.refl _ _) (fun _ => (rfl : W3.heap.size = W3.heap.size)) _
  have k5a : (W4.setCell ⟨W3.heap.size, 15, none⟩ (.slice (some ⟨W4.heap.size, 0, none⟩) 2 2)).heap[W3.heap.size]? = some (.cells #[.string sRoom, .string sType, .string sSender, .bool false, .string nix, .int .i64 5, .int .i64 0, .string nix, .slice none 0 0, .slice none 0 0, .slice none 0 0, .slice none 0 0, .int .i64 0, .int .i64 0, .string nix, .slice (some ⟨W4.heap.size, 0, none⟩) 2 2] 28 (0, 0)) := by rw [heap_setCell_same _ W3.heap.size 15 _ _ _ k4]; rfl
  have z5s : (W4.setCell ⟨W3.heap.size, 15, none⟩ (.slice (some ⟨W4.heap.size, 0, none⟩) 2 2)).heap.size = W4.heap.size := by simp
  obtain ⟨W5, hW5⟩ : ∃ W5, W5 = (W4.setCell ⟨W3.heap.size, 15, none⟩ (.slice (some ⟨W4.heap.size, 0, none⟩) 2 2)).alloc (.cells #[.string ⟨#[98]⟩, .string ⟨#[65, 65, 65, 65, 65, 65, 65, 65, 65, 65, 69]⟩, .string ⟨#[97]⟩, .string ⟨#[65, 65, 65, 65, 65, 65, 65, 65, 65, 65, 69]⟩] 56) := ⟨_, rfl⟩
  have low5 : ∀ q, q < W4.heap.size → q ≠ W3.heap.size → W5.heap[q]? = W4.heap[q]? := fun q hq hn => by rw [hW5, Below.heap_alloc _ _ _ (by omega)]; exact K5.block q hq hn
  have e5 := (low5 w1.heap.size (by omega) (by omega)).trans e4
  have f5 := (low5 W1.heap.size (by omega) (by omega)).trans f4
  have k5 : W5.heap[W3.heap.size]? = some (.cells #[.string sRoom, .string sType, .string sSender, .bool false, .string nix, .int .i64 5, .int .i64 0, .string nix, .slice none 0 0, .slice none 0 0, .slice none 0 0, .slice none 0 0, .int .i64 0, .int .i64 0, .string nix, .slice (some ⟨W4.heap.size, 0, none⟩) 2 2] 28 (0, 0)) := by rw [hW5, Below.heap_alloc _ _ _ (by omega)]; exact k5a
  have m5 : W5.heap[W4.heap.size]? = some (.cells #[.string ⟨#[98]⟩, .string ⟨#[65, 65, 65, 65, 65, 65, 65, 65, 65, 65, 69]⟩, .string ⟨#[97]⟩, .string ⟨#[65, 65, 65, 65, 65, 65, 65, 65, 65, 65, 69]⟩] 56 (0, 0)) := by
    have hh := heap_alloc_new (W4.setCell ⟨W3.heap.size, 15, none⟩ (.slice (some ⟨W4.heap.size, 0, none⟩) 2 2)) (.cells #[.string ⟨#[98]⟩, .string ⟨#[65, 65, 65, 65, 65, 65, 65, 65, 65, 65, 69]⟩, .string ⟨#[97]⟩, .string ⟨#[65, 65, 65, 65, 65, 65, 65, 65, 65, 65, 69]⟩] 56)
    rw [z5s] at hh
    rw [hW5]
    exact hh
  have s5 : W5.heap.size = W4.heap.size + 1 := by rw [hW5]; simp
  have g5 : Below w.heap.size w W5 := g4.trans ⟨by rw [hW5]; rfl, by rw [hW5]; rfl, by rw [hW5]; rfl, by omega, fun q hq => low5 q (by have := g4.size; omega) (by omega)⟩
  have S5 : Hid (W5.heap.size = W4.heap.size + 1) := s5
  have s5a : W4.heap.size < W5.heap.size := by omega
  rw [← hW5]
  clear hW5 k5a z5s K5 e4 f4 k4 low5 s5
  go_upto_region 7 with (refine wpList_load16 rfl _ rfl rfl e5 ?_)
  obtain ⟨W6, hW6⟩ : ∃ W6, W6 = W5.alloc (.cells #[.string sRoom, .string sType, .string sSender, .bool false, .string nix, .int .i64 5, .int .i64 0, .string nix, .slice none 0 0, .slice none 0 0, .slice none 0 0, .slice none 0 0, .int .i64 0, .int .i64 0, .string nix, .slice none 0 0] 28) := ⟨_, rfl⟩
  have e6 : W6.heap[w1.heap.size]? = some (.cells #[.string sRoom, .string sType, .string sSender, .bool false, .string nix, .int .i64 5, .int .i64 0, .string nix, .slice none 0 0, .slice none 0 0, .slice none 0 0, .slice none 0 0, .int .i64 0, .int .i64 0, .string nix, .slice none 0 0] 28 (0, 0)) := by rw [hW6, Below.heap_alloc _ _ _ (by omega)]; exact e5
  have f6 : W6.heap[W1.heap.size]? = some (.cells #[.string sRoom, .string sType, .string sSender, .bool false, .string ⟨#[107]⟩, .int .i64 5, .int .i64 0, .string nix, .slice none 0 0, .slice none 0 0, .slice none 0 0, .slice none 0 0, .int .i64 0, .int .i64 0, .string nix, .slice none 0 0] 28 (0, 0)) := by rw [hW6, Below.heap_alloc _ _ _ (by omega)]; exact f5
  have k6 : W6.heap[W3.heap.size]? = some (.cells #[.string sRoom, .string sType, .string sSender, .bool false, .string nix, .int .i64 5, .int .i64 0, .string nix, .slice none 0 0, .slice none 0 0, .slice none 0 0, .slice none 0 0, .int .i64 0, .int .i64 0, .string nix, .slice (some ⟨W4.heap.size, 0, none⟩) 2 2] 28 (0, 0)) := by rw [hW6, Below.heap_alloc _ _ _ (by omega)]; exact k5
  have m6 := (show W6.heap[W4.heap.size]? = W5.heap[W4.heap.size]? by rw [hW6, Below.heap_alloc _ _ _ (by omega)]).trans m5
  have h6 : W6.heap[W5.heap.size]? = some (.cells #[.string sRoom, .string sType, .string sSender, .bool false, .string nix, .int .i64 5, .int .i64 0, .string nix, .slice none 0 0, .slice none 0 0, .slice none 0 0, .slice none 0 0, .int .i64 0, .int .i64 0, .string nix, .slice none 0 0] 28 (0, 0)) := by rw [hW6]; exact heap_alloc_new _ _
  have g6 : Below w.heap.size w W6 := by rw [hW6]; exact g5.alloc g5.size _
  have s6 : W5.heap.size < W6.heap.size := by rw [hW6]; simp
  rw [← hW6]
  clear hW6 e5 f5 k5 m5
  have q7 := six_c h6 5 _ rfl
  have z7 := six_fz h6 5
  go_upto_region 8 with fail
  clear q7 z7
  have K7 : Keep (One W5.heap.size) W6 (W6.setCell ⟨W5.heap.size, 5, none⟩ (.int .i64 0)) := Keep.setCell (Keep.refl _ _) (fun _ => (rfl : W5.heap.size = W5.heap.size)) _
  have h7 : (W6.setCell ⟨W5.heap.size, 5, none⟩ (.int .i64 0)).heap[W5.heap.size]? = some (.cells #[.string sRoom, .string sType, .string sSender, .bool false, .string nix, .int .i64 0, .int .i64 0, .string nix, .slice none 0 0, .slice none 0 0, .slice none 0 0, .slice none 0 0, .int .i64 0, .int .i64 0, .string nix, .slice none 0 0] 28 (0, 0)) := by rw [heap_setCell_same _ W5.heap.size 5 _ _ _ h6]; rfl
  obtain ⟨W7, hW7⟩ : ∃ W7, W7 = W6.setCell ⟨W5.heap.size, 5, none⟩ (.int .i64 0) := ⟨_, rfl⟩
  rw [← hW7] at K7 h7 ⊢
  have e7 := (K7.block w1.heap.size (by omega) (by unfold One; omega)).trans e6
  have f7 := (K7.block W1.heap.size (by omega) (by unfold One; omega)).trans f6
  have k7 := (K7.block W3.heap.size (by omega) (by unfold One; omega)).trans k6
  have m7 := (K7.block W4.heap.size (by omega) (by unfold One; omega)).trans m6
  have s7 := K7.size
  have g7 : Below w.heap.size w W7 := g6.trans (K7.below (by omega) fun q hq => by unfold One; have := g5.size; omega)
  clear hW7 e6 f6 k6 m6 h6 K7
  have G7 : Hid (Below w.heap.size w W7) := g7
  have T7 : Hid (Tabs W7) := HT.out.below g7
  clear g1 g2 g3 g4 g5 g6 g7
  go_upto_region 9 with (first
    | (go_at_call 20; refine (enc_E W7 T7.out).mono ?_; rintro x w8 ⟨⟨p8, n8, c8, rfl, hr8⟩, hb8⟩)
    | (refine wpList_load16 rfl _ rfl rfl e7 ?_))
  have S8 := hb8.size
  have e8 := (hb8.block w1.heap.size (by omega)).trans e7
  have f8 := (hb8.block W1.heap.size (by omega)).trans f7
  have k8 := (hb8.block W3.heap.size (by omega)).trans k7
  have m8 := (hb8.block W4.heap.size (by omega)).trans m7
  have h8 := (hb8.block W5.heap.size (by omega)).trans h7
  have G8 : Hid (Below w.heap.size w w8) := below_in G7.out hb8
  have T8 : Hid (Tabs w8) := HT.out.below G8.out
  clear e7 f7 k7 m7 h7 hb8 T7 G7
  go_upto_region 10 with (go_at_call 21; refine (dec_E w8 p8 n8 c8 hr8 T8.out).mono ?_; rintro x w9 ⟨⟨pk, ck, pl, cl, pp, cp, pa, ca, ps, cs, rfl, hI9⟩, hb9⟩)
  have S9 := hb9.size
  obtain ⟨W10, hW10⟩ : ∃ W10, W10 = w9.alloc (.cells #[.string sRoom, .string sType, .string sSender, .bool false, .string nix, .int .i64 5, .int .i64 0, .string nix, .slice pk 0 ck, .slice pl 0 cl, .slice pp 0 cp, .slice pa 0 ca, .int .i64 0, .int .i64 0, .string nix, .slice ps 0 cs] 28) := ⟨_, rfl⟩
  have low10 : ∀ q, q < w8.heap.size → W10.heap[q]? = w8.heap[q]? := fun q hq => by rw [hW10, Below.heap_alloc _ _ _ (by omega)]; exact hb9.block q hq
  have e10 := (low10 w1.heap.size (by omega)).trans e8
  have f10 := (low10 W1.heap.size (by omega)).trans f8
  have k10 := (low10 W3.heap.size (by omega)).trans k8
  have m10 := (low10 W4.heap.size (by omega)).trans m8
  have h10 := (low10 W5.heap.size (by omega)).trans h8
  have d10 : W10.heap[w9.heap.size]? = some (.cells #[.string sRoom, .string sType, .string sSender, .bool false, .string nix, .int .i64 5, .int .i64 0, .string nix, .slice pk 0 ck, .slice pl 0 cl, .slice pp 0 cp, .slice pa 0 ca, .int .i64 0, .int .i64 0, .string nix, .slice ps 0 cs] 28 (0, 0)) := by rw [hW10]; exact heap_alloc_new _ _
  have s10 : w9.heap.size < W10.heap.size := by rw [hW10]; simp
  have b10 : Below w9.heap.size w9 W10 := by rw [hW10]; exact (Below.refl _ _).alloc (Nat.le_refl _) _
  have HI : Hid (IsE (New w8 w9) W10 sampleE ⟨pk, ck, pl, cl, pp, cp, pa, ca, ps, cs⟩) := hI9.below (fun k hk => hk.2) b10
  have G10 : Hid (Below w.heap.size w W10) := below_in (below_in G8.out hb9) b10
  have T10 : Hid (Tabs W10) := HT.out.below G10.out
  rw [← hW10]
  clear hW10 e8 f8 k8 m8 h8 hb9 hI9 b10 low10 hr8 T8 G8
  have S5o := S5.out
  have L1 : Hid (w1.heap.size < W10.heap.size) := (by omega : _ < _)
  have L2 : Hid (W1.heap.size < W10.heap.size) := (by omega : _ < _)
  have L3 : Hid (W3.heap.size < W10.heap.size) := (by omega : _ < _)
  have L4 : Hid (W4.heap.size < W10.heap.size) := (by omega : _ < _)
  have L5 : Hid (W5.heap.size < W10.heap.size) := (by omega : _ < _)
  have L9 : Hid (w9.heap.size < W10.heap.size) := s10
  clear S5o s1 s2 s3 s4 s6 s7 S8 S9 s10
  go_wp2_with (first
    | (go_at_call 19; refine (sam_E w14 pk ck pl cl pp cp pa ca ps cs (HI.out.below (fun k hk => Nat.lt_trans hk.2 L9.out) B14.out) (fun k hk => Nat.lt_of_lt_of_le (Nat.lt_trans hk.2 L9.out) B14.out.size)).mono ?_; rintro x w15 ⟨rfl, hb15⟩)
    | (go_at_call 10; have _x := h13; refine (shp_H w13 (T10.out.below B13.out)).mono ?_; rintro x w14 ⟨rfl, hb14⟩
       have B14 : Hid (Below W10.heap.size W10 w14) := below_in B13.out hb14
       have e14 := (B14.out.block w1.heap.size L1.out).trans E10.out
       have d14 := (B14.out.block w9.heap.size L9.out).trans D10.out
       clear h13 hb14 _x)
    | (go_at_call 10; have _x := k12; refine (shp_G w12 W4.heap.size (T10.out.below B12.out) ((B12.out.block W4.heap.size L4.out).trans M10.out)).mono ?_; rintro x w13 ⟨rfl, hb13⟩
       have B13 : Hid (Below W10.heap.size W10 w13) := below_in B12.out hb13
       have h13 := (B13.out.block W5.heap.size L5.out).trans H10.out
       clear k12 hb13 _x)
    | (go_at_call 10; have _x := f11; refine (shp_F w11 (T10.out.below B11.out)).mono ?_; rintro x w12 ⟨rfl, hb12⟩
       have B12 : Hid (Below W10.heap.size W10 w12) := below_in B11.out hb12
       have k12 := (B12.out.block W3.heap.size L3.out).trans K10.out
       clear f11 hb12 _x)
    | (go_at_call 10; refine (shp_E W10 T10.out).mono ?_; rintro x w11 ⟨rfl, hb11⟩
       have B11 : Hid (Below W10.heap.size W10 w11) := hb11
       have f11 := (hb11.block W1.heap.size L2.out).trans f10
       have K10 : Hid _ := k10
       have M10 : Hid _ := m10
       have H10 : Hid _ := h10
       have D10 : Hid _ := d10
       have E10 : Hid _ := e10
       clear e10 f10 k10 m10 h10 d10 hb11)
    | (refine wpList_load16 rfl _ rfl rfl e10 ?_)
    | (refine wpList_load16g (by rfl) _ rfl rfl f11 ?_)
    | (refine wpList_load16g (by rfl) _ rfl rfl k12 ?_)
    | (refine wpList_load16g (by rfl) _ rfl rfl h13 ?_)
    | (refine wpList_load16g (by rfl) _ rfl rfl e14 ?_)
    | (refine wpList_load16g (by rfl) _ rfl rfl d14 ?_))
  go_ret
  exact ⟨rfl, below_in G10.out (below_in B14.out hb15)⟩
end Go.Proofs.YtegcgbjjpgjnmaaGreatDoor
namespace Go.Proofs.YtegcgbjjpgjnmaaGreatDoor
open Go.RowKit Go.Maps
/-- A row of names that grows in a field of the event at g. -/
structure LimR (cs : Value → List Value) (B g : Nat) (WB : World) (j : Nat) (v : Value) (w : World) : Prop where
  obj : w.heap[g]? = some (.cells (cs v).toArray 28 (0, 0))
  row : w.ownsRow B 9 1 v j ((namesB j).map Value.string)
  keep : Keep (One g) WB w
  low : g < B
  eqB : WB.heap.size = B
theorem LimR.more {cs : Value → List Value} {B g : Nat} {WB w w' : World} {j : Nat} {v : Value} (h : LimR cs B g WB j v w) (hb : Below w.heap.size w w') : LimR cs B g WB j v w' := by
  have hk : Keep (One g) w w' := Keep.of_below hb
  have hs := h.keep.size
  have he := h.eqB
  have hl := h.low
  exact ⟨(hb.block g (by omega)).trans h.obj, own_keep h.row (Keep.of_below (S := fun _ => False) hb) (fun _ _ h => h), h.keep.then hk, h.low, h.eqB⟩
theorem LimR.drew {cs : Value → List Value} {B g : Nat} {WB w : World} {j : Nat} {v : Value} (h : LimR cs B g WB j v w) : LimR cs B g WB j v w.drew := ⟨h.obj, h.row, h.keep.drew, h.low, h.eqB⟩
theorem LimR.size {cs : Value → List Value} {B g : Nat} {WB w : World} {j : Nat} {v : Value} (h : LimR cs B g WB j v w) : B ≤ w.heap.size := by
  have := h.keep.size
  have := h.eqB
  omega
theorem LimR.alloc {cs : Value → List Value} {B g : Nat} {WB w : World} {j : Nat} {v : Value} (h : LimR cs B g WB j v w) (o : Obj) : LimR cs B g WB j v (w.alloc o) :=
  ⟨(Below.heap_alloc _ _ _ (by have := h.size; have := h.low; omega)).trans h.obj, h.row.alloc _, h.keep.alloc _, h.low, h.eqB⟩
theorem LimR.push {cs : Value → List Value} {B g : Nat} {WB w W : World} {j f : Nat} {v v' : Value} (h : LimR cs B g WB j v w) (hget : (cs v)[f]? = some v) (hset : (cs v).toArray.setIfInBounds f v' = (cs v').toArray) (hown : W.ownsRow B 9 1 v' (j + 1) ((namesB j).map Value.string ++ [.string (nameB j)])) (hg : w.grownBy W v.ownBlock) :
    W.cell? ⟨g, f, none⟩ = some v ∧ W.frozen? ⟨g, f, none⟩ = false ∧ LimR cs B g WB (j + 1) v' (W.setCell ⟨g, f, none⟩ v') := by
  have hgv := own_ge h.row
  have hlow := h.low
  have hsz := h.size
  have ob : W.heap[g]? = some (.cells (cs v).toArray 28 (0, 0)) := (hg.block g (by omega) fun e => by have := (hgv g e.symm).1; omega).trans h.obj
  have K3 : Keep (One g) W (W.setCell ⟨g, f, none⟩ v') := Keep.setCell (Keep.refl _ _) (fun _ => (rfl : g = g)) _
  have kg : Keep (One g) WB W := h.keep.grown hg fun k e => by have := (hgv k e).1; have := h.eqB; omega
  refine ⟨cell_row ob f v hget, frozen_of_row _ _ _ _ _ ob, ⟨?_, ?_, kg.then K3, hlow, h.eqB⟩⟩
  · rw [heap_setCell_same _ g f _ _ _ ob, hset]
  · rw [namesB_succ, List.map_append]
    exact own_keep hown K3 fun q e => by have := (own_ge hown q e).1; unfold One; omega
theorem LimR.start {cs : Value → List Value} {g : Nat} {WB : World} (h : WB.heap[g]? = some (.cells (cs (.slice none 0 0)).toArray 28 (0, 0))) (hg : g < WB.heap.size) : LimR cs WB.heap.size g WB 0 (.slice none 0 0) WB := ⟨h, World.ownsRow_nil _ _ _ _, Keep.refl _ _, hg, rfl⟩
theorem name_below (k : Nat) (hk : k < 32) (w : World) : Calls Tryz.prog 27 #[.int .i64 k] w fun x w' => x = .returned (.string (nameB k)) ∧ Below w.heap.size w w' := (name_any k hk w).mono (by rintro x w' ⟨h, n, rfl⟩; exact ⟨h, Id.below_drewN w n⟩)
theorem tmod_b (n : Int) (d : Int) (hd : 0 < d) : -d < n.tmod d ∧ n.tmod d < d := ⟨Int.lt_tmod_of_pos n hd, Int.tmod_lt_of_pos n hd⟩
/-- A row of names at its end, as it is read. -/
theorem LimR.read {cs : Value → List Value} {B g : Nat} {WB w : World} {j : Nat} {v : Value} (h : LimR cs B g WB j v w) : ∃ q c, v = .slice q j c ∧ RdK (fun k => B ≤ k ∧ k < w.heap.size) w q c (namesB j) := by
  have hr := h.row
  have e := own_rdK (S := namesB j) (by rw [namesB_length]; exact hr)
  rw [namesB_length] at e
  exact e
theorem shp_lim {O : Nat → Prop} (n m k : Nat) (hn : n < 25) (hm : m < 15) (hk : k < 140) (w : World) (pp : Option Addr) (cp : Nat) (pa : Option Addr) (ca : Nat) (h1 : RdK O w pp cp (namesB n)) (h2 : RdK O w pa ca (namesB m)) (hO : ∀ x, O x → x < w.heap.size) (hT : Tabs w) :
    Calls Tryz.prog 10 #[.agg #[.string sRoom, .string sType, .string sSender, .bool true, .string (keyB k), .int .i64 5, .int .i64 0, .string nix, .slice none 0 0, .slice none 0 0, .slice pp n cp, .slice pa m ca, .int .i64 0, .int .i64 0, .string nix, .slice none 0 0]] w fun x w' => x = .returned (.int .i64 (if n ≤ 20 ∧ m ≤ 10 ∧ k ≤ 128 then 0 else 50)) ∧ Below w.heap.size w w' := by
  have h := eShape_any (O := O) (limE n m k) ⟨none, 0, none, 0, pp, cp, pa, ca, none, 0⟩ w ⟨isJ_bare _ _ _ _ _, h1, h2, RdS.nil _ _ _ _⟩ hO (lim_sz hn hm hk) hT
  rw [lim_shape hn hm hk] at h
  simp only [valE, cellsE, J.kind, J.int, J.text, J.keys, J.list, limE, List.length_nil, namesB_length] at h
  exact h
set_option maxRecDepth 100000 in
set_option maxHeartbeats 16000000 in
theorem limits_any (n m k : Int) (w : World) (hT : Tabs w) : Calls Tryz.prog 8 #[.int .i64 n, .int .i64 m, .int .i64 k] w fun x w' => x = .returned (.bool true) ∧ Below w.heap.size w w' := by
  have hS := sample_any w
  have HT : Hid (Tabs w) := hT
  clear hT
  simp only [valE, cellsE, J.kind, J.int, J.text, J.keys, J.list, sampleE, Pt.zero, List.length_nil] at hS
  obtain ⟨n1, n2⟩ := tmod_b n 25 (by decide)
  obtain ⟨m1, m2⟩ := tmod_b m 15 (by decide)
  obtain ⟨k1, k2⟩ := tmod_b k 140 (by decide)
  obtain ⟨N, hN, hN25⟩ : ∃ N : Nat, (n.tmod 25 + 25) % 25 = (N : Int) ∧ N < 25 := ⟨((n.tmod 25 + 25) % 25).toNat, by omega, by omega⟩
  obtain ⟨M, hM, hM15⟩ : ∃ N : Nat, (m.tmod 15 + 15) % 15 = (N : Int) ∧ N < 15 := ⟨((m.tmod 15 + 15) % 15).toNat, by omega, by omega⟩
  obtain ⟨K0, hK, hK140⟩ : ∃ N : Nat, (k.tmod 140 + 140) % 140 = (N : Int) ∧ N < 140 := ⟨((k.tmod 140 + 140) % 140).toNat, by omega, by omega⟩
  go_enter Tryz.func8, Tryz.ntmps8
  go_upto_region 5 with (go_at_call 26; refine hS.mono ?_; rintro x w1 ⟨rfl, hb1⟩)
  clear hS hN hM hK n1 n2 m1 m2 k1 k2
  obtain ⟨W1, hW1⟩ : ∃ W1, W1 = w1.alloc (.cells #[.string sRoom, .string sType, .string sSender, .bool false, .string nix, .int .i64 5, .int .i64 0, .string nix, .slice none 0 0, .slice none 0 0, .slice none 0 0, .slice none 0 0, .int .i64 0, .int .i64 0, .string nix, .slice none 0 0] 28) := ⟨_, rfl⟩
  have e1 : W1.heap[w1.heap.size]? = some (.cells #[.string sRoom, .string sType, .string sSender, .bool false, .string nix, .int .i64 5, .int .i64 0, .string nix, .slice none 0 0, .slice none 0 0, .slice none 0 0, .slice none 0 0, .int .i64 0, .int .i64 0, .string nix, .slice none 0 0] 28 (0, 0)) := by rw [hW1]; exact heap_alloc_new _ _
  have g1 : Below w.heap.size w W1 := by rw [hW1]; exact hb1.alloc hb1.size _
  have s1 : w1.heap.size < W1.heap.size := by rw [hW1]; simp
  have s0 := hb1.size
  rw [← hW1]
  clear hW1 hb1
  obtain ⟨g, hg⟩ : ∃ g, w1.heap.size = g := ⟨_, rfl⟩
  rw [hg] at e1 s1 s0 ⊢
  clear hg
  have r0 : LimR (fun v => [.string sRoom, .string sType, .string sSender, .bool false, .string nix, .int .i64 5, .int .i64 0, .string nix, .slice none 0 0, .slice none 0 0, v, .slice none 0 0, .int .i64 0, .int .i64 0, .string nix, .slice none 0 0]) W1.heap.size g W1 0 (.slice none 0 0) W1 := LimR.start e1 s1
  have G1 : Hid (Below w.heap.size w W1) := g1
  clear e1 g1
  go_wp2
  go_loopw [8] (fun v wr => ∃ (j : Nat) (vp : Value), v = .int .i64 j ∧ j ≤ N ∧ LimR (fun v => [.string sRoom, .string sType, .string sSender, .bool false, .string nix, .int .i64 5, .int .i64 0, .string nix, .slice none 0 0, .slice none 0 0, v, .slice none 0 0, .int .i64 0, .int .i64 0, .string nix, .slice none 0 0]) W1.heap.size g W1 j vp wr) (fun v _ => N - (intOf v).toNat)
  case atStart => exact ⟨0, _, rfl, Nat.zero_le _, r0⟩
  case round =>
    clear r0
    obtain ⟨j, vp, rfl, hj, hr⟩ := hrel
    obtain ⟨qp, cp, hvp, hrp⟩ := hr.read
    subst hvp
    by_cases hlt : j < N
    · clear hrp
      have hji : (j : Int) < (N : Int) := by omega
      have hd := hr.drew
      have hNm := name_below j (by omega) wr.drew
      go_wp2
      have c0 := six_c hd.obj 10 _ rfl
      refine wp_region_in (by kernel_rfl) (fun _ => True) ?_
      change wpIn _ _ _ _ _ _ _ _ (World.drew _)
      refine wpIn_take (i := 0) (d := (some 30)) (v := ?vq1) (a' := ?aq1) rfl rfl (by kernel_rfl) (by kernel_rfl) (by kernel_rfl) (fun _ _ _ h => h) (Or.inl ⟨by rfl, ?yq1⟩) ?fq1 ?_
      case yq1 => (intro wq hq; go_simp; first | done | with_reducible rfl)
      case fq1 => (go_frame; rfl)
      refine wpIn_take (i := 2) (d := (some 32)) (v := ?vq2) (a' := ?aq2) rfl rfl (by kernel_rfl) (by kernel_rfl) (by kernel_rfl) (fun _ _ _ h => h) (Or.inl ⟨by rfl, ?yq2⟩) ?fq2 ?_
      case yq2 => (intro wq hq; go_simp; first | done | with_reducible rfl)
      case fq2 => (go_frame; rfl)
      refine wpIn_pair (i := 1) (j := 3) trivial (by kernel_rfl) rfl rfl (by rfl) (by rfl) ?_ ?_
      · intro K hK
        go_simp
        refine hK _ _ ?_
        clear hK K
        refine wpIn_do (i := 3) trivial (by kernel_rfl) rfl (by rfl) ?_
        intro K hK
        go_simp
        go_wp2_with (go_at_call 27; refine hNm.mono ?_; rintro x w3 ⟨rfl, hb3⟩)
        have h3 := hd.more hb3
        have hA := h3.alloc (.cells #[.string (nameB j)] 9)
        have c1 := six_c h3.obj 10 _ rfl
        have c2 := six_c hA.obj 10 _ rfl
        refine wpIn_do (i := 4) trivial (by kernel_rfl) rfl (by rfl) ?_
        intro K hK
        go_simp
        refine hK _ _ ?_
        clear hK K
        refine wpIn_do (i := 5) trivial (by kernel_rfl) rfl (by rfl) ?_
        intro K hK
        refine wp_append_at (.tmp 31) (.tmp 34) 22 rfl W1.heap.size 9 (.string ⟨#[]⟩) 1 16 Tryz.underlying22 Tryz.info9 rfl (by decide) (by decide) _ j _ rfl hA.row _ [.string (nameB j)] rfl rfl (cell_one_new _ _ _) (str_one _) (by omega) hA.size ?_
        intro v2 W4 hown4 hg4 _
        refine hK _ _ ?_
        clear hK K
        obtain ⟨b4, c4, hv4⟩ := own_some hown4
        subst hv4
        obtain ⟨g0, g1, hr5⟩ := hA.push (f := 10) rfl rfl hown4 hg4
        clear hown4 hg4
        refine wpIn_take (i := 6) (d := (some 36)) (v := ?vq3) (a' := ?aq3) rfl rfl (by kernel_rfl) (by kernel_rfl) (by kernel_rfl) (fun _ _ _ h => h) (Or.inl ⟨by rfl, ?yq3⟩) ?fq3 ?_
        case yq3 => (intro wq hq; go_simp; first | done | with_reducible rfl)
        case fq3 => (go_frame; rfl)
        refine wpIn_do (i := 7) trivial (by kernel_rfl) rfl (by rfl) ?_
        intro K hK
        go_simp
        refine hK _ _ ?_
        clear hK K
        refine wpIn_done trivial (by kernel_rfl) ?_ _
        clear g0 g1 c0 c1 c2
        go_wp2
        go_roundw
        case rel => exact ⟨j + 1, _, by go_num, by omega, hr5⟩
        case measure => simp [intOf]; omega
      · intro K hK
        go_simp
        go_wp2_with (go_at_call 27; refine hNm.mono ?_; rintro x w3 ⟨rfl, hb3⟩)
        have h3 := hd.more hb3
        have hA := h3.alloc (.cells #[.string (nameB j)] 9)
        have c1 := six_c h3.obj 10 _ rfl
        have c2 := six_c hA.obj 10 _ rfl
        refine wpIn_pair (i := 1) (j := 4) trivial (by kernel_rfl) rfl rfl (by rfl) (by rfl) ?_ ?_
        · intro K hK
          go_simp
          refine hK _ _ ?_
          clear hK K
          refine wpIn_do (i := 4) trivial (by kernel_rfl) rfl (by rfl) ?_
          intro K hK
          go_simp
          refine hK _ _ ?_
          clear hK K
          refine wpIn_do (i := 5) trivial (by kernel_rfl) rfl (by rfl) ?_
          intro K hK
          refine wp_append_at (.tmp 31) (.tmp 34) 22 rfl W1.heap.size 9 (.string ⟨#[]⟩) 1 16 Tryz.underlying22 Tryz.info9 rfl (by decide) (by decide) _ j _ rfl hA.row _ [.string (nameB j)] rfl rfl (cell_one_new _ _ _) (str_one _) (by omega) hA.size ?_
          intro v2 W4 hown4 hg4 _
          refine hK _ _ ?_
          clear hK K
          obtain ⟨b4, c4, hv4⟩ := own_some hown4
          subst hv4
          obtain ⟨g0, g1, hr5⟩ := hA.push (f := 10) rfl rfl hown4 hg4
          clear hown4 hg4
          refine wpIn_take (i := 6) (d := (some 36)) (v := ?vq4) (a' := ?aq4) rfl rfl (by kernel_rfl) (by kernel_rfl) (by kernel_rfl) (fun _ _ _ h => h) (Or.inl ⟨by rfl, ?yq4⟩) ?fq4 ?_
          case yq4 => (intro wq hq; go_simp; first | done | with_reducible rfl)
          case fq4 => (go_frame; rfl)
          refine wpIn_do (i := 7) trivial (by kernel_rfl) rfl (by rfl) ?_
          intro K hK
          go_simp
          refine hK _ _ ?_
          clear hK K
          refine wpIn_done trivial (by kernel_rfl) ?_ _
          clear g0 g1 c0 c1 c2
          go_wp2
          go_roundw
          case rel => exact ⟨j + 1, _, by go_num, by omega, hr5⟩
          case measure => simp [intOf]; omega
        · intro K hK
          go_simp
          refine hK _ _ ?_
          clear hK K
          refine wpIn_do (i := 1) trivial (by kernel_rfl) rfl (by rfl) ?_
          intro K hK
          go_simp
          refine hK _ _ ?_
          clear hK K
          refine wpIn_do (i := 5) trivial (by kernel_rfl) rfl (by rfl) ?_
          intro K hK
          refine wp_append_at (.tmp 31) (.tmp 34) 22 rfl W1.heap.size 9 (.string ⟨#[]⟩) 1 16 Tryz.underlying22 Tryz.info9 rfl (by decide) (by decide) _ j _ rfl hA.row _ [.string (nameB j)] rfl rfl (cell_one_new _ _ _) (str_one _) (by omega) hA.size ?_
          intro v2 W4 hown4 hg4 _
          refine hK _ _ ?_
          clear hK K
          obtain ⟨b4, c4, hv4⟩ := own_some hown4
          subst hv4
          obtain ⟨g0, g1, hr5⟩ := hA.push (f := 10) rfl rfl hown4 hg4
          clear hown4 hg4
          refine wpIn_take (i := 6) (d := (some 36)) (v := ?vq5) (a' := ?aq5) rfl rfl (by kernel_rfl) (by kernel_rfl) (by kernel_rfl) (fun _ _ _ h => h) (Or.inl ⟨by rfl, ?yq5⟩) ?fq5 ?_
          case yq5 => (intro wq hq; go_simp; first | done | with_reducible rfl)
          case fq5 => (go_frame; rfl)
          refine wpIn_do (i := 7) trivial (by kernel_rfl) rfl (by rfl) ?_
          intro K hK
          go_simp
          refine hK _ _ ?_
          clear hK K
          refine wpIn_done trivial (by kernel_rfl) ?_ _
          clear g0 g1 c0 c1 c2
          go_wp2
          go_roundw
          case rel => exact ⟨j + 1, _, by go_num, by omega, hr5⟩
          case measure => simp [intOf]; omega
    · obtain rfl : j = N := by omega
      obtain ⟨W2, rfl⟩ : ∃ W2, W2 = wr := ⟨_, rfl⟩
      have sR := hr.keep.size
      have s12 : W1.heap.size ≤ W2.heap.size := sR
      have G2 : Hid (Below w.heap.size w W2) := G1.out.trans (hr.keep.below (by omega) fun q hq => by unfold One; omega)
      have r0 : LimR (fun v => [.string sRoom, .string sType, .string sSender, .bool false, .string nix, .int .i64 5, .int .i64 0, .string nix, .slice none 0 0, .slice none 0 0, .slice qp j cp, v, .int .i64 0, .int .i64 0, .string nix, .slice none 0 0]) W2.heap.size g W2 0 (.slice none 0 0) W2 := LimR.start hr.obj (by omega)
      have s2 : g < W2.heap.size := by omega
      have HP : Hid (RdK (fun k => k < W2.heap.size) W2 qp cp (namesB j)) := hrp.carry fun k hk => ⟨hk.2, rfl⟩
      have L2 : Hid (∀ k, k < W2.heap.size → k < W2.heap.size) := fun _ h => h
      have HNg : Hid (∀ k, W1.heap.size ≤ k → k ≠ g) := fun k hk e => by omega
      have HQ : Hid (RdK (fun k => W1.heap.size ≤ k ∧ k < W2.heap.size) W2 qp cp (namesB j)) := hrp
      clear hr hrp sR hlt HP L2
      go_wp2
      go_loopw [9] (fun v wr => ∃ (i : Nat) (va : Value), v = .int .i64 i ∧ i ≤ M ∧ LimR (fun v => [.string sRoom, .string sType, .string sSender, .bool false, .string nix, .int .i64 5, .int .i64 0, .string nix, .slice none 0 0, .slice none 0 0, .slice qp j cp, v, .int .i64 0, .int .i64 0, .string nix, .slice none 0 0]) W2.heap.size g W2 i va wr) (fun v _ => M - (intOf v).toNat)
      case atStart => exact ⟨0, _, rfl, Nat.zero_le _, r0⟩
      case round =>
        clear r0
        obtain ⟨i, va, rfl, hi, hr⟩ := hrel
        obtain ⟨qa, ca, hva, hra⟩ := hr.read
        subst hva
        by_cases hlt : i < M
        · clear hra
          have hji : (i : Int) < (M : Int) := by omega
          have hd := hr.drew
          have hNm := name_below i (by omega) wr.drew
          go_wp2
          have c0 := six_c hd.obj 11 _ rfl
          refine wp_region_in (by kernel_rfl) (fun _ => True) ?_
          change wpIn _ _ _ _ _ _ _ _ (World.drew _)
          refine wpIn_take (i := 0) (d := (some 42)) (v := ?vq6) (a' := ?aq6) rfl rfl (by kernel_rfl) (by kernel_rfl) (by kernel_rfl) (fun _ _ _ h => h) (Or.inl ⟨by rfl, ?yq6⟩) ?fq6 ?_
          case yq6 => (intro wq hq; go_simp; first | done | with_reducible rfl)
          case fq6 => (go_frame; rfl)
          refine wpIn_take (i := 2) (d := (some 44)) (v := ?vq7) (a' := ?aq7) rfl rfl (by kernel_rfl) (by kernel_rfl) (by kernel_rfl) (fun _ _ _ h => h) (Or.inl ⟨by rfl, ?yq7⟩) ?fq7 ?_
          case yq7 => (intro wq hq; go_simp; first | done | with_reducible rfl)
          case fq7 => (go_frame; rfl)
          refine wpIn_pair (i := 1) (j := 3) trivial (by kernel_rfl) rfl rfl (by rfl) (by rfl) ?_ ?_
          · intro K hK
            go_simp
            refine hK _ _ ?_
            clear hK K
            refine wpIn_do (i := 3) trivial (by kernel_rfl) rfl (by rfl) ?_
            intro K hK
            go_simp
            go_wp2_with (go_at_call 27; refine hNm.mono ?_; rintro x w3 ⟨rfl, hb3⟩)
            have h3 := hd.more hb3
            have hA := h3.alloc (.cells #[.string (nameB i)] 9)
            have c1 := six_c h3.obj 11 _ rfl
            have c2 := six_c hA.obj 11 _ rfl
            refine wpIn_do (i := 4) trivial (by kernel_rfl) rfl (by rfl) ?_
            intro K hK
            go_simp
            refine hK _ _ ?_
            clear hK K
            refine wpIn_do (i := 5) trivial (by kernel_rfl) rfl (by rfl) ?_
            intro K hK
            refine wp_append_at (.tmp 43) (.tmp 46) 22 rfl W2.heap.size 9 (.string ⟨#[]⟩) 1 16 Tryz.underlying22 Tryz.info9 rfl (by decide) (by decide) _ i _ rfl hA.row _ [.string (nameB i)] rfl rfl (cell_one_new _ _ _) (str_one _) (by omega) hA.size ?_
            intro v2 W4 hown4 hg4 _
            refine hK _ _ ?_
            clear hK K
            obtain ⟨b4, c4, hv4⟩ := own_some hown4
            subst hv4
            obtain ⟨g0, g1, hr5⟩ := hA.push (f := 11) rfl rfl hown4 hg4
            clear hown4 hg4
            refine wpIn_take (i := 6) (d := (some 48)) (v := ?vq8) (a' := ?aq8) rfl rfl (by kernel_rfl) (by kernel_rfl) (by kernel_rfl) (fun _ _ _ h => h) (Or.inl ⟨by rfl, ?yq8⟩) ?fq8 ?_
            case yq8 => (intro wq hq; go_simp; first | done | with_reducible rfl)
            case fq8 => (go_frame; rfl)
            refine wpIn_do (i := 7) trivial (by kernel_rfl) rfl (by rfl) ?_
            intro K hK
            go_simp
            refine hK _ _ ?_
            clear hK K
            refine wpIn_done trivial (by kernel_rfl) ?_ _
            clear g0 g1 c0 c1 c2
            go_wp2
            go_roundw
            case rel => exact ⟨i + 1, _, by go_num, by omega, hr5⟩
            case measure => simp [intOf]; omega
          · intro K hK
            go_simp
            go_wp2_with (go_at_call 27; refine hNm.mono ?_; rintro x w3 ⟨rfl, hb3⟩)
            have h3 := hd.more hb3
            have hA := h3.alloc (.cells #[.string (nameB i)] 9)
            have c1 := six_c h3.obj 11 _ rfl
            have c2 := six_c hA.obj 11 _ rfl
            refine wpIn_pair (i := 1) (j := 4) trivial (by kernel_rfl) rfl rfl (by rfl) (by rfl) ?_ ?_
            · intro K hK
              go_simp
              refine hK _ _ ?_
              clear hK K
              refine wpIn_do (i := 4) trivial (by kernel_rfl) rfl (by rfl) ?_
              intro K hK
              go_simp
              refine hK _ _ ?_
              clear hK K
              refine wpIn_do (i := 5) trivial (by kernel_rfl) rfl (by rfl) ?_
              intro K hK
              refine wp_append_at (.tmp 43) (.tmp 46) 22 rfl W2.heap.size 9 (.string ⟨#[]⟩) 1 16 Tryz.underlying22 Tryz.info9 rfl (by decide) (by decide) _ i _ rfl hA.row _ [.string (nameB i)] rfl rfl (cell_one_new _ _ _) (str_one _) (by omega) hA.size ?_
              intro v2 W4 hown4 hg4 _
              refine hK _ _ ?_
              clear hK K
              obtain ⟨b4, c4, hv4⟩ := own_some hown4
              subst hv4
              obtain ⟨g0, g1, hr5⟩ := hA.push (f := 11) rfl rfl hown4 hg4
              clear hown4 hg4
              refine wpIn_take (i := 6) (d := (some 48)) (v := ?vq9) (a' := ?aq9) rfl rfl (by kernel_rfl) (by kernel_rfl) (by kernel_rfl) (fun _ _ _ h => h) (Or.inl ⟨by rfl, ?yq9⟩) ?fq9 ?_
              case yq9 => (intro wq hq; go_simp; first | done | with_reducible rfl)
              case fq9 => (go_frame; rfl)
              refine wpIn_do (i := 7) trivial (by kernel_rfl) rfl (by rfl) ?_
              intro K hK
              go_simp
              refine hK _ _ ?_
              clear hK K
              refine wpIn_done trivial (by kernel_rfl) ?_ _
              clear g0 g1 c0 c1 c2
              go_wp2
              go_roundw
              case rel => exact ⟨i + 1, _, by go_num, by omega, hr5⟩
              case measure => simp [intOf]; omega
            · intro K hK
              go_simp
              refine hK _ _ ?_
              clear hK K
              refine wpIn_do (i := 1) trivial (by kernel_rfl) rfl (by rfl) ?_
              intro K hK
              go_simp
              refine hK _ _ ?_
              clear hK K
              refine wpIn_do (i := 5) trivial (by kernel_rfl) rfl (by rfl) ?_
              intro K hK
              refine wp_append_at (.tmp 43) (.tmp 46) 22 rfl W2.heap.size 9 (.string ⟨#[]⟩) 1 16 Tryz.underlying22 Tryz.info9 rfl (by decide) (by decide) _ i _ rfl hA.row _ [.string (nameB i)] rfl rfl (cell_one_new _ _ _) (str_one _) (by omega) hA.size ?_
              intro v2 W4 hown4 hg4 _
              refine hK _ _ ?_
              clear hK K
              obtain ⟨b4, c4, hv4⟩ := own_some hown4
              subst hv4
              obtain ⟨g0, g1, hr5⟩ := hA.push (f := 11) rfl rfl hown4 hg4
              clear hown4 hg4
              refine wpIn_take (i := 6) (d := (some 48)) (v := ?vq10) (a' := ?aq10) rfl rfl (by kernel_rfl) (by kernel_rfl) (by kernel_rfl) (fun _ _ _ h => h) (Or.inl ⟨by rfl, ?yq10⟩) ?fq10 ?_
              case yq10 => (intro wq hq; go_simp; first | done | with_reducible rfl)
              case fq10 => (go_frame; rfl)
              refine wpIn_do (i := 7) trivial (by kernel_rfl) rfl (by rfl) ?_
              intro K hK
              go_simp
              refine hK _ _ ?_
              clear hK K
              refine wpIn_done trivial (by kernel_rfl) ?_ _
              clear g0 g1 c0 c1 c2
              go_wp2
              go_roundw
              case rel => exact ⟨i + 1, _, by go_num, by omega, hr5⟩
              case measure => simp [intOf]; omega
        · obtain rfl : i = M := by omega
          obtain ⟨W3, rfl⟩ : ∃ W3, W3 = wr := ⟨_, rfl⟩
          have sR := hr.keep.size
          have e3 : W3.heap[g]? = some (.cells #[.string sRoom, .string sType, .string sSender, .bool false, .string nix, .int .i64 5, .int .i64 0, .string nix, .slice none 0 0, .slice none 0 0, .slice qp j cp, .slice qa i ca, .int .i64 0, .int .i64 0, .string nix, .slice none 0 0] 28 (0, 0)) := hr.obj
          have HQ3 : Hid (RdK (fun k => W1.heap.size ≤ k ∧ k < W3.heap.size) W3 qp cp (namesB j)) := HQ.out.carry fun k hk => ⟨⟨hk.1, by omega⟩, hr.keep.block k hk.2 (HNg.out k hk.1)⟩
          have HA3 : Hid (RdK (fun k => W1.heap.size ≤ k ∧ k < W3.heap.size) W3 qa ca (namesB i)) := hra.carry fun k hk => ⟨⟨by have := hr.eqB; have := hk.1; omega, hk.2⟩, rfl⟩
          have G3 : Hid (Below w.heap.size w W3) := G2.out.trans (hr.keep.below (by have := G2.out.size; omega) fun q hq => by unfold One; omega)
          have q3 := six_c e3 3 _ rfl
          have z3 := six_fz e3 3
          clear hr hra hlt HQ
          go_wp2
          clear q3 z3
          have f4 : (W3.setCell ⟨g, 3, none⟩ (.bool true)).heap[g]? = some (.cells #[.string sRoom, .string sType, .string sSender, .bool true, .string nix, .int .i64 5, .int .i64 0, .string nix, .slice none 0 0, .slice none 0 0, .slice qp j cp, .slice qa i ca, .int .i64 0, .int .i64 0, .string nix, .slice none 0 0] 28 (0, 0)) := by rw [heap_setCell_same _ g 3 _ _ _ e3]; rfl
          have K4 : Keep (One g) W3 (W3.setCell ⟨g, 3, none⟩ (.bool true)) := Keep.setCell (Keep.refl _ _) (fun _ => (rfl : g = g)) _
          obtain ⟨W4, hW4⟩ : ∃ W4, W4 = W3.setCell ⟨g, 3, none⟩ (.bool true) := ⟨_, rfl⟩
          rw [← hW4] at f4 K4 ⊢
          clear hW4 e3
          go_loopw [10] (fun v wr => ∃ h : Nat, v = .int .i64 h ∧ h ≤ K0 ∧ wr.heap[g]? = some (.cells #[.string sRoom, .string sType, .string sSender, .bool true, .string (keyB h), .int .i64 5, .int .i64 0, .string nix, .slice none 0 0, .slice none 0 0, .slice qp j cp, .slice qa i ca, .int .i64 0, .int .i64 0, .string nix, .slice none 0 0] 28 (0, 0)) ∧ Keep (One g) W3 wr) (fun v _ => K0 - (intOf v).toNat)
          case atStart => exact ⟨0, rfl, Nat.zero_le _, f4, K4⟩
          case round =>
            clear f4 K4
            obtain ⟨h, rfl, hh, e5, K5⟩ := hrel
            by_cases hlt : h < K0
            · have hji : (h : Int) < (K0 : Int) := by omega
              have q4 := six_c e5 4 _ rfl
              have z4 := six_fz e5 4
              have hks : (keyB h).size ≤ 140 := by rw [keyB_size]; omega
              go_wp2
              go_roundw
              case rel => exact ⟨h + 1, by go_num, hlt, by rw [heap_setCell_same _ g 4 _ _ _ e5]; rfl, K5.then (Keep.setCell (Keep.refl _ _) (fun _ => (rfl : g = g)) _)⟩
              case measure => simp [intOf]; omega
            · obtain rfl : h = K0 := by omega
              have s5 := K5.size
              have G5 : Hid (Below w.heap.size w wr) := G3.out.trans (K5.below (by have := G3.out.size; omega) fun q hq => by unfold One; omega)
              have hSh := shp_lim j i h (by omega) (by omega) (by omega) wr qp cp qa ca (HQ3.out.carry fun k hk => ⟨(show W1.heap.size ≤ k ∧ k < wr.heap.size from ⟨hk.1, by omega⟩), K5.block k hk.2 (HNg.out k hk.1)⟩) (HA3.out.carry fun k hk => ⟨(show W1.heap.size ≤ k ∧ k < wr.heap.size from ⟨hk.1, by omega⟩), K5.block k hk.2 (HNg.out k hk.1)⟩) (fun x hx => hx.2) (HT.out.below G5.out)
              clear HQ3 HA3 hlt K5 s5 sR
              by_cases c1 : (j : Int) ≤ 20
              · by_cases c2 : (i : Int) ≤ 10
                · by_cases c3 : (h : Int) ≤ 128
                  · rw [if_pos (by omega)] at hSh
                    go_wp2_with (first
                      | (go_at_call 10; refine hSh.mono ?_; rintro x w5 ⟨rfl, hb5⟩
                         have hAw := awake_any w5 (HT.out.below (below_in G5.out hb5)))
                      | (go_at_call 15; refine hAw.mono ?_; rintro x w6 ⟨rfl, hb6⟩)
                      | (refine wpList_load16 rfl _ rfl rfl e5 ?_))
                    go_ret
                    exact ⟨rfl, below_in G5.out (below_in hb5 hb6)⟩
                  · rw [if_neg (by omega)] at hSh
                    go_wp2_with (first
                      | (go_at_call 10; refine hSh.mono ?_; rintro x w5 ⟨rfl, hb5⟩
                         have hAw := awake_any w5 (HT.out.below (below_in G5.out hb5)))
                      | (go_at_call 15; refine hAw.mono ?_; rintro x w6 ⟨rfl, hb6⟩)
                      | (refine wpList_load16 rfl _ rfl rfl e5 ?_))
                    go_ret
                    exact ⟨rfl, below_in G5.out (below_in hb5 hb6)⟩
                · rw [if_neg (by omega)] at hSh
                  go_wp2_with (first
                    | (go_at_call 10; refine hSh.mono ?_; rintro x w5 ⟨rfl, hb5⟩
                       have hAw := awake_any w5 (HT.out.below (below_in G5.out hb5)))
                    | (go_at_call 15; refine hAw.mono ?_; rintro x w6 ⟨rfl, hb6⟩)
                    | (refine wpList_load16 rfl _ rfl rfl e5 ?_))
                  go_ret
                  exact ⟨rfl, below_in G5.out (below_in hb5 hb6)⟩
              · rw [if_neg (by omega)] at hSh
                go_wp2_with (first
                  | (go_at_call 10; refine hSh.mono ?_; rintro x w5 ⟨rfl, hb5⟩
                     have hAw := awake_any w5 (HT.out.below (below_in G5.out hb5)))
                  | (go_at_call 15; refine hAw.mono ?_; rintro x w6 ⟨rfl, hb6⟩)
                  | (refine wpList_load16 rfl _ rfl rfl e5 ?_))
                go_ret
                exact ⟨rfl, below_in G5.out (below_in hb5 hb6)⟩
end Go.Proofs.YtegcgbjjpgjnmaaGreatDoor
namespace Go.Proofs.YtegcgbjjpgjnmaaGreatDoor
open Go.ChangeShapes Go.WideShapes Go.ChangeAt Go.RowKit
theorem cell_lt {w : World} {a : Addr} {v : Value} (h : w.cell? a = some v) : a.block < w.heap.size := by
  rcases Nat.lt_or_ge a.block w.heap.size with h' | h'
  · exact h'
  · simp [World.cell?, Array.getElem?_eq_none h'] at h
end Go.Proofs.YtegcgbjjpgjnmaaGreatDoor

/-
  awake: the chapter's examples come out as told.
-/
import Derived.Test.YtlljgkbigpmblaaDecode
import Derived.Test.YtlljgkbigpmblaaEncode
import Derived.Lib.SlBytesConst
namespace Go.Proofs.Ytlljgkbigpmblaa
open Go.RowKit

theorem f_yr : flt (ints ⟨#[89, 82]⟩) = (21, 1) := by decide
theorem f_y : flt (ints ⟨#[89]⟩) = (22, 1) := by decide
theorem f_ye : flt (ints ⟨#[89, 61]⟩) = (20, 1) := by decide
theorem e_a : strOfNums (enc [97]) = ⟨#[89, 81]⟩ := by decide
theorem e_abc : strOfNums (enc [97, 98, 99]) = ⟨#[89, 87, 74, 106]⟩ := by decide

theorem rd_row {w : World} {g t : Nat} {fr : Nat × Nat} {L : List Int} (hg : w.heap[g]? = some (.cells (L.map (Value.int .u8)).toArray t fr)) (hL : ∀ x ∈ L, 0 ≤ x ∧ x ≤ 255) (c : Nat) (hc : L.length ≤ c) : Rd w.heap.size w (some ⟨g, 0, none⟩) c L :=
  ⟨hc, hL, fun j hj => ⟨_, rfl, (Array.getElem?_eq_some_iff.1 hg).1, by
    have e : (⟨g, 0, none⟩ : Addr).add j = ⟨g, j, none⟩ := by unfold Addr.add; split <;> simp_all
    rw [e]
    refine cell_row hg j _ ?_
    rw [List.getElem?_map, List.getElem?_eq_getElem hj, List.getD_eq_getElem?_getD, List.getElem?_eq_getElem hj]
    rfl⟩⟩
theorem enc_a (w : World) (g t : Nat) (fr : Nat × Nat) (hg : w.heap[g]? = some (.cells #[.int .u8 97] t fr)) : Calls Try.prog 9 #[.slice (some ⟨g, 0, none⟩) 1 1] w fun e w' => e = .returned (.string ⟨#[89, 81]⟩) ∧ Below w.heap.size w w' := by
  have h := encode_any [97] (some ⟨g, 0, none⟩) 1 w (by decide) (rd_row (L := [97]) hg (by decide) 1 (by decide))
  rw [e_a] at h
  exact h
theorem enc_abc (w : World) (g t : Nat) (fr : Nat × Nat) (hg : w.heap[g]? = some (.cells #[.int .u8 97, .int .u8 98, .int .u8 99] t fr)) : Calls Try.prog 9 #[.slice (some ⟨g, 0, none⟩) 3 3] w fun e w' => e = .returned (.string ⟨#[89, 87, 74, 106]⟩) ∧ Below w.heap.size w w' := by
  have h := encode_any [97, 98, 99] (some ⟨g, 0, none⟩) 3 w (by decide) (rd_row (L := [97, 98, 99]) hg (by decide) 3 (by decide))
  rw [e_abc] at h
  exact h

set_option maxHeartbeats 1000000 in
theorem awake_any (w : World) : Calls Try.prog 11 #[] w fun e w' => e = .returned (.bool true) ∧ Below w.heap.size w w' := by
  have h1 := f_yr
  have h2 := f_y
  have h3 := f_ye
  have hcv := fun (wx : World) (C : Array Value) (n c : Nat) => Lib.run_convert_bytes_const (P := Try.prog) wx 22 5 C n c Try.underlying22 Try.underlying5
  go_enter Try.func11, Try.ntmps11
  go_wp2_with (first
    | (go_at_call 12; have _h := hb2; refine (decode_bad _ _ (by decide) (by rw [f_ye]; decide)).mono ?_; rintro e w3 ⟨rfl, hb3⟩)
    | (go_at_call 12; have _h := hb1; refine (decode_bad _ _ (by decide) (by rw [f_y]; decide)).mono ?_; rintro e w2 ⟨rfl, hb2⟩)
    | (go_at_call 12; refine (decode_bad _ _ (by decide) (by rw [f_yr]; decide)).mono ?_; rintro e w1 ⟨rfl, hb1⟩)
    | (go_at_call 9; have _h := hb4; refine (enc_abc _ _ _ _ (heap_alloc_new _ _)).mono ?_; rintro e w5 ⟨rfl, hb5⟩)
    | (go_at_call 9; refine (enc_a _ _ _ _ (heap_alloc_new _ _)).mono ?_; rintro e w4 ⟨rfl, hb4⟩))
  go_ret
  refine ⟨rfl, ?_⟩
  have c2 := hb1.trans (hb2.mono hb1.size)
  have c3 := c2.trans (hb3.mono c2.size)
  have c3' := c3.alloc c3.size (.cells #[Value.int .u8 97] 5 (1, 2))
  have c4 := c3'.trans (hb4.mono c3'.size)
  have c4' := c4.alloc c4.size (.cells #[Value.int .u8 97, .int .u8 98, .int .u8 99] 5 (3, 4))
  exact c4'.trans (hb5.mono c4'.size)
end Go.Proofs.Ytlljgkbigpmblaa

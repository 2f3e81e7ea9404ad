/-
  awake: chapter 3's examples, walked.
-/
import Derived.Test.YtjgogmlmcebgpaaDeeds
import Derived.Lib.SlBytesConst
namespace Go.Proofs.Ytjgogmlmcebgpaa
open Go.RowKit Go.Maps

def nA : ByteArray := ⟨#[97]⟩
def nB : ByteArray := ⟨#[98]⟩
def t1 : ByteArray := strOfNums [49]
def t2 : ByteArray := strOfNums [50]
theorem no1 : no ([] : List ByteArray) t1 = 1 := by decide
theorem no2 : no [t1] t2 = 2 := by decide
theorem no3 : no [t1, t2] t1 = 1 := by decide
theorem ad1 : add ([] : List ByteArray) t1 = [t1] := by decide
theorem ad2 : add [t1] t2 = [t1, t2] := by decide
theorem ad3 : add [t1, t2] t1 = [t1, t2] := by decide
theorem pl1 : plc [nA, nB] nA = 0 := by decide
theorem pl2 : plc [nA, nB] nB = 1 := by decide
theorem on1 : once [nA, nB] = true := by decide
theorem no4 : no ([] : List (Nat × ByteArray)) (0, t1) = 1 := by decide
theorem ad4 : add ([] : List (Nat × ByteArray)) (0, t1) = [(0, t1)] := by decide
theorem lt1 : lt 1 = ⟨#[65, 65, 65, 65, 65, 65, 65, 65, 65, 65, 69]⟩ := by decide
theorem lt2 : lt 2 = ⟨#[65, 65, 65, 65, 65, 65, 65, 65, 65, 65, 73]⟩ := by decide
theorem in1 : inn [nA, nB] nA = true := by decide
theorem ve1 : ver [nA, nB] [(0, t1)] nA t1 ⟨#[65, 65, 65, 65, 65, 65, 65, 65, 65, 65, 69]⟩ = true := by decide
theorem ve2 : ver [nA, nB] [(0, t1)] nB t1 ⟨#[65, 65, 65, 65, 65, 65, 65, 65, 65, 65, 69]⟩ = false := by decide

theorem rd1 (w : World) (x : Int) (t : Nat) (fr : Nat × Nat) (h0 : 0 ≤ x) (h1 : x ≤ 255) : Rd (w.alloc (.cells #[.int .u8 x] t fr)).heap.size (w.alloc (.cells #[.int .u8 x] t fr)) (some ⟨w.heap.size, 0, none⟩) 1 [x] :=
  rd_row (L := [x]) (heap_alloc_new _ _) (by intro y hy; rw [List.mem_singleton.1 hy]; exact ⟨h0, h1⟩) 1 (Nat.le_refl _)

section
variable {B tb b1 b2 : Nat} {v : Value} {w w' : World} {S D : List ByteArray} {G : List (Nat × ByteArray)}
theorem Tab.le (h : Tab B w tb v b1 b2 S D G) : B ≤ w.heap.size := by
  have := h.base
  have := h.texts.lt
  omega
theorem Tab.under1 (h : Tab B w tb v b1 b2 S D G) (hg : w.grownBy w' (some b1)) : Below B w w' :=
  (Below.refl _ _).grown hg h.le (fun k hk => by cases hk; exact h.base.2.1)
theorem Tab.under2 (h : Tab B w tb v b1 b2 S D G) (hg : w.grownBy w' (some b2)) : Below B w w' :=
  (Below.refl _ _).grown hg h.le (fun k hk => by cases hk; exact h.base.2.2)
end

section
variable {B tb b1 b2 : Nat} {v : Value} {w : World}
theorem dig1 (h : Tab B w tb v b1 b2 [nA, nB] [] []) : Calls Try.prog 14 #[.pointer (some ⟨tb, 0, none⟩), .slice (some ⟨w.heap.size, 0, none⟩) 1 1] (w.alloc (.cells #[.int .u8 49] 5 (1, 2))) fun e w' =>
    e = .returned (.string ⟨#[65, 65, 65, 65, 65, 65, 65, 65, 65, 65, 69]⟩) ∧ Tab B w' tb v b1 b2 [nA, nB] [t1] [] ∧ Below B w w' := by
  have h' := h.grown (World.grownBy_alloc _ (.cells #[.int .u8 49] 5 (1, 2)) none)
  have := digest_any [49] _ 1 _ h' (rd1 w 49 5 (1, 2) (by decide) (by decide)) (by decide) (by decide)
  rw [show strOfNums [49] = t1 from rfl, no1, ad1, lt1] at this
  refine this.mono ?_
  rintro e w' ⟨rfl, ht, hg⟩
  exact ⟨rfl, ht, ((Below.refl _ _).alloc h.le _).trans (h'.under1 hg)⟩
theorem dig2 (h : Tab B w tb v b1 b2 [nA, nB] [t1] []) : Calls Try.prog 14 #[.pointer (some ⟨tb, 0, none⟩), .slice (some ⟨w.heap.size, 0, none⟩) 1 1] (w.alloc (.cells #[.int .u8 50] 5 (1, 2))) fun e w' =>
    e = .returned (.string ⟨#[65, 65, 65, 65, 65, 65, 65, 65, 65, 65, 73]⟩) ∧ Tab B w' tb v b1 b2 [nA, nB] [t1, t2] [] ∧ Below B w w' := by
  have h' := h.grown (World.grownBy_alloc _ (.cells #[.int .u8 50] 5 (1, 2)) none)
  have := digest_any [50] _ 1 _ h' (rd1 w 50 5 (1, 2) (by decide) (by decide)) (by decide) (by decide)
  rw [show strOfNums [50] = t2 from rfl, no2, ad2, lt2] at this
  refine this.mono ?_
  rintro e w' ⟨rfl, ht, hg⟩
  exact ⟨rfl, ht, ((Below.refl _ _).alloc h.le _).trans (h'.under1 hg)⟩
theorem dig3 (h : Tab B w tb v b1 b2 [nA, nB] [t1, t2] []) : Calls Try.prog 14 #[.pointer (some ⟨tb, 0, none⟩), .slice (some ⟨w.heap.size, 0, none⟩) 1 1] (w.alloc (.cells #[.int .u8 49] 5 (1, 2))) fun e w' =>
    e = .returned (.string ⟨#[65, 65, 65, 65, 65, 65, 65, 65, 65, 65, 69]⟩) ∧ Tab B w' tb v b1 b2 [nA, nB] [t1, t2] [] ∧ Below B w w' := by
  have h' := h.grown (World.grownBy_alloc _ (.cells #[.int .u8 49] 5 (1, 2)) none)
  have := digest_any [49] _ 1 _ h' (rd1 w 49 5 (1, 2) (by decide) (by decide)) (by decide) (by decide)
  rw [show strOfNums [49] = t1 from rfl, no3, ad3, lt1] at this
  refine this.mono ?_
  rintro e w' ⟨rfl, ht, hg⟩
  exact ⟨rfl, ht, ((Below.refl _ _).alloc h.le _).trans (h'.under1 hg)⟩
theorem sig1 (h : Tab B w tb v b1 b2 [nA, nB] [t1, t2] []) : Calls Try.prog 16 #[.pointer (some ⟨tb, 0, none⟩), .string ⟨#[97]⟩, .slice (some ⟨w.heap.size, 0, none⟩) 1 1] (w.alloc (.cells #[.int .u8 49] 5 (1, 2))) fun e w' =>
    e = .returned (.tuple #[.string ⟨#[65, 65, 65, 65, 65, 65, 65, 65, 65, 65, 69]⟩, .int .i64 0]) ∧ Tab B w' tb v b1 b2 [nA, nB] [t1, t2] [(0, t1)] ∧ Below B w w' := by
  have h' := h.grown (World.grownBy_alloc _ (.cells #[.int .u8 49] 5 (1, 2)) none)
  have := sign_any nA [49] _ 1 _ h' (rd1 w 49 5 (1, 2) (by decide) (by decide)) (by decide) (by decide) in1
  rw [show strOfNums [49] = t1 from rfl, pl1, no4, ad4, lt1] at this
  refine this.mono ?_
  rintro e w' ⟨rfl, ht, hg⟩
  exact ⟨rfl, ht, ((Below.refl _ _).alloc h.le _).trans (h'.under2 hg)⟩
theorem ver1 (h : Tab B w tb v b1 b2 [nA, nB] [t1, t2] [(0, t1)]) : Calls Try.prog 19 #[.pointer (some ⟨tb, 0, none⟩), .string ⟨#[97]⟩, .slice (some ⟨w.heap.size, 0, none⟩) 1 1, .string ⟨#[65, 65, 65, 65, 65, 65, 65, 65, 65, 65, 69]⟩] (w.alloc (.cells #[.int .u8 49] 5 (1, 2))) fun e w' =>
    e = .returned (.bool true) ∧ Tab B w' tb v b1 b2 [nA, nB] [t1, t2] [(0, t1)] ∧ Below B w w' := by
  have h' := h.grown (World.grownBy_alloc _ (.cells #[.int .u8 49] 5 (1, 2)) none)
  have := verify_any nA [49] ⟨#[65, 65, 65, 65, 65, 65, 65, 65, 65, 65, 69]⟩ _ 1 _ h' (rd1 w 49 5 (1, 2) (by decide) (by decide)) (by decide) (by decide)
  rw [show strOfNums [49] = t1 from rfl, ve1] at this
  refine this.mono ?_
  rintro e w' ⟨rfl, hb⟩
  exact ⟨rfl, h'.below hb, ((Below.refl _ _).alloc h.le _).trans (hb.mono h'.le)⟩
theorem ver2 (h : Tab B w tb v b1 b2 [nA, nB] [t1, t2] [(0, t1)]) : Calls Try.prog 19 #[.pointer (some ⟨tb, 0, none⟩), .string ⟨#[98]⟩, .slice (some ⟨w.heap.size, 0, none⟩) 1 1, .string ⟨#[65, 65, 65, 65, 65, 65, 65, 65, 65, 65, 69]⟩] (w.alloc (.cells #[.int .u8 49] 5 (1, 2))) fun e w' =>
    e = .returned (.bool false) ∧ Below B w w' := by
  have h' := h.grown (World.grownBy_alloc _ (.cells #[.int .u8 49] 5 (1, 2)) none)
  have := verify_any nB [49] ⟨#[65, 65, 65, 65, 65, 65, 65, 65, 65, 65, 69]⟩ _ 1 _ h' (rd1 w 49 5 (1, 2) (by decide) (by decide)) (by decide) (by decide)
  rw [show strOfNums [49] = t1 from rfl, ve2] at this
  refine this.mono ?_
  rintro e w' ⟨rfl, hb⟩
  exact ⟨rfl, ((Below.refl _ _).alloc h.le _).trans (hb.mono h'.le)⟩
theorem newAB (w : World) : Calls Try.prog 10 #[.slice (some ⟨w.heap.size, 0, none⟩) 2 2] (w.alloc (.cells #[.string ⟨#[97]⟩, .string ⟨#[98]⟩] 9)) fun e w' =>
    ∃ tb, e = .returned (.tuple #[.pointer (some ⟨tb, 0, none⟩), .int .i64 0]) ∧ TabOk w.heap.size w' tb [nA, nB] [] [] ∧ Below w.heap.size w w' := by
  have hrd : RdS (w.alloc (.cells #[.string ⟨#[97]⟩, .string ⟨#[98]⟩] 9)).heap.size (w.alloc (.cells #[.string ⟨#[97]⟩, .string ⟨#[98]⟩] 9)) (some ⟨w.heap.size, 0, none⟩) 2 [nA, nB] := by
    refine ⟨Nat.le_refl _, fun j hj => ⟨_, rfl, by simp, ?_⟩⟩
    match j, hj with
    | 0, _ => exact cell_row (cur := [_, _]) (heap_alloc_new _ _) 0 _ rfl
    | 1, _ => exact cell_row (cur := [_, _]) (heap_alloc_new _ _) 1 _ rfl
  refine (new_good [nA, nB] _ 2 _ (by decide) on1 hrd (fun h => by cases h)).mono ?_
  rintro e w' ⟨tb, rfl, ⟨v, b1, b2, ht⟩, hb⟩
  refine ⟨tb, rfl, ⟨v, b1, b2, ht.c0, ht.c1, ht.c2, ?_, ht.texts, ht.tokens, ht.ne, ?_, ht.few, ht.one⟩, ((Below.refl _ _).alloc (Nat.le_refl _) _).trans (hb.mono (by simp))⟩
  · have := ht.row
    refine ⟨this.1, ?_⟩
    rcases this.2 with h | ⟨g, cap, cur, h1, h2, h3⟩
    · exact .inl h
    · exact .inr ⟨g, cap, cur, h1, by simp at h2; omega, h3⟩
  · have := ht.base
    simp at this
    omega
end

set_option maxHeartbeats 1000000 in
theorem awake_any (w : World) : Calls Try.prog 12 #[] w fun e w' => e = .returned (.bool true) ∧ Below w.heap.size w w' := by
  have hcv := fun (w : World) (x : Int) => Go.Lib.run_convert_bytes_const (P := Try.prog) w 37 5 #[.int .u8 x] 1 1 Try.underlying37 Try.underlying5
  go_enter Try.func12, Try.ntmps12
  go_wp2_with (first
    | (go_at_call 10; refine (newAB _).mono ?_; rintro e w1 ⟨tb, rfl, ⟨v, b1, b2, ht1⟩, hb1⟩)
    | (go_at_call 14; have _h := ht3; refine (dig3 ht3).mono ?_; rintro e w4 ⟨rfl, ht4, hb4⟩)
    | (go_at_call 14; have _h := ht2; refine (dig2 ht2).mono ?_; rintro e w3 ⟨rfl, ht3, hb3⟩)
    | (go_at_call 14; refine (dig1 ht1).mono ?_; rintro e w2 ⟨rfl, ht2, hb2⟩)
    | (go_at_call 16; refine (sig1 ht4).mono ?_; rintro e w5 ⟨rfl, ht5, hb5⟩)
    | (go_at_call 19; have _h := ht6; refine (ver2 ht6).mono ?_; rintro e w7 ⟨rfl, hb7⟩)
    | (go_at_call 19; refine (ver1 ht5).mono ?_; rintro e w6 ⟨rfl, ht6, hb6⟩))
  go_ret
  exact ⟨rfl, (((((hb1.trans hb2).trans hb3).trans hb4).trans hb5).trans hb6).trans hb7⟩
end Go.Proofs.Ytjgogmlmcebgpaa

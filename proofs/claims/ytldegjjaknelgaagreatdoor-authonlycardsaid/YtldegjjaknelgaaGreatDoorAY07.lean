/-
  What is written, by contracts: the writer's small steps.
  How a letter stands in a text, by a contract.
  A text written, by a contract.
  Lists and pairs written, by contracts: given how a value within them is written.
-/
import Derived.Test.YtldegjjaknelgaaGreatDoorAY06
import Derived.Lib.AppendStr
import Derived.Stop.FmtQuoteTie
import Derived.Lib.OthersKept
import Derived.Lib.AppendIntMem
set_option maxRecDepth 100000
set_option maxHeartbeats 16000000
namespace Go.Proofs.YtldegjjaknelgaaGreatDoor
open Go.RowKit
structure NB (B K : Nat) (w w' : World) : Prop where
 os : w'.os = w.os
 tape : w'.tape = w.tape
 output : w'.output = w.output
 size : w.heap.size ≤ w'.heap.size
 block : ∀ k, k < w.heap.size → k ≠ K → (k < B ∨ ∀ cur fr, w.heap[k]? ≠ some (.cells cur 5 fr)) → w'.heap[k]? = w.heap[k]?
theorem NB.refl (B K : Nat) (w : World) : NB B K w w := ⟨rfl, rfl, rfl, Nat.le_refl _, fun _ _ _ _ => rfl⟩
theorem NB.trans {B K : Nat} {a b c : World} (h : NB B K a b) (g : NB B K b c) : NB B K a c :=
 ⟨g.os.trans h.os, g.tape.trans h.tape, g.output.trans h.output, Nat.le_trans h.size g.size, fun k hk hn hs => by
  have e := h.block k hk hn hs
  exact (g.block k (Nat.lt_of_lt_of_le hk h.size) hn (hs.imp id fun h' cur fr => by rw [e]; exact h' cur fr)).trans e⟩
theorem NB.alloc {B K : Nat} {a b : World} (h : NB B K a b) (o : Obj) : NB B K a (b.alloc o) :=
 h.trans ⟨rfl, rfl, rfl, by simp, fun k hk _ _ => Below.heap_alloc _ _ _ hk⟩
theorem NB.keep {B K : Nat} {a b : World} (h : Keep (One K) a b) : NB B K a b := ⟨h.os, h.tape, h.output, h.size, fun k hk hn _ => h.block k hk hn⟩
theorem NB.below {B K : Nat} {a b : World} (h : NB B K a b) (hK : K ≤ B) (hB : K ≤ a.heap.size) : Below K a b := ⟨h.os, h.tape, h.output, h.size, fun k hk => h.block k (by omega) (by omega) (.inl (by omega))⟩
structure Wtr (w : World) (B K : Nat) (out : List Int) : Prop where
 row : ∃ v, w.heap[K]? = some (.cells #[v] 127 (0, 0)) ∧ w.ownsRow B 5 1 v out.length (out.map (Value.int .u8))
 lt : K < B
 size : B ≤ w.heap.size
theorem bytes_own {w : World} {B n : Nat} {v : Value} {xs : List Value} (h : w.ownsRow B 5 1 v n xs) : ∀ k, v.ownBlock = some k → B ≤ k ∧ ∃ cur fr, w.heap[k]? = some (.cells cur 5 fr) := by
 intro k hk
 rcases h.2 with ⟨rfl, _⟩ | ⟨g, cap, cur, rfl, hg, hgg, _⟩
 · cases hk
 · cases hk; exact ⟨hg, cur, _, hgg⟩
theorem Wtr.alloc {w : World} {B K : Nat} {out : List Int} (h : Wtr w B K out) (o : Obj) : Wtr (w.alloc o) B K out := by
 obtain ⟨v, h1, h2⟩ := h.row
 have := h.lt
 have := h.size
 exact ⟨⟨v, by rw [Below.heap_alloc _ _ _ (by omega)]; exact h1, h2.alloc o⟩, h.lt, by simp; omega⟩
theorem one_c0 {w : World} {K : Nat} {v : Value} {t : TypeId} (h : w.heap[K]? = some (.cells #[v] t (0, 0))) : w.cell? ⟨K, 0, none⟩ = some v := cell_row (cur := [_]) h 0 _ rfl
def putTold (w w' : World) (B K : Nat) (out s : List Int) (x : Ending) : Prop := x = .returned (.tuple #[]) ∧ (∃ out', Put out s out' ∧ out'.length ≤ 20000 ∧ Wtr w' B K out') ∧ NB B K w w'
theorem long_any {w : World} {B K : Nat} {out : List Int} (h : Wtr w B K out) :
    Calls Tryz.prog 113 #[.pointer (some ⟨K, 0, none⟩)] w fun x w' => x = .returned (.bool (decide (16384 < out.length))) ∧ w = w' := by
 obtain ⟨v, h1, h2⟩ := h.row
 obtain ⟨q, c, rfl, _⟩ : ∃ q c, v = .slice q out.length c ∧ True := by
  rcases h2.2 with ⟨rfl, hn⟩ | ⟨g, cap, cur, rfl, _⟩
  · exact ⟨none, 0, by rw [hn], trivial⟩
  · exact ⟨_, _, rfl, trivial⟩
 have c0 := one_c0 h1
 obtain ⟨n, hn⟩ : ∃ n, out.length = n := ⟨_, rfl⟩
 rw [hn] at c0 ⊢
 go_enter Tryz.func113, Tryz.ntmps113
 go_wp2
 go_ret
 refine ⟨ret_bool ?_, rfl⟩
 rw [decide_eq_decide]
 omega
theorem strCells_ints (s : ByteArray) : Lib.strCells s = (ints s).map (Value.int .u8) := by
 unfold Lib.strCells ints
 simp
theorem put_any {w : World} {B K : Nat} {out : List Int} (h : Wtr w B K out) (ho : out.length ≤ 20000) (s : ByteArray) (hs : s.size ≤ 100) :
    Calls Tryz.prog 136 #[.pointer (some ⟨K, 0, none⟩), .string s] w fun x w' => putTold w w' B K out (ints s) x := by
 have hl := long_any h
 have hP := Put.one out (ints s)
 by_cases hlong : 16384 < out.length
 · rw [decide_eq_true hlong] at hl
   rw [if_pos hlong] at hP
   go_enter Tryz.func136, Tryz.ntmps136
   go_wp2_with (go_at_call 113; refine hl.mono ?_; rintro x w' ⟨rfl, rfl⟩)
   go_end0
   exact ⟨rfl, ⟨out, hP, ho, h⟩, NB.refl _ _ _⟩
 · rw [decide_eq_false hlong] at hl
   rw [if_neg hlong] at hP
   obtain ⟨v, h1, h2⟩ := h.row
   have c0 := one_c0 h1
   have hB := h.size
   have hlt := h.lt
   obtain ⟨i0, hi, hz0, hz1, hz2⟩ := info_parts Tryz.info5
   go_enter Tryz.func136, Tryz.ntmps136
   go_wp2_with (first
    | (go_at_call 113; refine hl.mono ?_; rintro x w' ⟨rfl, rfl⟩)
    | (at_builtin; refine Lib.wpList_append_own_string _ rfl _ _ 80 9 rfl B 5 i0 Tryz.underlying80 Tryz.underlying9 hi hz0 hz1 hz2 _ _ _ rfl h2 s rfl ?c3 ?c4 ?c5 ?_
       case c3 => unfold maxLen; omega
       case c4 => omega
       case c5 => exact hB
       intro v' w2 hown hg _
       have hgv := bytes_own h2
       have hK2 : w2.heap[K]? = some (.cells #[v] 127 (0, 0)) := by
        rw [hg.block K (by omega) (fun e => by have := (hgv K e.symm).1; omega)]; exact h1
       have d0 := one_c0 hK2
       have z0 : w2.frozen? ⟨K, 0, none⟩ = false := frozen_of_row w2 K 0 _ _ hK2
       obtain ⟨q5, n5, c5, hE5⟩ := own_slice hown
       subst hE5))
   go_end0
   have K3 : Keep (One K) w2 (w2.setCell ⟨K, 0, none⟩ (.slice q5 n5 c5)) := Keep.setCell (Keep.refl _ _) (fun _ => (rfl : K = K)) _
   refine ⟨rfl, ⟨out ++ ints s, hP, by rw [List.length_append, ints_length]; omega, ⟨⟨_, by rw [heap_setCell_same _ K 0 _ _ _ hK2]; rfl, ?_⟩, hlt, ?_⟩⟩, ?_⟩
   · rw [List.length_append, ints_length, List.map_append, ← strCells_ints]
     exact own_keep hown K3 fun k e => by have := (bytes_own hown k e).1; unfold One; omega
   · have := hg.size
     simp
     omega
   · refine NB.trans (b := w2) ⟨hg.os, hg.tape, hg.output, hg.size, fun k hk hn hs' => hg.block k hk fun e => ?_⟩ (NB.keep K3)
     obtain ⟨e1, cur, fr, e2⟩ := hgv k e.symm
     rcases hs' with h' | h'
     · omega
     · exact h' cur fr e2
theorem comma_any {w : World} {B K : Nat} {out : List Int} (hw : Wtr w B K out) (ho : out.length ≤ 20000) (i : Nat) (hi : i ≤ 1000000) :
    Calls Tryz.prog 164 #[.pointer (some ⟨K, 0, none⟩), .int .i64 i] w fun x w' => putTold w w' B K out (if i = 0 then [] else [44]) x := by
 by_cases h0 : i = 0
 · subst h0
   go_enter Tryz.func164, Tryz.ntmps164
   go_wp2
   go_end0
   exact ⟨rfl, ⟨out, Put.nil _, ho, hw⟩, NB.refl _ _ _⟩
 · have hp : 0 < i := by omega
   have hput := put_any hw ho ⟨#[44]⟩ (by decide)
   rw [if_neg h0]
   go_enter Tryz.func164, Tryz.ntmps164
   go_wp2_with (go_at_call 136; refine hput.mono ?_; rintro x w2 ⟨rfl, hp2⟩)
   go_end0
   exact ⟨rfl, hp2⟩
def escRune (l : Int) : List Int := if l < 128 then escByte l else Lib.encodeRuneZ l
theorem escaped_0 (w : World) : Calls Tryz.prog 163 #[.int .i32 0] w fun x w' => x = .returned (.string (strOfNums (escByte 0))) ∧ Keep (fun _ => False) w w' := by
 have hb : bits .and .i32 0 15 = 0 := by kernel_rfl
 go_enter Tryz.func163, Tryz.ntmps163
 go_wp2
 go_quiet (fail)
 go_wp2
 go_ret
 exact ⟨by kernel_rfl, (Keep.refl _ _).drewN _⟩
theorem escaped_1 (w : World) : Calls Tryz.prog 163 #[.int .i32 1] w fun x w' => x = .returned (.string (strOfNums (escByte 1))) ∧ Keep (fun _ => False) w w' := by
 have hb : bits .and .i32 1 15 = 1 := by kernel_rfl
 go_enter Tryz.func163, Tryz.ntmps163
 go_wp2
 go_quiet (fail)
 go_wp2
 go_ret
 exact ⟨by kernel_rfl, (Keep.refl _ _).drewN _⟩
theorem escaped_2 (w : World) : Calls Tryz.prog 163 #[.int .i32 2] w fun x w' => x = .returned (.string (strOfNums (escByte 2))) ∧ Keep (fun _ => False) w w' := by
 have hb : bits .and .i32 2 15 = 2 := by kernel_rfl
 go_enter Tryz.func163, Tryz.ntmps163
 go_wp2
 go_quiet (fail)
 go_wp2
 go_ret
 exact ⟨by kernel_rfl, (Keep.refl _ _).drewN _⟩
theorem escaped_3 (w : World) : Calls Tryz.prog 163 #[.int .i32 3] w fun x w' => x = .returned (.string (strOfNums (escByte 3))) ∧ Keep (fun _ => False) w w' := by
 have hb : bits .and .i32 3 15 = 3 := by kernel_rfl
 go_enter Tryz.func163, Tryz.ntmps163
 go_wp2
 go_quiet (fail)
 go_wp2
 go_ret
 exact ⟨by kernel_rfl, (Keep.refl _ _).drewN _⟩
theorem escaped_4 (w : World) : Calls Tryz.prog 163 #[.int .i32 4] w fun x w' => x = .returned (.string (strOfNums (escByte 4))) ∧ Keep (fun _ => False) w w' := by
 have hb : bits .and .i32 4 15 = 4 := by kernel_rfl
 go_enter Tryz.func163, Tryz.ntmps163
 go_wp2
 go_quiet (fail)
 go_wp2
 go_ret
 exact ⟨by kernel_rfl, (Keep.refl _ _).drewN _⟩
theorem escaped_5 (w : World) : Calls Tryz.prog 163 #[.int .i32 5] w fun x w' => x = .returned (.string (strOfNums (escByte 5))) ∧ Keep (fun _ => False) w w' := by
 have hb : bits .and .i32 5 15 = 5 := by kernel_rfl
 go_enter Tryz.func163, Tryz.ntmps163
 go_wp2
 go_quiet (fail)
 go_wp2
 go_ret
 exact ⟨by kernel_rfl, (Keep.refl _ _).drewN _⟩
theorem escaped_6 (w : World) : Calls Tryz.prog 163 #[.int .i32 6] w fun x w' => x = .returned (.string (strOfNums (escByte 6))) ∧ Keep (fun _ => False) w w' := by
 have hb : bits .and .i32 6 15 = 6 := by kernel_rfl
 go_enter Tryz.func163, Tryz.ntmps163
 go_wp2
 go_quiet (fail)
 go_wp2
 go_ret
 exact ⟨by kernel_rfl, (Keep.refl _ _).drewN _⟩
theorem escaped_7 (w : World) : Calls Tryz.prog 163 #[.int .i32 7] w fun x w' => x = .returned (.string (strOfNums (escByte 7))) ∧ Keep (fun _ => False) w w' := by
 have hb : bits .and .i32 7 15 = 7 := by kernel_rfl
 go_enter Tryz.func163, Tryz.ntmps163
 go_wp2
 go_quiet (fail)
 go_wp2
 go_ret
 exact ⟨by kernel_rfl, (Keep.refl _ _).drewN _⟩
theorem escaped_11 (w : World) : Calls Tryz.prog 163 #[.int .i32 11] w fun x w' => x = .returned (.string (strOfNums (escByte 11))) ∧ Keep (fun _ => False) w w' := by
 have hb : bits .and .i32 11 15 = 11 := by kernel_rfl
 go_enter Tryz.func163, Tryz.ntmps163
 go_wp2
 go_quiet (fail)
 go_wp2
 go_ret
 exact ⟨by kernel_rfl, (Keep.refl _ _).drewN _⟩
theorem escaped_14 (w : World) : Calls Tryz.prog 163 #[.int .i32 14] w fun x w' => x = .returned (.string (strOfNums (escByte 14))) ∧ Keep (fun _ => False) w w' := by
 have hb : bits .and .i32 14 15 = 14 := by kernel_rfl
 go_enter Tryz.func163, Tryz.ntmps163
 go_wp2
 go_quiet (fail)
 go_wp2
 go_ret
 exact ⟨by kernel_rfl, (Keep.refl _ _).drewN _⟩
theorem escaped_15 (w : World) : Calls Tryz.prog 163 #[.int .i32 15] w fun x w' => x = .returned (.string (strOfNums (escByte 15))) ∧ Keep (fun _ => False) w w' := by
 have hb : bits .and .i32 15 15 = 15 := by kernel_rfl
 go_enter Tryz.func163, Tryz.ntmps163
 go_wp2
 go_quiet (fail)
 go_wp2
 go_ret
 exact ⟨by kernel_rfl, (Keep.refl _ _).drewN _⟩
theorem escaped_16 (w : World) : Calls Tryz.prog 163 #[.int .i32 16] w fun x w' => x = .returned (.string (strOfNums (escByte 16))) ∧ Keep (fun _ => False) w w' := by
 have hb : bits .and .i32 16 15 = 0 := by kernel_rfl
 go_enter Tryz.func163, Tryz.ntmps163
 go_wp2
 go_quiet (fail)
 go_wp2
 go_ret
 exact ⟨by kernel_rfl, (Keep.refl _ _).drewN _⟩
theorem escaped_17 (w : World) : Calls Tryz.prog 163 #[.int .i32 17] w fun x w' => x = .returned (.string (strOfNums (escByte 17))) ∧ Keep (fun _ => False) w w' := by
 have hb : bits .and .i32 17 15 = 1 := by kernel_rfl
 go_enter Tryz.func163, Tryz.ntmps163
 go_wp2
 go_quiet (fail)
 go_wp2
 go_ret
 exact ⟨by kernel_rfl, (Keep.refl _ _).drewN _⟩
theorem escaped_18 (w : World) : Calls Tryz.prog 163 #[.int .i32 18] w fun x w' => x = .returned (.string (strOfNums (escByte 18))) ∧ Keep (fun _ => False) w w' := by
 have hb : bits .and .i32 18 15 = 2 := by kernel_rfl
 go_enter Tryz.func163, Tryz.ntmps163
 go_wp2
 go_quiet (fail)
 go_wp2
 go_ret
 exact ⟨by kernel_rfl, (Keep.refl _ _).drewN _⟩
theorem escaped_19 (w : World) : Calls Tryz.prog 163 #[.int .i32 19] w fun x w' => x = .returned (.string (strOfNums (escByte 19))) ∧ Keep (fun _ => False) w w' := by
 have hb : bits .and .i32 19 15 = 3 := by kernel_rfl
 go_enter Tryz.func163, Tryz.ntmps163
 go_wp2
 go_quiet (fail)
 go_wp2
 go_ret
 exact ⟨by kernel_rfl, (Keep.refl _ _).drewN _⟩
theorem escaped_20 (w : World) : Calls Tryz.prog 163 #[.int .i32 20] w fun x w' => x = .returned (.string (strOfNums (escByte 20))) ∧ Keep (fun _ => False) w w' := by
 have hb : bits .and .i32 20 15 = 4 := by kernel_rfl
 go_enter Tryz.func163, Tryz.ntmps163
 go_wp2
 go_quiet (fail)
 go_wp2
 go_ret
 exact ⟨by kernel_rfl, (Keep.refl _ _).drewN _⟩
theorem escaped_21 (w : World) : Calls Tryz.prog 163 #[.int .i32 21] w fun x w' => x = .returned (.string (strOfNums (escByte 21))) ∧ Keep (fun _ => False) w w' := by
 have hb : bits .and .i32 21 15 = 5 := by kernel_rfl
 go_enter Tryz.func163, Tryz.ntmps163
 go_wp2
 go_quiet (fail)
 go_wp2
 go_ret
 exact ⟨by kernel_rfl, (Keep.refl _ _).drewN _⟩
theorem escaped_22 (w : World) : Calls Tryz.prog 163 #[.int .i32 22] w fun x w' => x = .returned (.string (strOfNums (escByte 22))) ∧ Keep (fun _ => False) w w' := by
 have hb : bits .and .i32 22 15 = 6 := by kernel_rfl
 go_enter Tryz.func163, Tryz.ntmps163
 go_wp2
 go_quiet (fail)
 go_wp2
 go_ret
 exact ⟨by kernel_rfl, (Keep.refl _ _).drewN _⟩
theorem escaped_23 (w : World) : Calls Tryz.prog 163 #[.int .i32 23] w fun x w' => x = .returned (.string (strOfNums (escByte 23))) ∧ Keep (fun _ => False) w w' := by
 have hb : bits .and .i32 23 15 = 7 := by kernel_rfl
 go_enter Tryz.func163, Tryz.ntmps163
 go_wp2
 go_quiet (fail)
 go_wp2
 go_ret
 exact ⟨by kernel_rfl, (Keep.refl _ _).drewN _⟩
theorem escaped_24 (w : World) : Calls Tryz.prog 163 #[.int .i32 24] w fun x w' => x = .returned (.string (strOfNums (escByte 24))) ∧ Keep (fun _ => False) w w' := by
 have hb : bits .and .i32 24 15 = 8 := by kernel_rfl
 go_enter Tryz.func163, Tryz.ntmps163
 go_wp2
 go_quiet (fail)
 go_wp2
 go_ret
 exact ⟨by kernel_rfl, (Keep.refl _ _).drewN _⟩
theorem escaped_25 (w : World) : Calls Tryz.prog 163 #[.int .i32 25] w fun x w' => x = .returned (.string (strOfNums (escByte 25))) ∧ Keep (fun _ => False) w w' := by
 have hb : bits .and .i32 25 15 = 9 := by kernel_rfl
 go_enter Tryz.func163, Tryz.ntmps163
 go_wp2
 go_quiet (fail)
 go_wp2
 go_ret
 exact ⟨by kernel_rfl, (Keep.refl _ _).drewN _⟩
theorem escaped_26 (w : World) : Calls Tryz.prog 163 #[.int .i32 26] w fun x w' => x = .returned (.string (strOfNums (escByte 26))) ∧ Keep (fun _ => False) w w' := by
 have hb : bits .and .i32 26 15 = 10 := by kernel_rfl
 go_enter Tryz.func163, Tryz.ntmps163
 go_wp2
 go_quiet (fail)
 go_wp2
 go_ret
 exact ⟨by kernel_rfl, (Keep.refl _ _).drewN _⟩
theorem escaped_27 (w : World) : Calls Tryz.prog 163 #[.int .i32 27] w fun x w' => x = .returned (.string (strOfNums (escByte 27))) ∧ Keep (fun _ => False) w w' := by
 have hb : bits .and .i32 27 15 = 11 := by kernel_rfl
 go_enter Tryz.func163, Tryz.ntmps163
 go_wp2
 go_quiet (fail)
 go_wp2
 go_ret
 exact ⟨by kernel_rfl, (Keep.refl _ _).drewN _⟩
theorem escaped_28 (w : World) : Calls Tryz.prog 163 #[.int .i32 28] w fun x w' => x = .returned (.string (strOfNums (escByte 28))) ∧ Keep (fun _ => False) w w' := by
 have hb : bits .and .i32 28 15 = 12 := by kernel_rfl
 go_enter Tryz.func163, Tryz.ntmps163
 go_wp2
 go_quiet (fail)
 go_wp2
 go_ret
 exact ⟨by kernel_rfl, (Keep.refl _ _).drewN _⟩
theorem escaped_29 (w : World) : Calls Tryz.prog 163 #[.int .i32 29] w fun x w' => x = .returned (.string (strOfNums (escByte 29))) ∧ Keep (fun _ => False) w w' := by
 have hb : bits .and .i32 29 15 = 13 := by kernel_rfl
 go_enter Tryz.func163, Tryz.ntmps163
 go_wp2
 go_quiet (fail)
 go_wp2
 go_ret
 exact ⟨by kernel_rfl, (Keep.refl _ _).drewN _⟩
theorem escaped_30 (w : World) : Calls Tryz.prog 163 #[.int .i32 30] w fun x w' => x = .returned (.string (strOfNums (escByte 30))) ∧ Keep (fun _ => False) w w' := by
 have hb : bits .and .i32 30 15 = 14 := by kernel_rfl
 go_enter Tryz.func163, Tryz.ntmps163
 go_wp2
 go_quiet (fail)
 go_wp2
 go_ret
 exact ⟨by kernel_rfl, (Keep.refl _ _).drewN _⟩
theorem escaped_31 (w : World) : Calls Tryz.prog 163 #[.int .i32 31] w fun x w' => x = .returned (.string (strOfNums (escByte 31))) ∧ Keep (fun _ => False) w w' := by
 have hb : bits .and .i32 31 15 = 15 := by kernel_rfl
 go_enter Tryz.func163, Tryz.ntmps163
 go_wp2
 go_quiet (fail)
 go_wp2
 go_ret
 exact ⟨by kernel_rfl, (Keep.refl _ _).drewN _⟩
theorem escaped_34 (w : World) : Calls Tryz.prog 163 #[.int .i32 34] w fun x w' => x = .returned (.string (strOfNums (escByte 34))) ∧ Keep (fun _ => False) w w' := by
 go_enter Tryz.func163, Tryz.ntmps163
 go_wp2
 go_ret
 exact ⟨by kernel_rfl, Keep.refl _ _⟩
theorem escaped_92 (w : World) : Calls Tryz.prog 163 #[.int .i32 92] w fun x w' => x = .returned (.string (strOfNums (escByte 92))) ∧ Keep (fun _ => False) w w' := by
 go_enter Tryz.func163, Tryz.ntmps163
 go_wp2
 go_ret
 exact ⟨by kernel_rfl, Keep.refl _ _⟩
theorem escaped_8 (w : World) : Calls Tryz.prog 163 #[.int .i32 8] w fun x w' => x = .returned (.string (strOfNums (escByte 8))) ∧ Keep (fun _ => False) w w' := by
 go_enter Tryz.func163, Tryz.ntmps163
 go_wp2
 go_ret
 exact ⟨by kernel_rfl, Keep.refl _ _⟩
theorem escaped_9 (w : World) : Calls Tryz.prog 163 #[.int .i32 9] w fun x w' => x = .returned (.string (strOfNums (escByte 9))) ∧ Keep (fun _ => False) w w' := by
 go_enter Tryz.func163, Tryz.ntmps163
 go_wp2
 go_ret
 exact ⟨by kernel_rfl, Keep.refl _ _⟩
theorem escaped_10 (w : World) : Calls Tryz.prog 163 #[.int .i32 10] w fun x w' => x = .returned (.string (strOfNums (escByte 10))) ∧ Keep (fun _ => False) w w' := by
 go_enter Tryz.func163, Tryz.ntmps163
 go_wp2
 go_ret
 exact ⟨by kernel_rfl, Keep.refl _ _⟩
theorem escaped_12 (w : World) : Calls Tryz.prog 163 #[.int .i32 12] w fun x w' => x = .returned (.string (strOfNums (escByte 12))) ∧ Keep (fun _ => False) w w' := by
 go_enter Tryz.func163, Tryz.ntmps163
 go_wp2
 go_ret
 exact ⟨by kernel_rfl, Keep.refl _ _⟩
theorem escaped_13 (w : World) : Calls Tryz.prog 163 #[.int .i32 13] w fun x w' => x = .returned (.string (strOfNums (escByte 13))) ∧ Keep (fun _ => False) w w' := by
 go_enter Tryz.func163, Tryz.ntmps163
 go_wp2
 go_ret
 exact ⟨by kernel_rfl, Keep.refl _ _⟩
theorem encode_str (r : Nat) : Utf8.encode (r : Int) = strOfNums (Lib.encodeRuneZ (r : Int)) := by
 rw [← Go.Extern.FmtText.encode_eq]
 exact (str_ints _).symm
theorem escaped_big (l : Nat) (h : 32 ≤ l) (h1 : l ≤ 1114111) (h34 : l ≠ 34) (h92 : l ≠ 92) (w : World) : Calls Tryz.prog 163 #[.int .i32 l] w fun x w' => x = .returned (.string (strOfNums (Lib.encodeRuneZ l))) ∧ Keep (fun _ => False) w w' := by
 have g34 : (l : Int) ≠ 34 := by omega
 have g92 : (l : Int) ≠ 92 := by omega
 go_enter Tryz.func163, Tryz.ntmps163
 go_wp2
 go_ret
 exact ⟨ret_str (encode_str l), Keep.refl _ _⟩
theorem escaped_any (l : Nat) (h1 : l ≤ 1114111) (w : World) : Calls Tryz.prog 163 #[.int .i32 l] w fun x w' => x = .returned (.string (strOfNums (escRune l))) ∧ Keep (fun _ => False) w w' := by
 by_cases h : l < 32 ∨ l = 34 ∨ l = 92
 · have e : escRune (l : Int) = escByte l := by unfold escRune; rw [if_pos (by omega)]
   rw [e]
   have hc : l = 0 ∨ l = 1 ∨ l = 2 ∨ l = 3 ∨ l = 4 ∨ l = 5 ∨ l = 6 ∨ l = 7 ∨ l = 8 ∨ l = 9 ∨ l = 10 ∨ l = 11 ∨ l = 12 ∨ l = 13 ∨ l = 14 ∨ l = 15 ∨ l = 16 ∨ l = 17 ∨ l = 18 ∨ l = 19 ∨ l = 20 ∨ l = 21 ∨ l = 22 ∨ l = 23 ∨ l = 24 ∨ l = 25 ∨ l = 26 ∨ l = 27 ∨ l = 28 ∨ l = 29 ∨ l = 30 ∨ l = 31 ∨ l = 34 ∨ l = 92 := by omega
   rcases hc with rfl | rfl | rfl | rfl | rfl | rfl | rfl | rfl | rfl | rfl | rfl | rfl | rfl | rfl | rfl | rfl | rfl | rfl | rfl | rfl | rfl | rfl | rfl | rfl | rfl | rfl | rfl | rfl | rfl | rfl | rfl | rfl | rfl | rfl
   · exact escaped_0 w
   · exact escaped_1 w
   · exact escaped_2 w
   · exact escaped_3 w
   · exact escaped_4 w
   · exact escaped_5 w
   · exact escaped_6 w
   · exact escaped_7 w
   · exact escaped_8 w
   · exact escaped_9 w
   · exact escaped_10 w
   · exact escaped_11 w
   · exact escaped_12 w
   · exact escaped_13 w
   · exact escaped_14 w
   · exact escaped_15 w
   · exact escaped_16 w
   · exact escaped_17 w
   · exact escaped_18 w
   · exact escaped_19 w
   · exact escaped_20 w
   · exact escaped_21 w
   · exact escaped_22 w
   · exact escaped_23 w
   · exact escaped_24 w
   · exact escaped_25 w
   · exact escaped_26 w
   · exact escaped_27 w
   · exact escaped_28 w
   · exact escaped_29 w
   · exact escaped_30 w
   · exact escaped_31 w
   · exact escaped_34 w
   · exact escaped_92 w
 · have e : escRune (l : Int) = Lib.encodeRuneZ l := by
     unfold escRune
     split
     · rw [Lib.encodeRuneZ_one (by omega) (by omega)]
       unfold escByte
       rw [if_neg (by omega), if_neg (by omega), if_neg (by omega), if_neg (by omega), if_neg (by omega), if_neg (by omega), if_neg (by omega), if_neg (by omega)]
     · rfl
   rw [e]
   exact escaped_big l (by omega) h1 (by omega) (by omega) w
theorem drop_two {t : List Int} {p : Nat} (h : p + 1 < t.length) : (t.drop p).take 2 = [byteAt t p, byteAt t (p + 1)] := by
 unfold byteAt
 rw [List.drop_eq_getElem_cons (by omega), List.drop_eq_getElem_cons (i := p + 1) (by omega)]
 simp only [List.take_succ_cons, List.take_zero, Option.getD_some, List.getD_eq_getElem?_getD, List.getElem?_eq_getElem (show p < t.length by omega), List.getElem?_eq_getElem h]
theorem drop_three {t : List Int} {p : Nat} (h : p + 2 < t.length) : (t.drop p).take 3 = [byteAt t p, byteAt t (p + 1), byteAt t (p + 2)] := by
 unfold byteAt
 rw [List.drop_eq_getElem_cons (by omega), List.drop_eq_getElem_cons (i := p + 1) (by omega), List.drop_eq_getElem_cons (i := p + 1 + 1) (by omega)]
 simp only [List.take_succ_cons, List.take_zero, Option.getD_some, List.getD_eq_getElem?_getD, List.getElem?_eq_getElem (show p < t.length by omega), List.getElem?_eq_getElem (show p + 1 < t.length by omega), List.getElem?_eq_getElem h]
theorem drop_four {t : List Int} {p : Nat} (h : p + 3 < t.length) : (t.drop p).take 4 = [byteAt t p, byteAt t (p + 1), byteAt t (p + 2), byteAt t (p + 3)] := by
 unfold byteAt
 rw [List.drop_eq_getElem_cons (by omega), List.drop_eq_getElem_cons (i := p + 1) (by omega), List.drop_eq_getElem_cons (i := p + 1 + 1) (by omega), List.drop_eq_getElem_cons (i := p + 1 + 1 + 1) (by omega)]
 simp only [List.take_succ_cons, List.take_zero, Option.getD_some, List.getD_eq_getElem?_getD, List.getElem?_eq_getElem (show p < t.length by omega), List.getElem?_eq_getElem (show p + 1 < t.length by omega), List.getElem?_eq_getElem (show p + 2 < t.length by omega), List.getElem?_eq_getElem h]
theorem esc_high (l : List Int) (h : ∀ c ∈ l, 128 ≤ c) : l.flatMap escByte = l := by
 induction l with
 | nil => rfl
 | cons a r ih =>
  have ha := h a (List.mem_cons_self ..)
  rw [List.flatMap_cons, ih fun c hc => h c (List.mem_cons_of_mem _ hc)]
  have : escByte a = [a] := by
   unfold escByte
   rw [if_neg (by omega), if_neg (by omega), if_neg (by omega), if_neg (by omega), if_neg (by omega), if_neg (by omega), if_neg (by omega), if_neg (by omega)]
  rw [this]; rfl
theorem cont_lt {t : List Int} {i : Nat} (h : contAt t i = true) : i < t.length ∧ byteAt t i / 64 = 2 := by
 unfold contAt at h
 have h := of_decide_eq_true h
 exact ⟨byteAt_lt (fun e => by rw [e] at h; exact absurd h (by decide)), h⟩
theorem rune_esc {t : List Int} {p : Nat} {c : Int} {wd : Nat} (hb : ∀ i, 0 ≤ byteAt t i ∧ byteAt t i ≤ 255) (hp : p < t.length) (hr : runeAt t p = (c, wd)) (h0 : wd ≠ 0) :
    ((t.drop p).take wd).flatMap escByte = escRune c ∧ p + wd ≤ t.length ∧ 0 ≤ c ∧ c ≤ 1114111 := by
 have b0 := hb p
 have b1 := hb (p + 1)
 have b2 := hb (p + 2)
 have b3 := hb (p + 3)
 unfold runeAt at hr
 split at hr
 · rename_i h1
   obtain ⟨rfl, rfl⟩ := Prod.mk.inj hr
   refine ⟨?_, by omega, by omega, by omega⟩
   have e : (t.drop p).take 1 = [byteAt t p] := by
    unfold byteAt
    rw [List.drop_eq_getElem_cons hp]
    simp only [List.take_succ_cons, List.take_zero, Option.getD_some, List.getD_eq_getElem?_getD, List.getElem?_eq_getElem hp]
   rw [e]
   unfold escRune
   rw [if_pos h1]
   simp
 · split at hr
   · rename_i h1 h2
     simp only [Bool.and_eq_true, decide_eq_true_eq] at h2
     obtain ⟨l1, c1⟩ := cont_lt h2.2
     split at hr
     · rename_i h3
       obtain ⟨rfl, rfl⟩ := Prod.mk.inj hr
       refine ⟨?_, by omega, by omega, by omega⟩
       rw [drop_two l1, esc_high _ (by intro c hc; simp at hc; omega)]
       unfold escRune
       rw [if_neg (by omega), Lib.encodeRuneZ_two (by omega) (by omega)]
       simp only [List.cons.injEq, and_true]
       omega
     · obtain ⟨_, rfl⟩ := Prod.mk.inj hr
       exact absurd rfl h0
   · split at hr
     · rename_i h1 h2 h3
       simp only [Bool.and_eq_true, decide_eq_true_eq] at h3
       obtain ⟨l1, c1⟩ := cont_lt h3.1.2
       obtain ⟨l2, c2⟩ := cont_lt h3.2
       split at hr
       · rename_i h4
         simp only [letterOk, Bool.and_eq_true, Bool.or_eq_true, decide_eq_true_eq] at h4
         obtain ⟨rfl, rfl⟩ := Prod.mk.inj hr
         refine ⟨?_, by omega, by omega, by omega⟩
         rw [drop_three l2, esc_high _ (by intro c hc; simp at hc; omega)]
         unfold escRune
         rw [if_neg (by omega), Lib.encodeRuneZ_three (by omega)]
         simp only [List.cons.injEq, and_true]
         omega
       · obtain ⟨_, rfl⟩ := Prod.mk.inj hr
         exact absurd rfl h0
     · split at hr
       · rename_i h1 h2 h3 h4
         simp only [Bool.and_eq_true, decide_eq_true_eq] at h4
         obtain ⟨l1, c1⟩ := cont_lt h4.1.1.2
         obtain ⟨l2, c2⟩ := cont_lt h4.1.2
         obtain ⟨l3, c3⟩ := cont_lt h4.2
         split at hr
         · rename_i h5
           simp only [letterOk, Bool.and_eq_true, Bool.or_eq_true, decide_eq_true_eq] at h5
           obtain ⟨rfl, rfl⟩ := Prod.mk.inj hr
           refine ⟨?_, by omega, by omega, by omega⟩
           rw [drop_four l3, esc_high _ (by intro c hc; simp at hc; omega)]
           unfold escRune
           rw [if_neg (by omega), Lib.encodeRuneZ_four (by omega) (by omega)]
           simp only [List.cons.injEq, and_true]
           omega
         · obtain ⟨_, rfl⟩ := Prod.mk.inj hr
           exact absurd rfl h0
       · obtain ⟨_, rfl⟩ := Prod.mk.inj hr
         exact absurd rfl h0
theorem escByte_bd {c : Int} (h : 0 ≤ c ∧ c ≤ 255) : (∀ x ∈ escByte c, 0 ≤ x ∧ x ≤ 255) ∧ (escByte c).length ≤ 6 := by
 unfold escByte hexd
 repeat' split
 all_goals
  refine ⟨fun x hx => ?_, by simp⟩
  simp at hx
  omega
theorem escRune_bd {c : Int} (h0 : 0 ≤ c) : (∀ x ∈ escRune c, 0 ≤ x ∧ x ≤ 255) ∧ (escRune c).length ≤ 6 := by
 unfold escRune
 split
 · exact escByte_bd ⟨h0, by omega⟩
 · exact ⟨fun x hx => by have := Lib.encodeRuneZ_byte c x hx; omega, by have := (Lib.encodeRuneZ_length c).2; omega⟩
theorem NB.iterAt {B K : Nat} {w wr : World} (h : NB B K w wr) {k : Nat} (hk : w.heap.size ≤ k) (s : ByteArray) (p : Nat) : NB B K w (wr.iterAt k s p) :=
 ⟨h.os, h.tape, h.output, by rw [Lib.iterAt_size]; exact h.size, fun j hj hn hs => by rw [Lib.iterAt_other _ _ _ _ _ (by omega)]; exact h.block j hj hn hs⟩
theorem Wtr.iterAt {w : World} {B K k : Nat} {out : List Int} {s s' : ByteArray} {p p' : Nat} (h : Wtr w B K out) (hk : w.heap[k]? = some (.stringIter s p)) (hB : B ≤ k) : Wtr (w.iterAt k s' p') B K out := by
 obtain ⟨v, h1, h2⟩ := h.row
 have hlt := h.lt
 refine ⟨⟨v, by rw [Lib.iterAt_other _ _ _ _ _ (by omega)]; exact h1, h2.1, ?_⟩, hlt, by rw [Lib.iterAt_size]; exact h.size⟩
 rcases h2.2 with hn | ⟨g, cap, cur, rfl, hg, hgg, rest⟩
 · exact .inl hn
 · refine .inr ⟨g, cap, cur, rfl, hg, ?_, rest⟩
   rw [Lib.iterAt_other _ _ _ _ _ (fun e => by rw [e, hk] at hgg; cases hgg)]
   exact hgg
theorem iter_stays {B K k : Nat} {w w' : World} {s : ByteArray} {p : Nat} (h : NB B K w w') (hk : w.heap[k]? = some (.stringIter s p)) (hK : k ≠ K) : w'.heap[k]? = some (.stringIter s p) := by
 rw [h.block k (Array.getElem?_eq_some_iff.1 hk).1 hK (.inr fun cur fr e => by rw [hk] at e; cases e)]
 exact hk
theorem iterPos_of {w : World} {k : Nat} {s : ByteArray} {p : Nat} (h : w.heap[k]? = some (.stringIter s p)) : w.iterPos k = p := by simp [World.iterPos, h]
theorem Wtr.keepF {w w' : World} {B K : Nat} {out : List Int} (h : Wtr w B K out) (hk : Keep (fun _ => False) w w') : Wtr w' B K out := by
 obtain ⟨v, h1, h2⟩ := h.row
 have := h.lt
 have := h.size
 have := hk.size
 exact ⟨⟨v, (hk.block K (by omega) fun h => h).trans h1, own_keep h2 hk fun _ _ h => h⟩, h.lt, by omega⟩
theorem take_more {t : List Int} {pos wd : Nat} : t.take (pos + wd) = t.take pos ++ (t.drop pos).take wd := List.take_add
theorem text_any {w : World} {B K : Nat} {out : List Int} (hw : Wtr w B K out) (ho : out.length ≤ 20000) (s : ByteArray) (hl : stray (ints s) = none) :
    Calls Tryz.prog 139 #[.pointer (some ⟨K, 0, none⟩), .string s] w fun x w' => putTold w w' B K out (quote (ints s)) x := by
 have hq := put_any hw ho ⟨#[34]⟩ (by decide)
 have HKB : Hid (K < B ∧ B ≤ w.heap.size) := ⟨hw.lt, hw.size⟩
 go_enter Tryz.func139, Tryz.ntmps139
 go_wp2_with (go_at_call 136; refine hq.mono ?_; rintro x w1 ⟨rfl, ⟨out1, hp1, ho1, hw1⟩, hn1⟩)
 go_loopw [5] (fun _ wr => ∃ (pos m : Nat) (out' : List Int), wr.heap[w1.heap.size]? = some (.stringIter s pos) ∧ pos ≤ s.size ∧ s.size ≤ pos + m ∧ strayL (ints s) m pos = none ∧ Put out (34 :: ((ints s).take pos).flatMap escByte) out' ∧ out'.length ≤ 20000 ∧ Wtr wr B K out' ∧ NB B K w wr) (fun _ wr => s.size - wr.iterPos w1.heap.size)
 case atStart => exact ⟨0, s.size, out1, World.iter_heap w1 s 0, Nat.zero_le _, by omega, by unfold stray at hl; rw [ints_length] at hl; exact hl, hp1, ho1, hw1.alloc _, hn1.alloc _⟩
 case round =>
  obtain ⟨pos, m, out2, hit, hps, hpm, hst, hput, ho2, hw2, hn2⟩ := hrel
  have HN : Hid (w.heap.size ≤ w1.heap.size) := hn1.size
  clear hq hw hp1 ho1 hw1 hn1 hl
  have hpos0 := iterPos_of hit
  have hKB := HKB.out
  have hNN := HN.out
  by_cases hp : pos < s.size
  · have hnx : ∀ ty, (Instr.next (.pointer (some ⟨w1.heap.size, 0, none⟩)) true ty).run Tryz.prog wr = _ := fun ty => Lib.run_next_any_at wr w1.heap.size s pos ty hit hp
    obtain ⟨m, rfl⟩ : ∃ m', m = m' + 1 := ⟨m - 1, by omega⟩
    unfold strayL at hst
    rw [ints_length, if_pos hp] at hst
    have hdec := decode_rune s pos
    obtain ⟨⟨c, wd⟩, hr⟩ : ∃ r, runeAt (ints s) pos = r := ⟨_, rfl⟩
    rw [hr] at hst hdec
    have h0 : wd ≠ 0 := fun e => by simp only [e, if_true] at hst; cases hst
    simp only [if_neg h0] at hst hdec
    obtain ⟨he, hle, hc0, hc1⟩ := rune_esc (byte_bd s) (by rw [ints_length]; exact hp) hr h0
    rw [ints_length] at hle
    obtain ⟨c, rfl⟩ : ∃ n : Nat, c = n := ⟨c.toNat, by omega⟩
    rw [show ((c : Int).toNat) = c by simp] at hdec
    rw [hdec] at hnx
    have hit2 := Lib.iterAt_heap wr w1.heap.size s pos (pos + wd) hit
    have hn3 := hn2.iterAt hNN s (pos + wd)
    have hw3 := hw2.iterAt (s' := s) (p' := pos + wd) hit (by omega)
    obtain ⟨W1, hW1⟩ : ∃ W1, W1 = wr.iterAt w1.heap.size s (pos + wd) := ⟨_, rfl⟩
    simp only at hnx
    rw [← hW1] at hnx hit2 hn3 hw3
    have hes := escaped_any c (by omega) W1
    obtain ⟨hbd, hbl⟩ := escRune_bd hc0
    obtain ⟨u, hu⟩ : ∃ u, strOfNums (escRune (c : Int)) = u := ⟨_, rfl⟩
    have HU : Hid (ints u = escRune (c : Int)) := by show ints u = _; rw [← hu]; exact ints_str _ hbd
    have hus : u.size ≤ 100 := by rw [← hu, str_size]; omega
    rw [hu] at hes
    have HST : Hid (strayL (ints s) m (pos + wd) = none) := hst
    clear hW1 hit hu hdec hst hbd hbl
    go_wp2_with (first
     | (go_at_call 163; refine hes.mono ?_; rintro x w4 ⟨rfl, hk4⟩
        have hw4 := hw3.keepF hk4
        have hit4 := (hk4.block _ (Array.getElem?_eq_some_iff.1 hit2).1 (fun h => h)).trans hit2
        have hpt := put_any hw4 ho2 u hus)
     | (go_at_call 136; refine hpt.mono ?_; rintro x w5 ⟨rfl, ⟨out5, hp5, ho5, hw5⟩, hn5⟩))
    have hit5 := iter_stays hn5 hit4 (by omega)
    have hpos5 := iterPos_of hit5
    go_roundw
    case rel =>
     refine ⟨pos + wd, m, out5, hit5, hle, by omega, HST.out, ?_, ho5, hw5, (hn3.trans (NB.keep (hk4.mono fun _ _ h => h.elim))).trans hn5⟩
     have := hput.trans hp5
     rw [HU.out, ← he] at this
     rw [take_more, List.flatMap_append]
     exact this
    case measure => rw [hpos5, hpos0]; omega
  · have hnx : ∀ ty, (Instr.next (.pointer (some ⟨w1.heap.size, 0, none⟩)) true ty).run Tryz.prog wr = _ := fun ty => Lib.run_next_end_at wr w1.heap.size s pos ty hit hp
    have hq2 := put_any hw2 ho2 ⟨#[34]⟩ (by decide)
    go_wp2_with (go_at_call 136; refine hq2.mono ?_; rintro x w3 ⟨rfl, ⟨out3, hp3, ho3, hw3⟩, hn3⟩)
    go_end0
    refine ⟨rfl, ⟨out3, ?_, ho3, hw3⟩, hn2.trans hn3⟩
    have := hput.trans hp3
    rw [List.take_of_length_le (by rw [ints_length]; omega)] at this
    exact this
theorem encL_snoc (j : J) : ∀ (l : List J) (b : Bool), encL b (l ++ [j]) = encL b l ++ ((if l.length = 0 ∧ b = true then [] else [44]) ++ enc' j)
 | [], b => by
  rw [List.nil_append, encL_cons]
  cases b <;> simp [encL]
 | i :: r, b => by
  rw [List.cons_append, encL_cons, encL_cons, encL_snoc j r false]
  simp
theorem encP_snoc (j : J) : ∀ (l : List J) (ks : List ByteArray) (b : Bool), encP b ks (l ++ [j]) = encP b ks l ++ ((if l.length = 0 ∧ b = true then [] else [44]) ++ (quote (ints (ks.getD l.length nix)) ++ (58 :: enc' j)))
 | [], ks, b => by
  rw [List.nil_append, encP_cons]
  cases b <;> cases ks <;> simp [encP]
 | i :: r, ks, b => by
  rw [List.cons_append, encP_cons, encP_cons, encP_snoc j r ks.tail false]
  cases ks <;> simp
abbrev Tab (K : Nat) (w : World) : Prop := Lib.TabBelow Tryz.prog K w "internal/strconv.uint64pow10" .u64 Lib.pow10Tab
theorem tab_nb {B K : Nat} {w w' : World} (h : Tab K w) (n : NB B K w w') (hK : K ≤ B) (hB : K ≤ w.heap.size) : Tab K w' := fun w2 h2 => h w2 ((n.below hK hB).trans h2)
def wideJ : Nat → J → Bool
 | 0, _ => true
 | d + 1, .mk _ _ _ _ l => decide (l.length ≤ 100000) && l.all (wideJ d)
def fitJ (d : Nat) (j : J) : Bool := goodJ d j && wideJ d j
def Writes (d : Nat) : Prop := ∀ (w : World) (B K : Nat) (out : List Int) (O : Nat → Prop) (j : J) (k i : Int) (t : ByteArray) (pk pl : Option Addr) (nk ck nl cl : Nat), Wtr w B K out → out.length ≤ 20000 → (∀ x, O x → x < B ∧ x ≠ K) → Tab K w →
 fitJ d j = true → isJ O w j [.int .i64 k, .int .i64 i, .string t, .slice pk nk ck, .slice pl nl cl] →
 Calls Tryz.prog 111 #[.pointer (some ⟨K, 0, none⟩), .agg #[.int .i64 k, .int .i64 i, .string t, .slice pk nk ck, .slice pl nl cl]] w fun x w' => putTold w w' B K out (enc' j) x
theorem isJ_shape {O : Nat → Prop} {w : World} {j : J} {cs : List Value} (h : isJ O w j cs) : ∃ k i t pk nk ck pl nl cl, cs = [.int .i64 k, .int .i64 i, .string t, .slice pk nk ck, .slice pl nl cl] := by
 cases j
 unfold isJ at h
 obtain ⟨pk, ck, pl, cl, e, _⟩ := h
 exact ⟨_, _, _, _, _, _, _, _, _, e⟩
theorem nb_blocks {B K : Nat} {w w' : World} {O : Nat → Prop} (n : NB B K w w') (hB : B ≤ w.heap.size) (hO : ∀ x, O x → x < B ∧ x ≠ K) : ∀ x, O x → O x ∧ w'.heap[x]? = w.heap[x]? :=
 fun x hx => ⟨hx, n.block x (by have := (hO x hx).1; omega) (hO x hx).2 (.inl (hO x hx).1)⟩
theorem take_snoc {l : List J} {k : Nat} (h : k < l.length) : l.take (k + 1) = l.take k ++ [l.getD k J.zero] := by
 rw [List.take_add_one, List.getElem?_eq_getElem h, List.getD_eq_getElem?_getD, List.getElem?_eq_getElem h]
 rfl
theorem json_stays {B K : Nat} {wr w3 : World} {cs : Array Value} (n : NB B K (wr.alloc (.cells cs 25)) w3) (hK : K < wr.heap.size) : w3.heap[wr.heap.size]? = some (.cells cs 25 (0, 0)) := by
 have h := heap_alloc_new wr (.cells cs 25)
 rw [n.block wr.heap.size (by simp) (by omega) (.inr fun cur fr e => by rw [h] at e; injection e with e; injection e with _ e2 _; exact absurd e2 (by decide))]
 exact h
theorem list_w {d : Nat} (V : Writes d) {w : World} {B K : Nat} {out : List Int} {O : Nat → Prop} {l : List J} {pl : Option Addr} {cl : Nat} (hw : Wtr w B K out) (ho : out.length ≤ 20000) (hO : ∀ x, O x → x < B ∧ x ≠ K) (hT : Tab K w)
    (hg : l.all (fitJ d) = true) (hj : isJs O w pl 0 l) (hc : l.length ≤ cl) (hlen : l.length ≤ 1000000) :
    Calls Tryz.prog 140 #[.pointer (some ⟨K, 0, none⟩), .slice pl l.length cl] w fun x w' => putTold w w' B K out (91 :: (encL true l ++ [93])) x := by
 have hq := put_any hw ho ⟨#[91]⟩ (by decide)
 have HKB : Hid (K < B ∧ B ≤ w.heap.size) := ⟨hw.lt, hw.size⟩
 obtain ⟨n, hn⟩ : ∃ n, l.length = n := ⟨_, rfl⟩
 have HN : Hid (l.length = n) := hn
 rw [hn] at hc hlen ⊢
 clear hn
 go_enter Tryz.func140, Tryz.ntmps140
 go_wp2_with (go_at_call 136; refine hq.mono ?_; rintro x w1 ⟨rfl, ⟨out1, hp1, ho1, hw1⟩, hn1⟩)
 go_loopw [10] (fun i wr => ∃ (k : Nat) (out' : List Int), i = .int .i64 k ∧ k ≤ n ∧ Put out (91 :: encL true (l.take k)) out' ∧ out'.length ≤ 20000 ∧ Wtr wr B K out' ∧ NB B K w wr) (fun i _ => n - (intOf i).toNat)
 case atStart => exact ⟨0, out1, rfl, Nat.zero_le _, by rw [List.take_zero]; exact hp1, ho1, hw1, hn1⟩
 case round =>
  clear hp1 ho1 hw1 hn1 hq
  obtain ⟨k, out2, rfl, hk, hp2, ho2, hw2, hn2⟩ := hrel
  have hKB := HKB.out
  by_cases hkl : k < n
  · have hkl' : k < l.length := by rw [HN.out]; exact hkl
    obtain ⟨lb, lo, cs, hpl, hOb, hcells, hyj⟩ := isJs.at l 0 k hj hkl'
    subst hpl
    obtain ⟨kv, iv, tv, pv, nv, cv, qv, mv, dv, rfl⟩ := isJ_shape hyj
    have hblk := (nb_blocks hn2 hKB.2 hO lb hOb).2
    have cc : ∀ m v, [Value.int .i64 kv, .int .i64 iv, .string tv, .slice pv nv cv, .slice qv mv dv][m]? = some v → wr.cell? ⟨lb, lo + k * 5 + m, none⟩ = some v := fun m v h => by
     have := hcells m v h
     rw [Nat.zero_add] at this
     exact (World.cell?_of_block (a := ⟨lb, lo + k * 5 + m, none⟩) hblk).trans this
    have y0 : wr.cell? ⟨lb, lo + k * 5, none⟩ = some (.int .i64 kv) := cc 0 _ rfl
    have y1 := cc 1 _ rfl
    have y2 := cc 2 _ rfl
    have y3 := cc 3 _ rfl
    have y4 := cc 4 _ rfl
    clear cc hcells
    have hkc : (k : Int) < (n : Int) := by omega
    have hm := comma_any (hw2.alloc (.cells #[.int .i64 kv, .int .i64 iv, .string tv, .slice pv nv cv, .slice qv mv dv] 25)) ho2 k (by omega)
    have HG : Hid (fitJ d (l.getD k J.zero) = true) := by
     have := List.all_eq_true.1 hg (l.getD k J.zero) (by rw [List.getD_eq_getElem?_getD, List.getElem?_eq_getElem hkl']; exact List.getElem_mem hkl')
     exact this
    go_wp2_with (first
     | (go_at_call 164; refine hm.mono ?_; rintro x w3 ⟨rfl, ⟨out3, hp3, ho3, hw3⟩, hn3⟩
        have hvb := json_stays hn3 (by have := hn2.size; omega)
        have j0 := five_c0 hvb; have j1 := five_c1 hvb; have j2 := five_c2 hvb; have j3 := five_c3 hvb; have j4 := five_c4 hvb
        have hnA := (hn2.alloc (.cells #[.int .i64 kv, .int .i64 iv, .string tv, .slice pv nv cv, .slice qv mv dv] 25)).trans hn3
        have hV := V w3 B K out3 O _ kv iv tv pv qv nv cv mv dv hw3 ho3 hO (tab_nb hT hnA (by omega) (by omega)) HG.out (hyj.carry (nb_blocks hnA hKB.2 hO)))
     | (go_at_call 111; refine hV.mono ?_; rintro x w4 ⟨rfl, ⟨out4, hp4, ho4, hw4⟩, hn4⟩))
    go_roundw
    case rel =>
     refine ⟨k + 1, out4, by go_num, hkl, ?_, ho4, hw4, hnA.trans hn4⟩
     have := (hp2.trans hp3).trans hp4
     rw [take_snoc hkl', encL_snoc, List.length_take, Nat.min_eq_left (by omega)]
     simp only [and_true]
     simpa using this
    case measure => simp [intOf]; omega
  · obtain rfl : k = n := by omega
    have hq2 := put_any hw2 ho2 ⟨#[93]⟩ (by decide)
    go_wp2_with (go_at_call 136; refine hq2.mono ?_; rintro x w3 ⟨rfl, ⟨out3, hp3, ho3, hw3⟩, hn3⟩)
    go_end0
    refine ⟨rfl, ⟨out3, ?_, ho3, hw3⟩, hn2.trans hn3⟩
    have := hp2.trans hp3
    rw [List.take_of_length_le (by rw [HN.out]; omega)] at this
    exact this
theorem pairs_w {d : Nat} (V : Writes d) {w : World} {B K : Nat} {out : List Int} {O : Nat → Prop} {ks : List ByteArray} {l : List J} {pk pl : Option Addr} {ck cl : Nat} (hw : Wtr w B K out) (ho : out.length ≤ 20000) (hO : ∀ x, O x → x < B ∧ x ≠ K) (hT : Tab K w)
    (hg : l.all (fitJ d) = true) (hls : ks.all letters = true) (hkn : ks.length = l.length) (hrk : RdK O w pk ck ks) (hj : isJs O w pl 0 l) (hc : l.length ≤ cl) (hlen : l.length ≤ 1000000) :
    Calls Tryz.prog 141 #[.pointer (some ⟨K, 0, none⟩), .slice pk ks.length ck, .slice pl l.length cl] w fun x w' => putTold w w' B K out (123 :: (encP true ks l ++ [125])) x := by
 have hq := put_any hw ho ⟨#[123]⟩ (by decide)
 have HKB : Hid (K < B ∧ B ≤ w.heap.size) := ⟨hw.lt, hw.size⟩
 obtain ⟨n, hn⟩ : ∃ n, l.length = n := ⟨_, rfl⟩
 have HN : Hid (l.length = n) := hn
 have HKN : Hid (ks.length = n) := hkn.trans hn
 rw [hkn.trans hn]
 rw [hn] at hc hlen ⊢
 clear hn hkn
 go_enter Tryz.func141, Tryz.ntmps141
 go_wp2_with (go_at_call 136; refine hq.mono ?_; rintro x w1 ⟨rfl, ⟨out1, hp1, ho1, hw1⟩, hn1⟩)
 go_loopw [12] (fun i wr => ∃ (k : Nat) (out' : List Int), i = .int .i64 k ∧ k ≤ n ∧ Put out (123 :: encP true ks (l.take k)) out' ∧ out'.length ≤ 20000 ∧ Wtr wr B K out' ∧ NB B K w wr) (fun i _ => n - (intOf i).toNat)
 case atStart => exact ⟨0, out1, rfl, Nat.zero_le _, by rw [List.take_zero]; exact hp1, ho1, hw1, hn1⟩
 case round =>
  clear hp1 ho1 hw1 hn1 hq
  obtain ⟨k, out2, rfl, hk, hp2, ho2, hw2, hn2⟩ := hrel
  have hKB := HKB.out
  by_cases hkl : k < n
  · have hkl' : k < l.length := by rw [HN.out]; exact hkl
    obtain ⟨lb, lo, cs, hpl, hOb, hcells, hyj⟩ := isJs.at l 0 k hj hkl'
    subst hpl
    obtain ⟨kv, iv, tv, pv, nv, cv, qv, mv, dv, rfl⟩ := isJ_shape hyj
    have hblk := (nb_blocks hn2 hKB.2 hO lb hOb).2
    have cc : ∀ m v, [Value.int .i64 kv, .int .i64 iv, .string tv, .slice pv nv cv, .slice qv mv dv][m]? = some v → wr.cell? ⟨lb, lo + k * 5 + m, none⟩ = some v := fun m v h => by
     have := hcells m v h
     rw [Nat.zero_add] at this
     exact (World.cell?_of_block (a := ⟨lb, lo + k * 5 + m, none⟩) hblk).trans this
    have y0 : wr.cell? ⟨lb, lo + k * 5, none⟩ = some (.int .i64 kv) := cc 0 _ rfl
    have y1 := cc 1 _ rfl
    have y2 := cc 2 _ rfl
    have y3 := cc 3 _ rfl
    have y4 := cc 4 _ rfl
    clear cc hcells
    obtain ⟨ad, hpk, hOa, hkey⟩ := hrk.2 k (by rw [HKN.out]; exact hkl)
    subst hpk
    obtain ⟨key, hkeyE⟩ : ∃ key, ks.getD k nix = key := ⟨_, rfl⟩
    rw [hkeyE] at hkey
    have HKE : Hid (ks.getD k nix = key) := hkeyE
    have hstr : stray (ints key) = none := by
     have hm := List.all_eq_true.1 hls (ks.getD k nix) (by rw [List.getD_eq_getElem?_getD, List.getElem?_eq_getElem (by rw [HKN.out]; exact hkl)]; exact List.getElem_mem _)
     rw [hkeyE] at hm
     unfold letters at hm
     exact Option.isNone_iff_eq_none.1 hm
    clear hkeyE
    have hck : n ≤ ck := by have := hrk.1; rw [HKN.out] at this; exact this
    have hkc : (k : Int) < (n : Int) := by omega
    have hm := comma_any (hw2.alloc (.cells #[.int .i64 kv, .int .i64 iv, .string tv, .slice pv nv cv, .slice qv mv dv] 25)) ho2 k (by omega)
    have HG : Hid (fitJ d (l.getD k J.zero) = true) := by
     have := List.all_eq_true.1 hg (l.getD k J.zero) (by rw [List.getD_eq_getElem?_getD, List.getElem?_eq_getElem hkl']; exact List.getElem_mem hkl')
     exact this
    go_wp2_with (first
     | (go_at_call 164; refine hm.mono ?_; rintro x w3 ⟨rfl, ⟨out3, hp3, ho3, hw3⟩, hn3⟩
        have hnA := (hn2.alloc (.cells #[.int .i64 kv, .int .i64 iv, .string tv, .slice pv nv cv, .slice qv mv dv] 25)).trans hn3
        have hkey3 : w3.cell? (ad.add k) = some (.string key) := (World.cell?_of_block (by rw [add_block]; exact (nb_blocks hnA hKB.2 hO ad.block hOa).2)).trans hkey
        have hx := text_any hw3 ho3 key hstr)
     | (go_at_call 139; refine hx.mono ?_; rintro x w5 ⟨rfl, ⟨out5, hp5, ho5, hw5⟩, hn5⟩
        have hq5 := put_any hw5 ho5 ⟨#[58]⟩ (by decide))
     | (go_at_call 136; refine hq5.mono ?_; rintro x w6 ⟨rfl, ⟨out6, hp6, ho6, hw6⟩, hn6⟩
        have hvb6 := json_stays ((hn3.trans hn5).trans hn6) (by have := hn2.size; omega)
        have j0 := five_c0 hvb6; have j1 := five_c1 hvb6; have j2 := five_c2 hvb6; have j3 := five_c3 hvb6; have j4 := five_c4 hvb6
        have hnB := (hnA.trans hn5).trans hn6
        have hV := V w6 B K out6 O _ kv iv tv pv qv nv cv mv dv hw6 ho6 hO (tab_nb hT hnB (by omega) (by omega)) HG.out (hyj.carry (nb_blocks hnB hKB.2 hO)))
     | (go_at_call 111; refine hV.mono ?_; rintro x w4 ⟨rfl, ⟨out4, hp4, ho4, hw4⟩, hn4⟩))
    go_roundw
    case rel =>
     refine ⟨k + 1, out4, by go_num, hkl, ?_, ho4, hw4, hnB.trans hn4⟩
     have := (((hp2.trans hp3).trans hp5).trans hp6).trans hp4
     rw [take_snoc hkl', encP_snoc, List.length_take, Nat.min_eq_left (by omega)]
     rw [HKE.out]
     have e58 : ints ⟨#[58]⟩ = [58] := rfl
     rw [e58] at this
     simpa using this
    case measure => simp [intOf]; omega
  · obtain rfl : k = n := by omega
    have hq2 := put_any hw2 ho2 ⟨#[125]⟩ (by decide)
    go_wp2_with (go_at_call 136; refine hq2.mono ?_; rintro x w3 ⟨rfl, ⟨out3, hp3, ho3, hw3⟩, hn3⟩)
    go_end0
    refine ⟨rfl, ⟨out3, ?_, ho3, hw3⟩, hn2.trans hn3⟩
    have := hp2.trans hp3
    rw [List.take_of_length_le (by rw [HN.out]; omega)] at this
    exact this
end Go.Proofs.YtldegjjaknelgaaGreatDoor

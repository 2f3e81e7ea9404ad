/-
  The reader's small steps, by contracts.
  The reader's steps over signs, blanks and words, by contracts.
  Letters written as digits of radix 16, by contracts.
  Escapes, words, digits and numbers, by contracts.
  Rows of bytes of the call's own: one byte more, and as a text.
  A number read, as a value of JSON: by a contract.
  A region that draws its order: what only reads, in every world of a class that the region does not leave, may be taken first.
  Two operations of a drawn region that may come up in either order; an append inside one.
-/
import Derived.Test.YtnmhpejnjaeecaaGreatDoorM1
import Derived.Test.YtnmhpejnjaeecaaGreatDoorRows
import Derived.Laws.AppendOwnNone
import Derived.Orders
import Derived.Tactics2
import Derived.WalkKit
import Derived.Maps.AppendAt
namespace Go.Proofs.YtnmhpejnjaeecaaGreatDoor
open Go.RowKit

/-- The block R alone. -/
def One (R : Nat) : Nat → Prop := fun k => k = R
/-- Block R is a reader of the text s, at p. -/
def Rdr (w : World) (R : Nat) (s : ByteArray) (p : Nat) (e l : Int) : Prop := w.heap[R]? = some (.cells #[.string s, .int .i64 p, .int .i64 e, .int .i64 l] 56 (0, 0))
section
variable {w w' : World} {R p : Nat} {s : ByteArray} {e l : Int}
theorem Rdr.c0 (h : Rdr w R s p e l) : w.cell? ⟨R, 0, none⟩ = some (.string s) := cell_row (cur := [_, _, _, _]) h 0 _ rfl
theorem Rdr.c1 (h : Rdr w R s p e l) : w.cell? ⟨R, 1, none⟩ = some (.int .i64 p) := cell_row (cur := [_, _, _, _]) h 1 _ rfl
theorem Rdr.c2 (h : Rdr w R s p e l) : w.cell? ⟨R, 2, none⟩ = some (.int .i64 e) := cell_row (cur := [_, _, _, _]) h 2 _ rfl
theorem Rdr.c3 (h : Rdr w R s p e l) : w.cell? ⟨R, 3, none⟩ = some (.int .i64 l) := cell_row (cur := [_, _, _, _]) h 3 _ rfl
theorem Rdr.fz (h : Rdr w R s p e l) (j : Nat) : w.frozen? ⟨R, j, none⟩ = false := frozen_of_row w R j _ _ h
theorem Rdr.lt (h : Rdr w R s p e l) : R < w.heap.size := (Array.getElem?_eq_some_iff.1 h).1
theorem Rdr.keep {S : Nat → Prop} (h : Rdr w R s p e l) (hk : Keep S w w') (hS : ¬ S R) : Rdr w' R s p e l := (hk.block R h.lt hS).trans h
theorem Rdr.at (h : Rdr w R s p e l) (q : Nat) : Rdr (w.setCell ⟨R, 1, none⟩ (.int .i64 q)) R s q e l := by
  unfold Rdr at h ⊢
  rw [heap_setCell_same w R 1 _ _ _ h]; rfl
theorem Rdr.setAt (w : World) (R q : Nat) : Keep (One R) w (w.setCell ⟨R, 1, none⟩ (.int .i64 q)) := Keep.setCell (Keep.refl _ _) (fun _ => (rfl : R = R)) _
theorem Rdr.bad (h : Rdr w R s p e l) (e' l' : Int) : Rdr ((w.setCell ⟨R, 2, none⟩ (.int .i64 e')).setCell ⟨R, 3, none⟩ (.int .i64 l')) R s p e' l' := by
  unfold Rdr at h ⊢
  have h1 : (w.setCell ⟨R, 2, none⟩ (.int .i64 e')).heap[R]? = some (.cells #[.string s, .int .i64 p, .int .i64 e', .int .i64 l] 56 (0, 0)) := by
    rw [heap_setCell_same w R 2 _ _ _ h]; rfl
  rw [heap_setCell_same _ R 3 _ _ _ h1]; rfl
theorem Rdr.setBad (w : World) (R : Nat) (e' l' : Int) : Keep (One R) w ((w.setCell ⟨R, 2, none⟩ (.int .i64 e')).setCell ⟨R, 3, none⟩ (.int .i64 l')) :=
  Keep.setCell (Keep.setCell (Keep.refl _ _) (fun _ => (rfl : R = R)) _) (fun _ => (rfl : R = R)) _
end
/-- A text of JSON that is no longer than may be. -/
def short (s : ByteArray) : Prop := s.size ≤ 16384
theorem byte_in (s : ByteArray) (i : Nat) (h : i < s.size) : byteAt (ints s) i = (s[i].toNat : Int) := ints_getD s i h

set_option maxHeartbeats 400000 in
theorem byteAt_any {w : World} {R p : Nat} {s : ByteArray} {e l : Int} (hr : Rdr w R s p e l) (i : Nat) :
    Calls Tryz.prog 74 #[.pointer (some ⟨R, 0, none⟩), .int .i64 i] w fun x w' => x = .returned (.int .u8 (byteAt (ints s) i)) ∧ w = w' := by
  have c0 := hr.c0
  by_cases h : i < s.size
  · have HB : Hid (byteAt (ints s) i = (s[i].toNat : Int)) := byte_in s i h
    go_enter Tryz.func74, Tryz.ntmps74
    go_wp2
    go_ret
    exact ⟨ret_int HB.out.symm, rfl⟩
  · have HB : Hid (byteAt (ints s) i = 0) := byte_past s i (by omega)
    go_enter Tryz.func74, Tryz.ntmps74
    go_wp2
    go_ret
    exact ⟨ret_int HB.out.symm, rfl⟩
set_option maxHeartbeats 400000 in
theorem peek_any {w : World} {R p : Nat} {s : ByteArray} {e l : Int} (hr : Rdr w R s p e l) :
    Calls Tryz.prog 58 #[.pointer (some ⟨R, 0, none⟩)] w fun x w' => x = .returned (.int .u8 (byteAt (ints s) p)) ∧ w = w' := by
  have c1 := hr.c1
  go_enter Tryz.func58, Tryz.ntmps58
  go_wp2_with (go_at_call 74; refine (byteAt_any hr p).mono ?_; rintro x w' ⟨rfl, rfl⟩)
  go_ret
  exact ⟨rfl, rfl⟩
set_option maxHeartbeats 400000 in
theorem fail_any {w : World} {R p : Nat} {s : ByteArray} {e l : Int} (hr : Rdr w R s p e l) (e' l' : Int) :
    Calls Tryz.prog 48 #[.pointer (some ⟨R, 0, none⟩), .int .i64 e', .int .i64 l'] w fun x w' => x = .returned (.tuple #[]) ∧ Rdr w' R s p e' l' ∧ Keep (One R) w w' := by
  have c2 := hr.c2
  have c3 := hr.c3
  have f2 := hr.fz 2
  have f3 := hr.fz 3
  go_enter Tryz.func48, Tryz.ntmps48
  go_wp2
  go_end0
  exact ⟨rfl, hr.bad e' l', Rdr.setBad _ _ e' l'⟩
set_option maxHeartbeats 400000 in
theorem isDigit_any (c : Int) (w : World) : Calls Tryz.prog 75 #[.int .u8 c] w fun x w' => x = .returned (.bool (isDig c)) ∧ w = w' := by
  go_enter Tryz.func75, Tryz.ntmps75
  go_wp2
  all_goals
    go_ret
    refine ⟨ret_bool ?_, rfl⟩
    unfold isDig
    rw [Bool.eq_iff_iff]
    simp
    omega
end Go.Proofs.YtnmhpejnjaeecaaGreatDoor
namespace Go.Proofs.YtnmhpejnjaeecaaGreatDoor
open Go.RowKit

/-- The reader went on to q, and wrote nothing else. -/
def OkAt (w w' : World) (R : Nat) (s : ByteArray) (q : Nat) : Prop := (∃ e l, Rdr w' R s q e l) ∧ Keep (One R) w w'
/-- The reader failed, with that error, there. -/
def BadAt (w w' : World) (R : Nat) (s : ByteArray) (e : Int) (l : Nat) : Prop := (∃ q, Rdr w' R s q e l) ∧ Keep (One R) w w'
theorem OkAt.then {w w1 w2 : World} {R : Nat} {s : ByteArray} {q q' : Nat} (h : OkAt w w1 R s q) (h' : OkAt w1 w2 R s q') : OkAt w w2 R s q' := ⟨h'.1, h.2.then h'.2⟩
theorem OkAt.bad {w w1 w2 : World} {R : Nat} {s : ByteArray} {q : Nat} {e : Int} {l : Nat} (h : OkAt w w1 R s q) (h' : BadAt w1 w2 R s e l) : BadAt w w2 R s e l := ⟨h'.1, h.2.then h'.2⟩
theorem OkAt.refl {w : World} {R p : Nat} {s : ByteArray} {e l : Int} (h : Rdr w R s p e l) : OkAt w w R s p := ⟨⟨e, l, h⟩, Keep.refl _ _⟩

set_option maxHeartbeats 400000 in
theorem take_yes {w : World} {R p : Nat} {s : ByteArray} {e l : Int} (hr : Rdr w R s p e l) (hp : p ≤ 20000) (c : Int) (h : byteAt (ints s) p = c) :
    Calls Tryz.prog 79 #[.pointer (some ⟨R, 0, none⟩), .int .u8 c] w fun x w' => x = .returned (.bool true) ∧ OkAt w w' R s (p + 1) := by
  have c1 := hr.c1
  have f1 := hr.fz 1
  have HR := hr.at (p + 1)
  have HK := Rdr.setAt w R (p + 1)
  subst h
  go_enter Tryz.func79, Tryz.ntmps79
  go_wp2_with (go_at_call 58; refine (peek_any hr).mono ?_; rintro x w' ⟨rfl, rfl⟩)
  go_ret
  exact ⟨rfl, ⟨_, _, HR⟩, HK⟩
set_option maxHeartbeats 400000 in
theorem take_no {w : World} {R p : Nat} {s : ByteArray} {e l : Int} (hr : Rdr w R s p e l) (c : Int) (h : byteAt (ints s) p ≠ c) :
    Calls Tryz.prog 79 #[.pointer (some ⟨R, 0, none⟩), .int .u8 c] w fun x w' => x = .returned (.bool false) ∧ w = w' := by
  have hb : (byteAt (ints s) p != c) = true := by simp [h]
  go_enter Tryz.func79, Tryz.ntmps79
  go_wp2_with (go_at_call 58; refine (peek_any hr).mono ?_; rintro x w' ⟨rfl, rfl⟩)
  go_ret
  exact ⟨rfl, rfl⟩
set_option maxHeartbeats 400000 in
theorem must_yes {w : World} {R p : Nat} {s : ByteArray} {e l : Int} (hr : Rdr w R s p e l) (hp : p ≤ 20000) (c : Int) (h : byteAt (ints s) p = c) :
    Calls Tryz.prog 76 #[.pointer (some ⟨R, 0, none⟩), .int .u8 c] w fun x w' => x = .returned (.bool true) ∧ OkAt w w' R s (p + 1) := by
  go_enter Tryz.func76, Tryz.ntmps76
  go_wp2_with (go_at_call 79; refine (take_yes hr hp c h).mono ?_; rintro x w' ⟨rfl, hk⟩)
  go_ret
  exact ⟨rfl, hk⟩
set_option maxHeartbeats 400000 in
theorem must_no {w : World} {R p : Nat} {s : ByteArray} {e l : Int} (hr : Rdr w R s p e l) (c : Int) (h : byteAt (ints s) p ≠ c) :
    Calls Tryz.prog 76 #[.pointer (some ⟨R, 0, none⟩), .int .u8 c] w fun x w' => x = .returned (.bool false) ∧ BadAt w w' R s 11 p := by
  have c1 := hr.c1
  go_enter Tryz.func76, Tryz.ntmps76
  go_wp2_with (first
    | (go_at_call 79; refine (take_no hr c h).mono ?_; rintro x w' ⟨rfl, rfl⟩)
    | (go_at_call 48; refine (fail_any hr 11 p).mono ?_; rintro x w1 ⟨rfl, hr1, hk1⟩))
  go_ret
  exact ⟨rfl, ⟨_, hr1⟩, hk1⟩
theorem blank_eq (c : Int) : isBlank c = ((c == 32) || (c == 9) || (c == 10) || (c == 13)) := by
  unfold isBlank
  rw [Bool.eq_iff_iff]
  simp
theorem blanks_step {t : List Int} {p : Nat} (h : isBlank (byteAt t p) = true) : blanks t p = blanks t (p + 1) := by
  have hp := byteAt_lt (t := t) (p := p) (by intro h0; rw [h0] at h; revert h; decide)
  have e : t.drop p = t[p] :: t.drop (p + 1) := List.drop_eq_getElem_cons hp
  have g : byteAt t p = t[p] := by unfold byteAt; rw [List.getD_eq_getElem?_getD, List.getElem?_eq_getElem hp]; rfl
  unfold blanks
  rw [e, List.takeWhile_cons, ← g, h]
  simp
  omega
theorem blanks_stay {t : List Int} {p : Nat} (h : isBlank (byteAt t p) = false) : blanks t p = p := by
  unfold blanks
  cases hd : t.drop p with
  | nil => rfl
  | cons c r =>
    rw [byte_head hd] at h
    rw [List.takeWhile_cons, h]
    rfl
/-- Where the reader in block R stands. -/
def posOf (R : Nat) (w : World) : Nat := (intOf ((w.cell? ⟨R, 1, none⟩).getD (.int .i64 0))).toNat
theorem posOf_rdr {w : World} {R p : Nat} {s : ByteArray} {e l : Int} (h : Rdr w R s p e l) : posOf R w = p := by
  unfold posOf
  rw [h.c1]
  simp [intOf]
set_option maxHeartbeats 1000000 in
theorem blanks_any {w : World} {R p : Nat} {s : ByteArray} {e l : Int} (hr : Rdr w R s p e l) (hs : short s) (hp : p ≤ s.size) :
    Calls Tryz.prog 46 #[.pointer (some ⟨R, 0, none⟩)] w fun x w' => x = .returned (.tuple #[]) ∧ OkAt w w' R s (blanks (ints s) p) := by
  unfold short at hs
  go_enter Tryz.func46, Tryz.ntmps46
  go_wp2_with (go_at_call 58; refine (peek_any hr).mono ?_; rintro x w' ⟨rfl, rfl⟩)
  go_loopw [2] (fun c wr => ∃ q : Nat, c = .int .u8 (byteAt (ints s) q) ∧ q ≤ s.size ∧ blanks (ints s) q = blanks (ints s) p ∧ Rdr wr R s q e l ∧ Keep (One R) w wr) (fun _ wr => s.size - posOf R wr)
  case atStart => exact ⟨p, rfl, hp, rfl, hr, Keep.refl _ _⟩
  case round =>
    obtain ⟨q, rfl, hq, hbl, hrq, hk⟩ := hrel
    have HBL : Hid (blanks (ints s) q = blanks (ints s) p) := hbl
    clear hbl hr
    by_cases hb : isBlank (byteAt (ints s) q) = true
    · have hlt : q < s.size := by
        have := byteAt_lt (t := ints s) (p := q) (by intro h0; rw [h0] at hb; revert hb; decide)
        rw [ints_length] at this; exact this
      have HST : Hid (blanks (ints s) q = blanks (ints s) (q + 1)) := blanks_step hb
      rw [blank_eq] at hb
      have c1 := hrq.c1
      have f1 := hrq.fz 1
      have HR : Rdr (wr.setCell ⟨R, 1, none⟩ (.int .i64 ((q : Int) + 1))) R s (q + 1) e l := hrq.at (q + 1)
      have HK : Keep (One R) w (wr.setCell ⟨R, 1, none⟩ (.int .i64 ((q : Int) + 1))) := hk.then (Rdr.setAt wr R (q + 1))
      have HP := posOf_rdr HR
      have HP0 := posOf_rdr hrq
      go_wp2_with (go_at_call 58; refine (peek_any HR).mono ?_; rintro x w' ⟨rfl, rfl⟩)
      all_goals first
        | (go_roundw
           case rel => exact ⟨q + 1, rfl, hlt, by rw [← HST.out]; exact HBL.out, HR, HK⟩
           case measure => rw [HP, HP0]; omega)
        | (exfalso; simp_all; done)
    · have hb' : isBlank (byteAt (ints s) q) = false := by simpa using hb
      have HST : Hid (blanks (ints s) q = q) := blanks_stay hb'
      rw [blank_eq] at hb'
      simp only [Bool.or_eq_false_iff] at hb'
      obtain ⟨⟨⟨b1, b2⟩, b3⟩, b4⟩ := hb'
      go_wp2
      go_end0
      refine ⟨rfl, ?_⟩
      rw [← HBL.out, HST.out]
      exact ⟨⟨_, _, hrq⟩, hk⟩
end Go.Proofs.YtnmhpejnjaeecaaGreatDoor
namespace Go.Proofs.YtnmhpejnjaeecaaGreatDoor
open Go.RowKit

theorem ret_rune {a b : Int} {p q : Bool} (h : a = b) (hp : p = q) : Ending.returned (.tuple #[.int .i32 a, .bool p]) = .returned (.tuple #[.int .i32 b, .bool q]) := by rw [h, hp]
theorem ret_hex {a b c d : Int} (h : a = b) (hp : c = d) : Ending.returned (.tuple #[.int .i32 a, .int .i64 c]) = .returned (.tuple #[.int .i32 b, .int .i64 d]) := by rw [h, hp]
theorem hexDig_bd {c d : Int} (h : hexDig c = some d) : 0 ≤ d ∧ d ≤ 15 := by
  unfold hexDig isDig at h
  split at h
  · rename_i h1; simp at h1; cases h; omega
  split at h
  · cases h; omega
  split at h
  · cases h; omega
  · cases h
set_option maxHeartbeats 1000000 in
theorem hexDigit_any (c : Int) (w : World) (h0 : 0 ≤ c) (h1 : c ≤ 255) :
    Calls Tryz.prog 104 #[.int .u8 c] w fun x w' => x = .returned (.tuple #[.int .i32 ((hexDig c).getD 0), .bool (hexDig c).isSome]) ∧ w = w' := by
  cases hd : isDig c with
  | true =>
    have hh : hexDig c = some (c - 48) := by unfold hexDig; rw [if_pos hd]
    have hb : 48 ≤ c ∧ c ≤ 57 := by unfold isDig at hd; simpa using hd
    rw [hh]
    go_enter Tryz.func104, Tryz.ntmps104
    go_wp2_with (go_at_call 75; refine (isDigit_any c _).mono ?_; rw [hd]; rintro x w' ⟨rfl, rfl⟩)
    go_ret2
    exact ⟨rfl, rfl⟩
  | false =>
    by_cases ha : 97 ≤ c ∧ c ≤ 102
    · have hh : hexDig c = some (c - 97 + 10) := by unfold hexDig; rw [if_neg (by simp [hd]), if_pos ha]
      rw [hh]
      go_enter Tryz.func104, Tryz.ntmps104
      go_wp2_with (go_at_call 75; refine (isDigit_any c _).mono ?_; rw [hd]; rintro x w' ⟨rfl, rfl⟩)
      go_ret2
      exact ⟨rfl, rfl⟩
    by_cases hA : 65 ≤ c ∧ c ≤ 70
    · have hh : hexDig c = some (c - 65 + 10) := by unfold hexDig; rw [if_neg (by simp [hd]), if_neg ha, if_pos hA]
      rw [hh]
      go_enter Tryz.func104, Tryz.ntmps104
      go_wp2_with (go_at_call 75; refine (isDigit_any c _).mono ?_; rw [hd]; rintro x w' ⟨rfl, rfl⟩)
      go_ret2
      exact ⟨rfl, rfl⟩
    · have hh : hexDig c = none := by unfold hexDig; rw [if_neg (by simp [hd]), if_neg ha, if_neg hA]
      rw [hh]
      go_enter Tryz.func104, Tryz.ntmps104
      go_wp2_with (go_at_call 75; refine (isDigit_any c _).mono ?_; rw [hd]; rintro x w' ⟨rfl, rfl⟩)
      all_goals first
        | (exfalso; omega)
        | (go_ret2; exact ⟨rfl, rfl⟩)
/-- One more than so many digits can say. -/
def capOf : Nat → Int
  | 0 => 1
  | 1 => 16
  | 2 => 256
  | 3 => 4096
  | _ => 65536
theorem capOf_le (k : Nat) : capOf k ≤ 65536 := by
  unfold capOf; split <;> omega
theorem capOf_step {k : Nat} {n d : Int} (hk : k < 4) (h0 : 0 ≤ n) (h : n < capOf k) (hd : 0 ≤ d ∧ d ≤ 15) : n * 16 + d < capOf (k + 1) ∧ n ≤ 4095 := by
  match k, hk with
  | 0, _ => simp only [capOf] at h ⊢; omega
  | 1, _ => simp only [capOf] at h ⊢; omega
  | 2, _ => simp only [capOf] at h ⊢; omega
  | 3, _ => simp only [capOf] at h ⊢; omega
theorem hexL_bd (t : List Int) (i : Nat) : ∀ (m k : Nat) (n : Int), 0 ≤ n → n < capOf k → k + m ≤ 4 → 0 ≤ (hexL t i m k n).1 ∧ (hexL t i m k n).1 < 65536
  | 0, k, n, h0, h1, _ => ⟨h0, by have := capOf_le k; unfold hexL; simp only; omega⟩
  | m + 1, k, n, h0, h1, hm => by
    unfold hexL
    split
    · have := capOf_le k; exact ⟨h0, by simp only; omega⟩
    · rename_i d hd
      have hb := hexDig_bd hd
      exact hexL_bd t i m (k + 1) _ (by omega) (capOf_step (by omega) h0 h1 hb).1 (by omega)
theorem hexAt_bd (t : List Int) (i : Nat) : 0 ≤ (hexAt t i).1 ∧ (hexAt t i).1 < 65536 ∧ (hexAt t i).2 ≤ 4 := by
  have h := hexL_bd t i 4 0 0 (by omega) (by decide) (by omega)
  exact ⟨h.1, h.2, by have := (hexL_le t i 4 0 0).2.1; unfold hexAt; omega⟩
set_option maxHeartbeats 1000000 in
theorem hexAt_any {w : World} {R p : Nat} {s : ByteArray} {e l : Int} (hr : Rdr w R s p e l) (i : Nat) (hi : i ≤ 40000) :
    Calls Tryz.prog 101 #[.pointer (some ⟨R, 0, none⟩), .int .i64 i] w fun x w' => x = .returned (.tuple #[.int .i32 (hexAt (ints s) i).1, .int .i64 ((hexAt (ints s) i).2 : Nat)]) ∧ w = w' := by
  go_enter Tryz.func101, Tryz.ntmps101
  go_wp2
  go_loop [6, 10] (fun a b => ∃ (n : Int) (k m : Nat), a = .int .i32 n ∧ b = .int .i64 k ∧ k + m = 4 ∧ 0 ≤ n ∧ n < capOf k ∧ hexL (ints s) i m k n = hexAt (ints s) i) (fun _ b => 4 - (intOf b).toNat)
  case atStart => exact ⟨0, 0, 4, rfl, rfl, rfl, by omega, by decide, rfl⟩
  case round =>
    obtain ⟨n, k, m, rfl, rfl, hkm, h0, hcap, hx⟩ := hrel
    have HX : Hid (hexL (ints s) i m k n = hexAt (ints s) i) := hx
    clear hx
    by_cases hk : k < 4
    · have hbd := byte_bd s (i + k)
      obtain ⟨m', rfl⟩ : ∃ m', m = m' + 1 := ⟨m - 1, by omega⟩
      cases hd : hexDig (byteAt (ints s) (i + k)) with
      | none =>
        have HH : Hid (hexAt (ints s) i = (n, k)) := by rw [← HX.out]; unfold hexL; rw [hd]; rfl
        go_wp2_with (first
          | (go_at_call 74; refine (byteAt_any hr (i + k)).mono ?_; rintro x w' ⟨rfl, rfl⟩)
          | (go_at_call 104; refine (hexDigit_any _ _ hbd.1 hbd.2).mono ?_; rw [hd]; rintro x w' ⟨rfl, rfl⟩))
        go_ret2
        exact ⟨ret_hex (by rw [HH.out]) (by rw [HH.out]), rfl⟩
      | some d =>
        have hdb := hexDig_bd hd
        have hst := capOf_step hk h0 hcap hdb
        have HH : Hid (hexL (ints s) i m' (k + 1) (n * 16 + d) = hexAt (ints s) i) := by rw [← HX.out]; show _ = hexL _ _ (m' + 1) _ _; conv => rhs; unfold hexL; rw [hd]
        go_wp2_with (first
          | (go_at_call 74; refine (byteAt_any hr (i + k)).mono ?_; rintro x w' ⟨rfl, rfl⟩)
          | (go_at_call 104; refine (hexDigit_any _ _ hbd.1 hbd.2).mono ?_; rw [hd]; rintro x w' ⟨rfl, rfl⟩))
        go_round
        case rel => exact ⟨n * 16 + d, k + 1, m', rfl, by go_num, by omega, by omega, hst.1, HH.out⟩
        case measure => simp [intOf]; omega
    · obtain rfl : k = 4 := by omega
      obtain rfl : m = 0 := by omega
      have HH : Hid (hexAt (ints s) i = (n, 4)) := by rw [← HX.out]; rfl
      go_wp2
      go_ret2
      exact ⟨ret_hex (by rw [HH.out]) (by rw [HH.out]; rfl), rfl⟩
theorem lowAt_hex {t : List Int} {i k : Nat} {n : Int} (h92 : byteAt t i = 92) (h117 : byteAt t (i + 1) = 117) (he : hexAt t (i + 2) = (n, k)) : lowAt t i = if k = 4 ∧ 56320 ≤ n ∧ n ≤ 57343 then some n else none := by
  unfold lowAt
  rw [if_pos ⟨h92, h117⟩, he]
theorem lowAt_not {t : List Int} {i : Nat} (h : ¬ (byteAt t i = 92 ∧ byteAt t (i + 1) = 117)) : lowAt t i = none := by
  unfold lowAt
  rw [if_neg h]
set_option maxHeartbeats 1000000 in
theorem lowAt_any {w : World} {R p : Nat} {s : ByteArray} {e l : Int} (hr : Rdr w R s p e l) (i : Nat) (hi : i ≤ 30000) :
    Calls Tryz.prog 102 #[.pointer (some ⟨R, 0, none⟩), .int .i64 i] w fun x w' => (∃ n, x = .returned (.tuple #[.int .i32 n, .bool (lowAt (ints s) i).isSome]) ∧ ∀ m, lowAt (ints s) i = some m → n = m) ∧ w = w' := by
  have hb0 := byte_bd s i
  have hb1 := byte_bd s (i + 1)
  have hx := hexAt_bd (ints s) (i + 2)
  by_cases h92 : byteAt (ints s) i = 92
  · by_cases h117 : byteAt (ints s) (i + 1) = 117
    · obtain ⟨n, k, he⟩ : ∃ n k, hexAt (ints s) (i + 2) = (n, k) := ⟨_, _, rfl⟩
      have xx := hexAt_any hr (i + 2) (by omega)
      have HL : Hid (lowAt (ints s) i = if k = 4 ∧ 56320 ≤ n ∧ n ≤ 57343 then some n else none) := lowAt_hex h92 h117 he
      rw [he] at hx xx
      simp only at hx xx
      go_enter Tryz.func102, Tryz.ntmps102
      go_wp2_with (first
        | (go_at_call 74; have _h := hb2; refine (byteAt_any hr (i + 1)).mono ?_; rw [h117]; rintro x w' ⟨rfl, rfl⟩)
        | (go_at_call 74; refine (byteAt_any hr i).mono ?_; rw [h92]; rintro x w' ⟨rfl, rfl⟩; have hb2 : True := trivial)
        | (go_at_call 101; refine xx.mono ?_; rintro x w' ⟨rfl, rfl⟩))
      all_goals
        go_ret2
        refine ⟨⟨n, ret_rune rfl ?_, fun m hm => ?_⟩, rfl⟩
        · rw [HL.out]
          split
          · rename_i h; simp; try omega
          · rename_i h; simp; try omega
        · rw [HL.out] at hm
          split at hm
          · cases hm; rfl
          · cases hm
    · have hbb : (byteAt (ints s) (i + 1) != 117) = true := by simp [h117]
      have HL : Hid (lowAt (ints s) i = none) := lowAt_not fun h => h117 h.2
      go_enter Tryz.func102, Tryz.ntmps102
      go_wp2_with (first
        | (go_at_call 74; have _h := hb2; refine (byteAt_any hr (i + 1)).mono ?_; rintro x w' ⟨rfl, rfl⟩)
        | (go_at_call 74; refine (byteAt_any hr i).mono ?_; rw [h92]; rintro x w' ⟨rfl, rfl⟩; have hb2 : True := trivial))
      go_ret2
      rw [HL.out]
      exact ⟨⟨_, rfl, fun m hm => by cases hm⟩, rfl⟩
  · have hbb : (byteAt (ints s) i != 92) = true := by simp [h92]
    have HL : Hid (lowAt (ints s) i = none) := lowAt_not fun h => h92 h.1
    go_enter Tryz.func102, Tryz.ntmps102
    go_wp2_with (go_at_call 74; refine (byteAt_any hr i).mono ?_; rintro x w' ⟨rfl, rfl⟩)
    go_ret2
    rw [HL.out]
    exact ⟨⟨_, rfl, fun m hm => by cases hm⟩, rfl⟩

/-- What a reader of a letter returns. -/
def runeTold (w w' : World) (R : Nat) (s : ByteArray) (r : Res Int) (x : Ending) : Prop := match r with
  | .ok c q => x = .returned (.tuple #[.int .i32 c, .bool true]) ∧ OkAt w w' R s q
  | .bad e l => x = .returned (.tuple #[.int .i32 0, .bool false]) ∧ BadAt w w' R s e l
theorem lowAt_bd {t : List Int} {i : Nat} {m : Int} (h : lowAt t i = some m) : 56320 ≤ m ∧ m ≤ 57343 := by
  unfold lowAt at h
  split at h
  · split at h
    · rename_i hh; cases h; exact hh.2
    · cases h
  · cases h
set_option maxHeartbeats 1000000 in
theorem coded_any {w : World} {R p : Nat} {s : ByteArray} {e l : Int} (hr : Rdr w R s p e l) (hp : p ≤ 20000) :
    Calls Tryz.prog 94 #[.pointer (some ⟨R, 0, none⟩)] w fun x w' => runeTold w w' R s (coded (ints s) p) x := by
  have c1 := hr.c1
  have f1 := hr.fz 1
  have hx := hexAt_bd (ints s) (p + 2)
  obtain ⟨n, k, he⟩ : ∃ n k, hexAt (ints s) (p + 2) = (n, k) := ⟨_, _, rfl⟩
  have xx := hexAt_any hr (p + 2) (by omega)
  rw [he] at hx xx
  simp only at hx xx
  by_cases hk : k < 4
  · have HC : Hid (coded (ints s) p = .bad 11 (p + 2 + k)) := by unfold coded; rw [he, if_pos hk]; rfl
    have hk' : (k : Int) < 4 := by omega
    go_enter Tryz.func94, Tryz.ntmps94
    go_wp2_with (first
      | (go_at_call 101; refine xx.mono ?_; rintro x w' ⟨rfl, rfl⟩)
      | (go_at_call 48; refine (fail_any hr 11 ((p + 2 + k : Nat) : Int)).mono ?_; rintro x w1 ⟨rfl, hr1, hk1⟩))
    go_ret2
    rw [HC.out]
    exact ⟨rfl, ⟨_, hr1⟩, hk1⟩
  have hk' : ¬ (k : Int) < 4 := by omega
  by_cases h1 : n < 55296 ∨ 57343 < n
  · have HC : Hid (coded (ints s) p = .ok n (p + 6)) := by unfold coded; rw [he, if_neg hk, if_pos h1]; rfl
    have HR : Rdr (w.setCell ⟨R, 1, none⟩ (.int .i64 ((p : Int) + 6))) R s (p + 6) e l := hr.at (p + 6)
    have HK : Keep (One R) w (w.setCell ⟨R, 1, none⟩ (.int .i64 ((p : Int) + 6))) := Rdr.setAt w R (p + 6)
    go_enter Tryz.func94, Tryz.ntmps94
    go_wp2_with (go_at_call 101; refine xx.mono ?_; rintro x w' ⟨rfl, rfl⟩)
    all_goals first
      | (exfalso; omega)
      | (go_ret2
         rw [HC.out]
         exact ⟨rfl, ⟨_, _, HR⟩, HK⟩)
  have yy := lowAt_any hr (p + 6) (by omega)
  by_cases h2 : 56320 ≤ n
  · have HC : Hid (coded (ints s) p = .bad 11 p) := by unfold coded; rw [he, if_neg hk, if_neg h1, if_pos h2]; rfl
    go_enter Tryz.func94, Tryz.ntmps94
    go_wp2_with (first
      | (go_at_call 101; refine xx.mono ?_; rintro x w' ⟨rfl, rfl⟩)
      | (go_at_call 102; refine yy.mono ?_; rintro x w' ⟨⟨m, rfl, _⟩, rfl⟩)
      | (go_at_call 48; refine (fail_any hr 11 (p : Int)).mono ?_; rintro x w1 ⟨rfl, hr1, hk1⟩))
    all_goals first
      | (exfalso; omega)
      | (go_ret2
         rw [HC.out]
         exact ⟨rfl, ⟨_, hr1⟩, hk1⟩)
  cases hlow : lowAt (ints s) (p + 6) with
  | none =>
    have HC : Hid (coded (ints s) p = .bad 11 p) := by unfold coded; rw [he, if_neg hk, if_neg h1, if_neg h2, hlow]; rfl
    rw [hlow] at yy
    go_enter Tryz.func94, Tryz.ntmps94
    go_wp2_with (first
      | (go_at_call 101; refine xx.mono ?_; rintro x w' ⟨rfl, rfl⟩)
      | (go_at_call 102; refine yy.mono ?_; rintro x w' ⟨⟨m, rfl, _⟩, rfl⟩)
      | (go_at_call 48; refine (fail_any hr 11 (p : Int)).mono ?_; rintro x w1 ⟨rfl, hr1, hk1⟩))
    all_goals first
      | (exfalso; omega)
      | (go_ret2
         rw [HC.out]
         exact ⟨rfl, ⟨_, hr1⟩, hk1⟩)
  | some m =>
    have hm := lowAt_bd hlow
    have HC : Hid (coded (ints s) p = .ok (65536 + (n - 55296) * 1024 + (m - 56320)) (p + 12)) := by unfold coded; rw [he, if_neg hk, if_neg h1, if_neg h2, hlow]; rfl
    have HR : Rdr (w.setCell ⟨R, 1, none⟩ (.int .i64 ((p : Int) + 12))) R s (p + 12) e l := hr.at (p + 12)
    have HK : Keep (One R) w (w.setCell ⟨R, 1, none⟩ (.int .i64 ((p : Int) + 12))) := Rdr.setAt w R (p + 12)
    rw [hlow] at yy
    go_enter Tryz.func94, Tryz.ntmps94
    go_wp2_with (first
      | (go_at_call 101; refine xx.mono ?_; rintro x w' ⟨rfl, rfl⟩)
      | (go_at_call 102; refine yy.mono ?_; rintro x w' ⟨⟨m', rfl, hmm⟩, rfl⟩; obtain rfl := hmm m rfl))
    all_goals first
      | (exfalso; omega)
      | (go_ret2
         rw [HC.out]
         exact ⟨rfl, ⟨_, _, HR⟩, HK⟩)
end Go.Proofs.YtnmhpejnjaeecaaGreatDoor
namespace Go.Proofs.YtnmhpejnjaeecaaGreatDoor
open Go.RowKit

set_option maxHeartbeats 1000000 in
theorem escape_one {w : World} {R p : Nat} {s : ByteArray} {e l : Int} (hr : Rdr w R s p e l) (hp : p ≤ 20000) (b c : Int) (hb : byteAt (ints s) (p + 1) = b)
    (hbc : (b = 34 ∧ c = 34) ∨ (b = 92 ∧ c = 92) ∨ (b = 47 ∧ c = 47) ∨ (b = 98 ∧ c = 8) ∨ (b = 102 ∧ c = 12) ∨ (b = 110 ∧ c = 10) ∨ (b = 114 ∧ c = 13) ∨ (b = 116 ∧ c = 9)) :
    Calls Tryz.prog 77 #[.pointer (some ⟨R, 0, none⟩)] w fun x w' => runeTold w w' R s (.ok c (p + 2)) x := by
  have c1 := hr.c1
  have f1 := hr.fz 1
  have HR : Rdr (w.setCell ⟨R, 1, none⟩ (.int .i64 ((p : Int) + 2))) R s (p + 2) e l := hr.at (p + 2)
  have HK : Keep (One R) w (w.setCell ⟨R, 1, none⟩ (.int .i64 ((p : Int) + 2))) := Rdr.setAt w R (p + 2)
  have xx := byteAt_any hr (p + 1)
  rw [hb] at xx
  clear hb
  rcases hbc with ⟨rfl, rfl⟩ | ⟨rfl, rfl⟩ | ⟨rfl, rfl⟩ | ⟨rfl, rfl⟩ | ⟨rfl, rfl⟩ | ⟨rfl, rfl⟩ | ⟨rfl, rfl⟩ | ⟨rfl, rfl⟩
  all_goals
    go_enter Tryz.func77, Tryz.ntmps77
    go_wp2_with (go_at_call 74; refine xx.mono ?_; rintro x w' ⟨rfl, rfl⟩)
    go_ret2
    exact ⟨rfl, ⟨_, _, HR⟩, HK⟩
set_option maxHeartbeats 1000000 in
theorem escape_any {w : World} {R p : Nat} {s : ByteArray} {e l : Int} (hr : Rdr w R s p e l) (hp : p ≤ 20000) :
    Calls Tryz.prog 77 #[.pointer (some ⟨R, 0, none⟩)] w fun x w' => runeTold w w' R s (escape (ints s) p) x := by
  have one := fun b c hb hbc => escape_one hr hp b c hb hbc
  unfold escape
  simp only
  split
  · rename_i h
    rcases h with h | h | h
    · rw [h]; exact one 34 34 h (by simp)
    · rw [h]; exact one 92 92 h (by simp)
    · rw [h]; exact one 47 47 h (by simp)
  split
  · rename_i h; exact one 98 8 h (by simp)
  split
  · rename_i h; exact one 102 12 h (by simp)
  split
  · rename_i h; exact one 110 10 h (by simp)
  split
  · rename_i h; exact one 114 13 h (by simp)
  split
  · rename_i h; exact one 116 9 h (by simp)
  have c1 := hr.c1
  have xx := byteAt_any hr (p + 1)
  split
  · rename_i h
    rw [h] at xx
    have yy := coded_any hr hp
    cases hc : coded (ints s) p with
    | ok c q =>
      rw [hc] at yy
      go_enter Tryz.func77, Tryz.ntmps77
      go_wp2_with (first
        | (go_at_call 74; refine xx.mono ?_; rintro x w' ⟨rfl, rfl⟩)
        | (go_at_call 94; refine yy.mono ?_; rintro x w1 ⟨rfl, hk⟩))
      go_ret2
      exact ⟨rfl, hk⟩
    | bad e' l' =>
      rw [hc] at yy
      go_enter Tryz.func77, Tryz.ntmps77
      go_wp2_with (first
        | (go_at_call 74; refine xx.mono ?_; rintro x w' ⟨rfl, rfl⟩)
        | (go_at_call 94; refine yy.mono ?_; rintro x w1 ⟨rfl, hk⟩))
      go_ret2
      exact ⟨rfl, hk⟩
  · rename_i h1 h2 h3 h4 h5 h6 h7
    obtain ⟨c, hc⟩ : ∃ c, byteAt (ints s) (p + 1) = c := ⟨_, rfl⟩
    rw [hc] at h1 h2 h3 h4 h5 h6 h7 xx
    have h11 : ¬ c = 34 := fun h => h1 (.inl h)
    have h12 : ¬ c = 92 := fun h => h1 (.inr (.inl h))
    have h13 : ¬ c = 47 := fun h => h1 (.inr (.inr h))
    clear h1 hc one
    go_enter Tryz.func77, Tryz.ntmps77
    go_wp2_with (first
      | (go_at_call 74; refine xx.mono ?_; rintro x w' ⟨rfl, rfl⟩)
      | (go_at_call 48; refine (fail_any hr 11 ((p + 1 : Nat) : Int)).mono ?_; rintro x w1 ⟨rfl, hr1, hk1⟩))
    go_ret2
    exact ⟨rfl, ⟨_, hr1⟩, hk1⟩
set_option maxHeartbeats 1000000 in
theorem begins_any (c : Int) (w : World) : Calls Tryz.prog 59 #[.int .u8 c] w fun x w' => x = .returned (.bool (begins c)) ∧ w = w' := by
  by_cases h : c = 91 ∨ c = 123 ∨ c = 34 ∨ c = 110 ∨ c = 116 ∨ c = 102 ∨ c = 45
  · have hb : begins c = true := by unfold begins; simp; omega
    rw [hb]
    rcases h with rfl | rfl | rfl | rfl | rfl | rfl | rfl
    all_goals
      go_enter Tryz.func59, Tryz.ntmps59
      go_wp2
      go_ret
      exact ⟨rfl, rfl⟩
  · have hb : begins c = isDig c := by
      unfold begins
      rw [Bool.eq_iff_iff]
      simp
      omega
    have g1 : ¬ c = 91 := by omega
    have g2 : ¬ c = 123 := by omega
    have g3 : ¬ c = 34 := by omega
    have g4 : ¬ c = 110 := by omega
    have g5 : ¬ c = 116 := by omega
    have g6 : ¬ c = 102 := by omega
    have g7 : ¬ c = 45 := by omega
    rw [hb]
    clear h hb
    go_enter Tryz.func59, Tryz.ntmps59
    go_wp2_with (go_at_call 75; refine (isDigit_any c _).mono ?_; rintro x w' ⟨rfl, rfl⟩)
    go_ret
    exact ⟨rfl, rfl⟩
/-- What a reader that tells no value returns. -/
def boolTold (w w' : World) (R : Nat) (s : ByteArray) (r : Res Unit) (x : Ending) : Prop := match r with
  | .ok _ q => x = .returned (.bool true) ∧ OkAt w w' R s q
  | .bad e l => x = .returned (.bool false) ∧ BadAt w w' R s e l
theorem word_step {t : List Int} {u : ByteArray} {k p : Nat} (hk : k < u.size) : word t ((ints u).drop k) p = (must t (u[k].toNat : Int) p).bind fun _ q => word t ((ints u).drop (k + 1)) q := by
  have hl : k < (ints u).length := by rw [ints_length]; exact hk
  have e : (ints u).drop k = (u[k].toNat : Int) :: (ints u).drop (k + 1) := by
    rw [List.drop_eq_getElem_cons hl]
    congr 1
    have := ints_getD u k hk
    rw [List.getD_eq_getElem?_getD, List.getElem?_eq_getElem hl] at this
    exact this
  rw [e]
  rfl
set_option maxHeartbeats 1000000 in
theorem word_any {w : World} {R p : Nat} {s : ByteArray} {e l : Int} (hr : Rdr w R s p e l) (hp : p ≤ 17000) (u : ByteArray) (hu : u.size ≤ 10) :
    Calls Tryz.prog 60 #[.pointer (some ⟨R, 0, none⟩), .string u] w fun x w' => boolTold w w' R s (word (ints s) (ints u) p) x := by
  go_enter Tryz.func60, Tryz.ntmps60
  go_wp2
  go_loopw [8] (fun i wr => ∃ k : Nat, i = .int .i64 k ∧ k ≤ u.size ∧ word (ints s) ((ints u).drop k) (p + k) = word (ints s) (ints u) p ∧ OkAt w wr R s (p + k)) (fun i _ => u.size - (intOf i).toNat)
  case atStart => exact ⟨0, rfl, Nat.zero_le _, rfl, OkAt.refl hr⟩
  case round =>
    obtain ⟨k, rfl, hk, hw, ⟨⟨e1, l1, hrk⟩, hkeep⟩⟩ := hrel
    have HW : Hid (word (ints s) ((ints u).drop k) (p + k) = word (ints s) (ints u) p) := hw
    clear hw hr
    by_cases hlt : k < u.size
    · have HS : Hid (word (ints s) ((ints u).drop k) (p + k) = (must (ints s) (u[k].toNat : Int) (p + k)).bind fun _ q => word (ints s) ((ints u).drop (k + 1)) q) := word_step hlt
      by_cases hm : byteAt (ints s) (p + k) = (u[k].toNat : Int)
      · have HM : Hid (must (ints s) (u[k].toNat : Int) (p + k) = .ok () (p + k + 1)) := by unfold must; rw [if_pos hm]; rfl
        go_wp2_with (go_at_call 76; refine (must_yes hrk (by omega) _ hm).mono ?_; rintro x w1 ⟨rfl, hk1⟩)
        go_roundw
        case rel => exact ⟨k + 1, by go_num, hlt, by rw [← HW.out, HS.out, HM.out]; rfl, OkAt.then ⟨⟨_, _, hrk⟩, hkeep⟩ hk1⟩
        case measure => simp [intOf]; omega
      · have HM : Hid (must (ints s) (u[k].toNat : Int) (p + k) = .bad 11 (p + k)) := by unfold must; rw [if_neg hm]; rfl
        go_wp2_with (go_at_call 76; refine (must_no hrk _ hm).mono ?_; rintro x w1 ⟨rfl, hk1⟩)
        go_ret
        rw [← HW.out, HS.out, HM.out]
        exact ⟨rfl, OkAt.bad ⟨⟨_, _, hrk⟩, hkeep⟩ hk1⟩
    · obtain rfl : k = u.size := by omega
      have HE : Hid (word (ints s) ((ints u).drop u.size) (p + u.size) = .ok () (p + u.size)) := by
        rw [List.drop_eq_nil_of_le (by rw [ints_length]; exact Nat.le_refl _)]; rfl
      go_wp2
      go_ret
      rw [← HW.out, HE.out]
      exact ⟨rfl, ⟨⟨_, _, hrk⟩, hkeep⟩⟩
theorem digs_take {t : List Int} {p q : Nat} (hq : p ≤ q) (h : isDig (byteAt t q) = true) (hall : (t.drop p).takeWhile isDig = (t.drop p).take (q - p) ++ (t.drop q).takeWhile isDig) :
    (t.drop p).takeWhile isDig = (t.drop p).take (q + 1 - p) ++ (t.drop (q + 1)).takeWhile isDig ∧ (t.drop p).take (q + 1 - p) = (t.drop p).take (q - p) ++ [byteAt t q] := by
  have hl := byteAt_lt (dig_ne h)
  have e : t.drop q = t[q] :: t.drop (q + 1) := List.drop_eq_getElem_cons hl
  have g : byteAt t q = t[q] := by unfold byteAt; rw [List.getD_eq_getElem?_getD, List.getElem?_eq_getElem hl]; rfl
  have e2 : (t.drop p).take (q + 1 - p) = (t.drop p).take (q - p) ++ [byteAt t q] := by
    rw [show q + 1 - p = (q - p) + 1 by omega, List.take_add_one, List.getElem?_drop, show p + (q - p) = q by omega, List.getElem?_eq_getElem hl, g]
    rfl
  refine ⟨?_, e2⟩
  rw [hall, e2, e, List.takeWhile_cons, ← g, h]
  simp
theorem digs_end {t : List Int} {q : Nat} (h : isDig (byteAt t q) = false) : (t.drop q).takeWhile isDig = [] := by
  cases hd : t.drop q with
  | nil => rfl
  | cons c r =>
    rw [byte_head hd] at h
    rw [List.takeWhile_cons, h]
    rfl
theorem digs_bd (x : List Int) (h : ∀ c ∈ x, isDig c = true) : 0 ≤ digs x ∧ digs x ≤ 90071992547409919 := by
  unfold digs
  have : ∀ (x : List Int) (n : Int), (∀ c ∈ x, isDig c = true) → 0 ≤ n → n ≤ 90071992547409919 → 0 ≤ x.foldl (fun n c => if n ≤ maxInt then n * 10 + (c - 48) else n) n ∧ x.foldl (fun n c => if n ≤ maxInt then n * 10 + (c - 48) else n) n ≤ 90071992547409919 := by
    intro x
    induction x with
    | nil => intro n _ h0 h1; exact ⟨h0, h1⟩
    | cons c x ih =>
      intro n hx h0 h1
      have hc := hx c (by simp)
      unfold isDig at hc
      simp at hc
      rw [List.foldl_cons]
      refine ih _ (fun d hd => hx d (by simp [hd])) ?_ ?_
      · split <;> omega
      · split
        · rename_i h; unfold maxInt at h; omega
        · exact h1
  exact this x 0 h (by omega) (by omega)
set_option maxHeartbeats 1000000 in
theorem digits_any {w : World} {R p : Nat} {s : ByteArray} {e l : Int} (hr : Rdr w R s p e l) (hs : short s) (hp : p ≤ s.size) :
    Calls Tryz.prog 81 #[.pointer (some ⟨R, 0, none⟩)] w fun x w' => x = .returned (.int .i64 (digits (ints s) p).1) ∧ OkAt w w' R s (digits (ints s) p).2 := by
  unfold short at hs
  by_cases h0 : byteAt (ints s) p = 48
  · have HD : Hid (digits (ints s) p = (0, p + 1)) := by unfold digits; rw [if_pos h0]; rfl
    go_enter Tryz.func81, Tryz.ntmps81
    go_wp2_with (go_at_call 79; refine (take_yes hr (by omega) 48 h0).mono ?_; rintro x w1 ⟨rfl, hk1⟩)
    go_ret
    rw [HD.out]
    exact ⟨rfl, hk1⟩
  · have HD : Hid (digits (ints s) p = (digs (((ints s).drop p).takeWhile isDig), p + (((ints s).drop p).takeWhile isDig).length)) := by unfold digits; rw [if_neg h0]; rfl
    go_enter Tryz.func81, Tryz.ntmps81
    go_wp2_with (go_at_call 79; refine (take_no hr 48 h0).mono ?_; rintro x w' ⟨rfl, rfl⟩)
    go_loopw [3] (fun v wr => ∃ q : Nat, v = .int .i64 (digs (((ints s).drop p).take (q - p))) ∧ p ≤ q ∧ q ≤ s.size ∧ (∀ c ∈ ((ints s).drop p).take (q - p), isDig c = true) ∧
        ((ints s).drop p).takeWhile isDig = ((ints s).drop p).take (q - p) ++ ((ints s).drop q).takeWhile isDig ∧ Rdr wr R s q e l ∧ Keep (One R) w wr) (fun _ wr => s.size - posOf R wr)
    case atStart => exact ⟨p, by rw [Nat.sub_self]; rfl, Nat.le_refl _, hp, by rw [Nat.sub_self]; simp, by rw [Nat.sub_self]; simp, hr, Keep.refl _ _⟩
    case round =>
      obtain ⟨q, rfl, hpq, hq, hall, htw, hrq, hkeep⟩ := hrel
      clear hr
      have hdb := digs_bd _ hall
      have HALL : Hid (∀ c ∈ ((ints s).drop p).take (q - p), isDig c = true) := hall
      have HTW : Hid (((ints s).drop p).takeWhile isDig = ((ints s).drop p).take (q - p) ++ ((ints s).drop q).takeWhile isDig) := htw
      obtain ⟨n, hn⟩ : ∃ n, digs (((ints s).drop p).take (q - p)) = n := ⟨_, rfl⟩
      rw [hn] at hdb ⊢
      have HN : Hid (digs (((ints s).drop p).take (q - p)) = n) := hn
      have hbb := byte_bd s q
      clear hall htw hn
      cases hd : isDig (byteAt (ints s) q) with
      | true =>
        have hlt : q < s.size := by
          have := byteAt_lt (dig_ne hd)
          rw [ints_length] at this; exact this
        have hdg : 48 ≤ byteAt (ints s) q ∧ byteAt (ints s) q ≤ 57 := by unfold isDig at hd; simpa using hd
        obtain ⟨g1, g2⟩ := digs_take hpq hd HTW.out
        have G1 : Hid (((ints s).drop p).takeWhile isDig = ((ints s).drop p).take (q + 1 - p) ++ ((ints s).drop (q + 1)).takeWhile isDig) := g1
        have G2 : Hid (((ints s).drop p).take (q + 1 - p) = ((ints s).drop p).take (q - p) ++ [byteAt (ints s) q]) := g2
        have G3 : Hid (∀ c ∈ ((ints s).drop p).take (q + 1 - p), isDig c = true) := by
          intro c hc
          rw [G2.out] at hc
          rcases List.mem_append.1 hc with hc | hc
          · exact HALL.out c hc
          · rw [List.mem_singleton.1 hc]; exact hd
        clear g1 g2
        have c1 := hrq.c1
        have f1 := hrq.fz 1
        have HR : Rdr (wr.setCell ⟨R, 1, none⟩ (.int .i64 ((q : Int) + 1))) R s (q + 1) e l := hrq.at (q + 1)
        have HK : Keep (One R) w (wr.setCell ⟨R, 1, none⟩ (.int .i64 ((q : Int) + 1))) := hkeep.then (Rdr.setAt wr R (q + 1))
        have HP := posOf_rdr HR
        have HP0 := posOf_rdr hrq
        by_cases hm : n ≤ 9007199254740991
        · have G4 : Hid (digs (((ints s).drop p).take (q + 1 - p)) = n * 10 + (byteAt (ints s) q - 48)) := by
            rw [G2.out]
            unfold digs
            rw [List.foldl_append]
            have := HN.out
            unfold digs at this
            rw [this]
            show (if n ≤ maxInt then n * 10 + (byteAt (ints s) q - 48) else n) = _
            rw [if_pos (by unfold maxInt; exact hm)]
          go_wp2_with (first
            | (go_at_call 58; refine (peek_any hrq).mono ?_; rintro x w' ⟨rfl, rfl⟩)
            | (go_at_call 75; refine (isDigit_any _ _).mono ?_; rw [hd]; rintro x w' ⟨rfl, rfl⟩))
          go_roundw
          case rel => exact ⟨q + 1, by rw [G4.out], by omega, hlt, G3.out, G1.out, HR, HK⟩
          case measure => rw [HP, HP0]; omega
        · have G4 : Hid (digs (((ints s).drop p).take (q + 1 - p)) = n) := by
            rw [G2.out]
            unfold digs
            rw [List.foldl_append]
            have := HN.out
            unfold digs at this
            rw [this]
            show (if n ≤ maxInt then n * 10 + (byteAt (ints s) q - 48) else n) = _
            rw [if_neg (by unfold maxInt; exact hm)]
          go_wp2_with (first
            | (go_at_call 58; refine (peek_any hrq).mono ?_; rintro x w' ⟨rfl, rfl⟩)
            | (go_at_call 75; refine (isDigit_any _ _).mono ?_; rw [hd]; rintro x w' ⟨rfl, rfl⟩))
          go_roundw
          case rel => exact ⟨q + 1, by rw [G4.out], by omega, hlt, G3.out, G1.out, HR, HK⟩
          case measure => rw [HP, HP0]; omega
      | false =>
        have HE : Hid (((ints s).drop p).takeWhile isDig = ((ints s).drop p).take (q - p)) := by
          rw [HTW.out, digs_end hd, List.append_nil]; rfl
        go_wp2_with (first
          | (go_at_call 58; refine (peek_any hrq).mono ?_; rintro x w' ⟨rfl, rfl⟩)
          | (go_at_call 75; refine (isDigit_any _ _).mono ?_; rw [hd]; rintro x w' ⟨rfl, rfl⟩))
        go_ret
        rw [HD.out]
        refine ⟨ret_int ?_, ?_⟩
        · rw [HE.out]; exact HN.out.symm
        · rw [HE.out]
          have hlen : (((ints s).drop p).take (q - p)).length = q - p := by
            rw [List.length_take, List.length_drop, ints_length]; omega
          rw [hlen, show p + (q - p) = q by omega]
          exact ⟨⟨_, _, hrq⟩, hkeep⟩
end Go.Proofs.YtnmhpejnjaeecaaGreatDoor
namespace Go.Proofs.YtnmhpejnjaeecaaGreatDoor
open Go.RowKit

theorem Tryz.info5 : (Tryz.prog.info? 5).map (fun i => (i.zero, i.size, i.bytes)) = some (some (.int .u8 0), 1, 1) := by kernel_rfl
/-- One integer more at the end of a row of the call's own. -/
theorem wpList_push {w : World} {ops : Array Oper} {rest : List Oper} {o : Oper} {a : Act} {Q : Exit → Act → World → Prop} (hgd : o.guard = none) (s x : Operand) (t e : TypeId) (k : IntKind) (bytes : Nat)
    (ho : o.op = .call { callee := .builtin .append, args := #[s, x], argTypes := #[t, t] }) (ht : Tryz.prog.underlying t = some (.slice e))
    (hinfo : (Tryz.prog.info? e).map (fun i => (i.zero, i.size, i.bytes)) = some (some (.int k 0), 1, bytes)) (hby : bytes ≤ 8)
    (base : Nat) (v : Value) (L : List Int) (hs : a.eval s = v) (hown : w.ownsRow base e 1 v L.length (L.map (Value.int k)))
    (ad : Addr) (y : Int) (hx : a.eval x = .slice (some ad) 1 1) (hc : w.cell? ad = some (.int k y)) (hlen : L.length ≤ 1000000000) (hbase : base ≤ w.heap.size)
    (h : ∀ v' w', w'.ownsRow base e 1 v' (L ++ [y]).length ((L ++ [y]).map (Value.int k)) → w.grownBy w' v.ownBlock → wpList Tryz.prog ops Q rest (a.put o.dst v') w') : wpList Tryz.prog ops Q (o :: rest) a w := by
  obtain ⟨i0, hi, hz0, hz1, hz2⟩ := info_parts hinfo
  refine wpList_append_own w hgd s x t ho base e i0 (.int k 0) 1 bytes ht hi hz0 hz1 hz2 rfl (by decide) v L.length (L.map (Value.int k)) hs hown ad 1 1 [.int k y] hx rfl (fun j u hj => ?_) (fun u hu => ?_) (by unfold maxLen; omega) ?_ hbase ?_
  · match j, hj with
    | 0, hj => simp at hj; subst hj; simpa [Addr.add] using hc
  · simp at hu; subst hu; rfl
  · have : (L.length + 1) * bytes ≤ (L.length + 1) * 8 := Nat.mul_le_mul_left _ hby
    omega
  · intro v' w' hown' hgrow _
    exact h v' w' (by rw [List.length_append, List.map_append]; exact hown') hgrow
theorem own_string {w : World} {B : Nat} {v : Value} {xs : List Int} (h : w.ownsRow B 5 1 v xs.length (xs.map (Value.int .u8))) :
    (convert 27 9 v).run Tryz.prog w = .ok (.string (strOfNums xs)) w := by
  rcases h.2 with ⟨rfl, hn⟩ | ⟨g, cap, cur, rfl, hg, _⟩
  · obtain rfl : xs = [] := List.eq_nil_of_length_eq_zero hn
    exact run_convert_bytes_nil w 27 5 Tryz.underlying27 Tryz.underlying5 0 0 9 Tryz.underlying9
  · refine run_convert_bytes_arg w 27 5 Tryz.underlying27 Tryz.underlying5 g 0 xs.length cap xs rfl (fun i hi => ?_) 9 Tryz.underlying9
    rw [Nat.zero_add, h.cellAt i (by omega), List.getElem?_map, List.getElem?_eq_getElem hi, List.getD_eq_getElem?_getD, List.getElem?_eq_getElem hi]
    rfl
theorem own_ge {w : World} {B e size n : Nat} {v : Value} {xs : List Value} (h : w.ownsRow B e size v n xs) : ∀ k, v.ownBlock = some k → B ≤ k ∧ k < w.heap.size := by
  intro k hk
  rcases h.2 with ⟨rfl, _⟩ | ⟨g, cap, cur, rfl, hg, hgg, _⟩
  · cases hk
  · cases hk; exact ⟨hg, (Array.getElem?_eq_some_iff.1 hgg).1⟩
/-- What a row of the call's own does to what lay there before: nothing. -/
theorem Keep.grown {S : Nat → Prop} {a b c : World} {row : Option Nat} (h : Keep S a b) (hg : b.grownBy c row) (hr : ∀ k, row = some k → a.heap.size ≤ k) : Keep S a c :=
  h.trans (S' := fun k => row = some k) (Keep.of_grown hg fun _ _ e => e) fun i hi e => absurd (hr i e) (by omega)
end Go.Proofs.YtnmhpejnjaeecaaGreatDoor
namespace Go.Proofs.YtnmhpejnjaeecaaGreatDoor
open Go.RowKit

/-- The five cells of a value without parts. -/
def flat (k i : Int) (t : ByteArray) : Array Value := #[.int .i64 k, .int .i64 i, .string t, .slice none 0 0, .slice none 0 0]
theorem flat_isJ (O : Nat → Prop) (w : World) (k i : Int) (t : ByteArray) : isJ O w (.mk k i t [] []) (flat k i t).toList := by
  unfold isJ flat
  exact ⟨none, 0, none, 0, rfl, RdK.nil _ _, Nat.le_refl _, by unfold isJs; trivial⟩
/-- What lies in blocks that the call made. -/
def New (w w' : World) : Nat → Prop := fun k => w.heap.size ≤ k ∧ k < w'.heap.size
/-- What a reader of a value returns. -/
def valTold (w w' : World) (R : Nat) (s : ByteArray) (r : Res J) (x : Ending) : Prop := match r with
  | .ok j q => (∃ k i t pk nk ck pl nl cl, x = .returned (.tuple #[.agg #[.int .i64 k, .int .i64 i, .string t, .slice pk nk ck, .slice pl nl cl], .bool true]) ∧ isJ (New w w') w' j [.int .i64 k, .int .i64 i, .string t, .slice pk nk ck, .slice pl nl cl]) ∧ OkAt w w' R s q
  | .bad e l => (∃ k i t, x = .returned (.tuple #[.agg (flat k i t), .bool false])) ∧ BadAt w w' R s e l
theorem json_keep {w w' : World} {R : Nat} {cs : Array Value} (hk : Keep (One R) (w.alloc (.cells cs 25)) w') (hR : R < w.heap.size) : w'.heap[w.heap.size]? = some (.cells cs 25 (0, 0)) := by
  rw [hk.block w.heap.size (by simp) (fun h => by unfold One at h; omega)]
  exact heap_alloc_new _ _
section
variable {w : World} {b : Nat} {a0 a1 a2 a3 a4 : Value} {t : TypeId}
theorem five_c0 (h : w.heap[b]? = some (.cells #[a0, a1, a2, a3, a4] t (0, 0))) : w.cell? ⟨b, 0, none⟩ = some a0 := cell_row (cur := [_, _, _, _, _]) h 0 _ rfl
theorem five_c1 (h : w.heap[b]? = some (.cells #[a0, a1, a2, a3, a4] t (0, 0))) : w.cell? ⟨b, 1, none⟩ = some a1 := cell_row (cur := [_, _, _, _, _]) h 1 _ rfl
theorem five_c2 (h : w.heap[b]? = some (.cells #[a0, a1, a2, a3, a4] t (0, 0))) : w.cell? ⟨b, 2, none⟩ = some a2 := cell_row (cur := [_, _, _, _, _]) h 2 _ rfl
theorem five_c3 (h : w.heap[b]? = some (.cells #[a0, a1, a2, a3, a4] t (0, 0))) : w.cell? ⟨b, 3, none⟩ = some a3 := cell_row (cur := [_, _, _, _, _]) h 3 _ rfl
theorem five_c4 (h : w.heap[b]? = some (.cells #[a0, a1, a2, a3, a4] t (0, 0))) : w.cell? ⟨b, 4, none⟩ = some a4 := cell_row (cur := [_, _, _, _, _]) h 4 _ rfl
theorem five_fz (h : w.heap[b]? = some (.cells #[a0, a1, a2, a3, a4] t (0, 0))) (j : Nat) : w.frozen? ⟨b, j, none⟩ = false := frozen_of_row w b j _ _ h
/-- A value stored into five cells. -/
def set5 (w : World) (b : Nat) (v0 v1 v2 v3 v4 : Value) : World := ((((w.setCell ⟨b, 0, none⟩ v0).setCell ⟨b, 1, none⟩ v1).setCell ⟨b, 2, none⟩ v2).setCell ⟨b, 3, none⟩ v3).setCell ⟨b, 4, none⟩ v4
theorem set5_heap (h : w.heap[b]? = some (.cells #[a0, a1, a2, a3, a4] t (0, 0))) (v0 v1 v2 v3 v4 : Value) : (set5 w b v0 v1 v2 v3 v4).heap[b]? = some (.cells #[v0, v1, v2, v3, v4] t (0, 0)) := by
  have h0 : (w.setCell ⟨b, 0, none⟩ v0).heap[b]? = some (.cells #[v0, a1, a2, a3, a4] t (0, 0)) := by rw [heap_setCell_same w b 0 _ _ _ h]; rfl
  have h1 : ((w.setCell ⟨b, 0, none⟩ v0).setCell ⟨b, 1, none⟩ v1).heap[b]? = some (.cells #[v0, v1, a2, a3, a4] t (0, 0)) := by rw [heap_setCell_same _ b 1 _ _ _ h0]; rfl
  have h2 : (((w.setCell ⟨b, 0, none⟩ v0).setCell ⟨b, 1, none⟩ v1).setCell ⟨b, 2, none⟩ v2).heap[b]? = some (.cells #[v0, v1, v2, a3, a4] t (0, 0)) := by rw [heap_setCell_same _ b 2 _ _ _ h1]; rfl
  have h3 : ((((w.setCell ⟨b, 0, none⟩ v0).setCell ⟨b, 1, none⟩ v1).setCell ⟨b, 2, none⟩ v2).setCell ⟨b, 3, none⟩ v3).heap[b]? = some (.cells #[v0, v1, v2, v3, a4] t (0, 0)) := by rw [heap_setCell_same _ b 3 _ _ _ h2]; rfl
  unfold set5
  rw [heap_setCell_same _ b 4 _ _ _ h3]; rfl
theorem set5_keep (w : World) (b : Nat) (v0 v1 v2 v3 v4 : Value) : Keep (One b) w (set5 w b v0 v1 v2 v3 v4) :=
  Keep.setCell (Keep.setCell (Keep.setCell (Keep.setCell (Keep.setCell (Keep.refl _ _) (fun _ => (rfl : b = b)) _) (fun _ => (rfl : b = b)) _) (fun _ => (rfl : b = b)) _) (fun _ => (rfl : b = b)) _) (fun _ => (rfl : b = b)) _
end
theorem digits_bd (t : List Int) (p : Nat) : 0 ≤ (digits t p).1 ∧ (digits t p).1 ≤ 90071992547409919 := by
  unfold digits
  split
  · simp
  · exact digs_bd _ fun c hc => List.all_eq_true.1 List.all_takeWhile c hc
set_option maxHeartbeats 4000000 in
theorem number_any {w : World} {R p : Nat} {s : ByteArray} {e l : Int} (hr : Rdr w R s p e l) (hs : short s) (hp : p ≤ s.size) :
    Calls Tryz.prog 64 #[.pointer (some ⟨R, 0, none⟩)] w fun x w' => valTold w w' R s (number (ints s) p) x := by
  have hsz := hs
  unfold short at hsz
  have hR := hr.lt
  have hra : Rdr (w.alloc (.cells (flat 0 0 nix) 25)) R s p e l := hr.keep (S := fun _ => False) ((Keep.refl _ _).alloc _) (fun h => h)
  have hka : Keep (One R) w (w.alloc (.cells (flat 0 0 nix) 25)) := (Keep.refl _ _).alloc _
  have c1 := hra.c1
  unfold flat nix at hra hka c1
  by_cases h45 : byteAt (ints s) p = 45
  · have hlt : p < s.size := by have := byteAt_lt (t := ints s) (p := p) (by rw [h45]; decide); rw [ints_length] at this; exact this
    have hq : p + 1 ≤ s.size := hlt
    have HQ : Hid ((if byteAt (ints s) p = 45 then p + 1 else p) = p + 1) := if_pos h45
    cases hd : isDig (byteAt (ints s) (p + 1)) with
    | false =>
      have HN : Hid (number (ints s) p = .bad 11 (p + 1)) := by unfold number; rw [HQ.out, if_neg (by simp [hd])]; rfl
      go_enter Tryz.func64, Tryz.ntmps64
      go_wp2_with (first
        | (go_at_call 79; refine (take_yes hra (by omega) 45 h45).mono ?_; rintro x w1 ⟨rfl, ⟨⟨e1, l1, hr1⟩, hk1⟩⟩; have d1 := hr1.c1)
        | (go_at_call 58; refine (peek_any hr1).mono ?_; rintro x w' ⟨rfl, rfl⟩)
        | (go_at_call 75; refine (isDigit_any _ _).mono ?_; rw [hd]; rintro x w' ⟨rfl, rfl⟩)
        | (go_at_call 48; refine (fail_any hr1 11 (((p + 1) : Nat) : Int)).mono ?_; rintro x w3 ⟨rfl, hr3, hk3⟩; have hka3 := hk1.then hk3; have hj3 := json_keep hka3 hR; have j0 := five_c0 hj3; have j1 := five_c1 hj3; have j2 := five_c2 hj3; have j3 := five_c3 hj3; have j4 := five_c4 hj3; have z0 := five_fz hj3 0; have z1 := five_fz hj3 1; have z2 := five_fz hj3 2; have z3 := five_fz hj3 3; have z4 := five_fz hj3 4))
      have h5 := set5_heap hj3 (.int .i64 0) (.int .i64 0) (.string ⟨#[]⟩) (.slice none 0 0) (.slice none 0 0)
      have HK5 : Keep (One w.heap.size) w3 _ := set5_keep w3 w.heap.size (.int .i64 0) (.int .i64 0) (.string ⟨#[]⟩) (.slice none 0 0) (.slice none 0 0)
      unfold set5 at h5 HK5
      have k0 := five_c0 h5; have k1 := five_c1 h5; have k2 := five_c2 h5; have k3 := five_c3 h5; have k4 := five_c4 h5
      refine bodyPost_ret (v := .tuple #[.agg #[.int .i64 0, .int .i64 0, .string ⟨#[]⟩, .slice none 0 0, .slice none 0 0], .bool false]) (by simp [results, Tryz.results64, go_sem, k0, k1, k2, k3, k4]) rfl ?_
      rw [HN.out]
      refine ⟨⟨0, 0, nix, rfl⟩, ⟨_, hr3.keep HK5 (fun h => by unfold One at h; omega)⟩, (hka.then hka3).trans HK5 (fun i hi h => by unfold One at h; omega)⟩
    | true =>
      have hdg := digits_any (w := w) (R := R) (p := (p + 1)) (s := s) (e := e) (l := l)
      have hadv := digits_adv hd
      obtain ⟨n, q2, hdd⟩ : ∃ n q2, digits (ints s) (p + 1) = (n, q2) := ⟨_, _, rfl⟩
      have hnb : 0 ≤ n ∧ n ≤ 90071992547409919 := by
        have : n = (digits (ints s) (p + 1)).1 := by rw [hdd]
        rw [this]; exact digits_bd _ _
      rw [hdd] at hadv
      clear hdg
      obtain ⟨c, hc⟩ : ∃ c, byteAt (ints s) q2 = c := ⟨_, rfl⟩
      have hn0 : number (ints s) p = if maxInt < n ∨ c = 46 ∨ c = 101 ∨ c = 69 then .bad 15 p else .ok (.mk 2 (if byteAt (ints s) p = 45 then -n else n) nix [] []) q2 := by unfold number; rw [HQ.out, if_pos hd, hdd]; simp only [hc]
      have HN : Hid (number (ints s) p = if maxInt < n ∨ c = 46 ∨ c = 101 ∨ c = 69 then .bad 15 p else .ok (.mk 2 (if byteAt (ints s) p = 45 then -n else n) nix [] []) q2) := hn0
      clear hn0
      by_cases hbad : maxInt < n ∨ c = 46 ∨ c = 101 ∨ c = 69
      · have HB : Hid (number (ints s) p = .bad 15 p) := by rw [HN.out, if_pos hbad]; rfl
        unfold maxInt at hbad
        clear HN
        rcases hbad with hbad | rfl | rfl | rfl
        all_goals
          go_enter Tryz.func64, Tryz.ntmps64
          go_wp2_with (first
            | (go_at_call 79; refine (take_yes hra (by omega) 45 h45).mono ?_; rintro x w1 ⟨rfl, ⟨⟨e1, l1, hr1⟩, hk1⟩⟩; have d1 := hr1.c1)
            | (go_at_call 58; have _h := hr2; refine (peek_any hr2).mono ?_; rw [hc]; rintro x w' ⟨rfl, rfl⟩)
            | (go_at_call 58; refine (peek_any hr1).mono ?_; rintro x w' ⟨rfl, rfl⟩)
            | (go_at_call 75; refine (isDigit_any _ _).mono ?_; rw [hd]; rintro x w' ⟨rfl, rfl⟩)
            | (go_at_call 81; refine (digits_any hr1 hs hq).mono ?_; rw [hdd]; rintro x w2 ⟨rfl, ⟨⟨e2, l2, hr2⟩, hk2⟩⟩; have hka2 := hk1.then hk2; have hj2 := json_keep hka2 hR; have j0 := five_c0 hj2; have j1 := five_c1 hj2; have j2 := five_c2 hj2; have j3 := five_c3 hj2; have j4 := five_c4 hj2; have z0 := five_fz hj2 0; have z1 := five_fz hj2 1; have z2 := five_fz hj2 2; have z3 := five_fz hj2 3; have z4 := five_fz hj2 4)
            | (go_at_call 48; refine (fail_any hr2 15 (p : Int)).mono ?_; rintro x w3 ⟨rfl, hr3, hk3⟩; have hka3 := hka2.then hk3; have hj3 := json_keep hka3 hR; have j0 := five_c0 hj3; have j1 := five_c1 hj3; have j2 := five_c2 hj3; have j3 := five_c3 hj3; have j4 := five_c4 hj3; have z0 := five_fz hj3 0; have z1 := five_fz hj3 1; have z2 := five_fz hj3 2; have z3 := five_fz hj3 3; have z4 := five_fz hj3 4))
          all_goals
            have h5 := set5_heap hj3 (.int .i64 0) (.int .i64 0) (.string ⟨#[]⟩) (.slice none 0 0) (.slice none 0 0)
            have HK5 : Keep (One w.heap.size) w3 _ := set5_keep w3 w.heap.size (.int .i64 0) (.int .i64 0) (.string ⟨#[]⟩) (.slice none 0 0) (.slice none 0 0)
            unfold set5 at h5 HK5
            have k0 := five_c0 h5; have k1 := five_c1 h5; have k2 := five_c2 h5; have k3 := five_c3 h5; have k4 := five_c4 h5
            refine bodyPost_ret (v := .tuple #[.agg #[.int .i64 0, .int .i64 0, .string ⟨#[]⟩, .slice none 0 0, .slice none 0 0], .bool false]) (by simp [results, Tryz.results64, go_sem, k0, k1, k2, k3, k4]) rfl ?_
            rw [HB.out]
            exact ⟨⟨0, 0, nix, rfl⟩, ⟨_, hr3.keep HK5 (fun h => by unfold One at h; omega)⟩, (hka.then hka3).trans HK5 (fun i hi h => by unfold One at h; omega)⟩
      · have HB : Hid (number (ints s) p = .ok (.mk 2 (-n) nix [] []) q2) := by rw [HN.out, if_neg hbad, if_pos h45]; rfl
        have b1 : ¬ 9007199254740991 < n := fun h => hbad (.inl h)
        have b2 : ¬ c = 46 := fun h => hbad (.inr (.inl h))
        have b3 : ¬ c = 101 := fun h => hbad (.inr (.inr (.inl h)))
        have b4 : ¬ c = 69 := fun h => hbad (.inr (.inr (.inr h)))
        have b5 : (c == 46) = false := by simp [b2]
        have b6 : (c == 101) = false := by simp [b3]
        have b7 : (c == 69) = false := by simp [b4]
        clear hbad HN
        go_enter Tryz.func64, Tryz.ntmps64
        go_wp2_with (first
          | (go_at_call 79; refine (take_yes hra (by omega) 45 h45).mono ?_; rintro x w1 ⟨rfl, ⟨⟨e1, l1, hr1⟩, hk1⟩⟩; have d1 := hr1.c1)
          | (go_at_call 58; have _h := hr2; refine (peek_any hr2).mono ?_; rw [hc]; rintro x w' ⟨rfl, rfl⟩)
          | (go_at_call 58; refine (peek_any hr1).mono ?_; rintro x w' ⟨rfl, rfl⟩)
          | (go_at_call 75; refine (isDigit_any _ _).mono ?_; rw [hd]; rintro x w' ⟨rfl, rfl⟩)
          | (go_at_call 81; refine (digits_any hr1 hs hq).mono ?_; rw [hdd]; rintro x w2 ⟨rfl, ⟨⟨e2, l2, hr2⟩, hk2⟩⟩; have hka2 := hk1.then hk2; have hj2 := json_keep hka2 hR; have j0 := five_c0 hj2; have j1 := five_c1 hj2; have j2 := five_c2 hj2; have j3 := five_c3 hj2; have j4 := five_c4 hj2; have z0 := five_fz hj2 0; have z1 := five_fz hj2 1; have z2 := five_fz hj2 2; have z3 := five_fz hj2 3; have z4 := five_fz hj2 4))
        have h5 := set5_heap hj2 (.int .i64 2) (.int .i64 (-n)) (.string ⟨#[]⟩) (.slice none 0 0) (.slice none 0 0)
        have HK5 : Keep (One w.heap.size) w2 _ := set5_keep w2 w.heap.size (.int .i64 2) (.int .i64 (-n)) (.string ⟨#[]⟩) (.slice none 0 0) (.slice none 0 0)
        unfold set5 at h5 HK5
        have k0 := five_c0 h5; have k1 := five_c1 h5; have k2 := five_c2 h5; have k3 := five_c3 h5; have k4 := five_c4 h5
        refine bodyPost_ret (v := .tuple #[.agg #[.int .i64 2, .int .i64 (-n), .string ⟨#[]⟩, .slice none 0 0, .slice none 0 0], .bool true]) (by simp [results, Tryz.results64, go_sem, k0, k1, k2, k3, k4]) rfl ?_
        rw [HB.out]
        exact ⟨⟨_, _, _, _, _, _, _, _, _, rfl, flat_isJ _ _ 2 (-n) nix⟩, ⟨_, _, hr2.keep HK5 (fun h => by unfold One at h; omega)⟩, (hka.then hka2).trans HK5 (fun i hi h => by unfold One at h; omega)⟩
  have hq : p ≤ s.size := hp
  have HQ : Hid ((if byteAt (ints s) p = 45 then p + 1 else p) = p) := if_neg h45
  cases hd : isDig (byteAt (ints s) p) with
  | false =>
    have HN : Hid (number (ints s) p = .bad 11 p) := by unfold number; rw [HQ.out, if_neg (by simp [hd])]; rfl
    go_enter Tryz.func64, Tryz.ntmps64
    go_wp2_with (first
      | (go_at_call 79; refine (take_no hra 45 h45).mono ?_; rintro x w' ⟨rfl, rfl⟩; have hr1 := hra; have hk1 := Keep.refl (One R) (w.alloc (.cells #[.int .i64 0, .int .i64 0, .string ⟨#[]⟩, .slice none 0 0, .slice none 0 0] 25)))
      | (go_at_call 58; refine (peek_any hr1).mono ?_; rintro x w' ⟨rfl, rfl⟩)
      | (go_at_call 75; refine (isDigit_any _ _).mono ?_; rw [hd]; rintro x w' ⟨rfl, rfl⟩)
      | (go_at_call 48; refine (fail_any hr1 11 ((p : Nat) : Int)).mono ?_; rintro x w3 ⟨rfl, hr3, hk3⟩; have hka3 := hk1.then hk3; have hj3 := json_keep hka3 hR; have j0 := five_c0 hj3; have j1 := five_c1 hj3; have j2 := five_c2 hj3; have j3 := five_c3 hj3; have j4 := five_c4 hj3; have z0 := five_fz hj3 0; have z1 := five_fz hj3 1; have z2 := five_fz hj3 2; have z3 := five_fz hj3 3; have z4 := five_fz hj3 4))
    have h5 := set5_heap hj3 (.int .i64 0) (.int .i64 0) (.string ⟨#[]⟩) (.slice none 0 0) (.slice none 0 0)
    have HK5 : Keep (One w.heap.size) w3 _ := set5_keep w3 w.heap.size (.int .i64 0) (.int .i64 0) (.string ⟨#[]⟩) (.slice none 0 0) (.slice none 0 0)
    unfold set5 at h5 HK5
    have k0 := five_c0 h5; have k1 := five_c1 h5; have k2 := five_c2 h5; have k3 := five_c3 h5; have k4 := five_c4 h5
    refine bodyPost_ret (v := .tuple #[.agg #[.int .i64 0, .int .i64 0, .string ⟨#[]⟩, .slice none 0 0, .slice none 0 0], .bool false]) (by simp [results, Tryz.results64, go_sem, k0, k1, k2, k3, k4]) rfl ?_
    rw [HN.out]
    refine ⟨⟨0, 0, nix, rfl⟩, ⟨_, hr3.keep HK5 (fun h => by unfold One at h; omega)⟩, (hka.then hka3).trans HK5 (fun i hi h => by unfold One at h; omega)⟩
  | true =>
    have hdg := digits_any (w := w) (R := R) (p := p) (s := s) (e := e) (l := l)
    have hadv := digits_adv hd
    obtain ⟨n, q2, hdd⟩ : ∃ n q2, digits (ints s) p = (n, q2) := ⟨_, _, rfl⟩
    have hnb : 0 ≤ n ∧ n ≤ 90071992547409919 := by
      have : n = (digits (ints s) p).1 := by rw [hdd]
      rw [this]; exact digits_bd _ _
    rw [hdd] at hadv
    clear hdg
    obtain ⟨c, hc⟩ : ∃ c, byteAt (ints s) q2 = c := ⟨_, rfl⟩
    have hn0 : number (ints s) p = if maxInt < n ∨ c = 46 ∨ c = 101 ∨ c = 69 then .bad 15 p else .ok (.mk 2 (if byteAt (ints s) p = 45 then -n else n) nix [] []) q2 := by unfold number; rw [HQ.out, if_pos hd, hdd]; simp only [hc]
    have HN : Hid (number (ints s) p = if maxInt < n ∨ c = 46 ∨ c = 101 ∨ c = 69 then .bad 15 p else .ok (.mk 2 (if byteAt (ints s) p = 45 then -n else n) nix [] []) q2) := hn0
    clear hn0
    by_cases hbad : maxInt < n ∨ c = 46 ∨ c = 101 ∨ c = 69
    · have HB : Hid (number (ints s) p = .bad 15 p) := by rw [HN.out, if_pos hbad]; rfl
      unfold maxInt at hbad
      clear HN
      rcases hbad with hbad | rfl | rfl | rfl
      all_goals
        go_enter Tryz.func64, Tryz.ntmps64
        go_wp2_with (first
          | (go_at_call 79; refine (take_no hra 45 h45).mono ?_; rintro x w' ⟨rfl, rfl⟩; have hr1 := hra; have hk1 := Keep.refl (One R) (w.alloc (.cells #[.int .i64 0, .int .i64 0, .string ⟨#[]⟩, .slice none 0 0, .slice none 0 0] 25)))
          | (go_at_call 58; have _h := hr2; refine (peek_any hr2).mono ?_; rw [hc]; rintro x w' ⟨rfl, rfl⟩)
          | (go_at_call 58; refine (peek_any hr1).mono ?_; rintro x w' ⟨rfl, rfl⟩)
          | (go_at_call 75; refine (isDigit_any _ _).mono ?_; rw [hd]; rintro x w' ⟨rfl, rfl⟩)
          | (go_at_call 81; refine (digits_any hr1 hs hq).mono ?_; rw [hdd]; rintro x w2 ⟨rfl, ⟨⟨e2, l2, hr2⟩, hk2⟩⟩; have hka2 := hk1.then hk2; have hj2 := json_keep hka2 hR; have j0 := five_c0 hj2; have j1 := five_c1 hj2; have j2 := five_c2 hj2; have j3 := five_c3 hj2; have j4 := five_c4 hj2; have z0 := five_fz hj2 0; have z1 := five_fz hj2 1; have z2 := five_fz hj2 2; have z3 := five_fz hj2 3; have z4 := five_fz hj2 4)
          | (go_at_call 48; refine (fail_any hr2 15 (p : Int)).mono ?_; rintro x w3 ⟨rfl, hr3, hk3⟩; have hka3 := hka2.then hk3; have hj3 := json_keep hka3 hR; have j0 := five_c0 hj3; have j1 := five_c1 hj3; have j2 := five_c2 hj3; have j3 := five_c3 hj3; have j4 := five_c4 hj3; have z0 := five_fz hj3 0; have z1 := five_fz hj3 1; have z2 := five_fz hj3 2; have z3 := five_fz hj3 3; have z4 := five_fz hj3 4))
        all_goals
          have h5 := set5_heap hj3 (.int .i64 0) (.int .i64 0) (.string ⟨#[]⟩) (.slice none 0 0) (.slice none 0 0)
          have HK5 : Keep (One w.heap.size) w3 _ := set5_keep w3 w.heap.size (.int .i64 0) (.int .i64 0) (.string ⟨#[]⟩) (.slice none 0 0) (.slice none 0 0)
          unfold set5 at h5 HK5
          have k0 := five_c0 h5; have k1 := five_c1 h5; have k2 := five_c2 h5; have k3 := five_c3 h5; have k4 := five_c4 h5
          refine bodyPost_ret (v := .tuple #[.agg #[.int .i64 0, .int .i64 0, .string ⟨#[]⟩, .slice none 0 0, .slice none 0 0], .bool false]) (by simp [results, Tryz.results64, go_sem, k0, k1, k2, k3, k4]) rfl ?_
          rw [HB.out]
          exact ⟨⟨0, 0, nix, rfl⟩, ⟨_, hr3.keep HK5 (fun h => by unfold One at h; omega)⟩, (hka.then hka3).trans HK5 (fun i hi h => by unfold One at h; omega)⟩
    · have HB : Hid (number (ints s) p = .ok (.mk 2 (n) nix [] []) q2) := by rw [HN.out, if_neg hbad, if_neg h45]; rfl
      have b1 : ¬ 9007199254740991 < n := fun h => hbad (.inl h)
      have b2 : ¬ c = 46 := fun h => hbad (.inr (.inl h))
      have b3 : ¬ c = 101 := fun h => hbad (.inr (.inr (.inl h)))
      have b4 : ¬ c = 69 := fun h => hbad (.inr (.inr (.inr h)))
      have b5 : (c == 46) = false := by simp [b2]
      have b6 : (c == 101) = false := by simp [b3]
      have b7 : (c == 69) = false := by simp [b4]
      clear hbad HN
      go_enter Tryz.func64, Tryz.ntmps64
      go_wp2_with (first
        | (go_at_call 79; refine (take_no hra 45 h45).mono ?_; rintro x w' ⟨rfl, rfl⟩; have hr1 := hra; have hk1 := Keep.refl (One R) (w.alloc (.cells #[.int .i64 0, .int .i64 0, .string ⟨#[]⟩, .slice none 0 0, .slice none 0 0] 25)))
        | (go_at_call 58; have _h := hr2; refine (peek_any hr2).mono ?_; rw [hc]; rintro x w' ⟨rfl, rfl⟩)
        | (go_at_call 58; refine (peek_any hr1).mono ?_; rintro x w' ⟨rfl, rfl⟩)
        | (go_at_call 75; refine (isDigit_any _ _).mono ?_; rw [hd]; rintro x w' ⟨rfl, rfl⟩)
        | (go_at_call 81; refine (digits_any hr1 hs hq).mono ?_; rw [hdd]; rintro x w2 ⟨rfl, ⟨⟨e2, l2, hr2⟩, hk2⟩⟩; have hka2 := hk1.then hk2; have hj2 := json_keep hka2 hR; have j0 := five_c0 hj2; have j1 := five_c1 hj2; have j2 := five_c2 hj2; have j3 := five_c3 hj2; have j4 := five_c4 hj2; have z0 := five_fz hj2 0; have z1 := five_fz hj2 1; have z2 := five_fz hj2 2; have z3 := five_fz hj2 3; have z4 := five_fz hj2 4))
      have h5 := set5_heap hj2 (.int .i64 2) (.int .i64 n) (.string ⟨#[]⟩) (.slice none 0 0) (.slice none 0 0)
      have HK5 : Keep (One w.heap.size) w2 _ := set5_keep w2 w.heap.size (.int .i64 2) (.int .i64 n) (.string ⟨#[]⟩) (.slice none 0 0) (.slice none 0 0)
      unfold set5 at h5 HK5
      have k0 := five_c0 h5; have k1 := five_c1 h5; have k2 := five_c2 h5; have k3 := five_c3 h5; have k4 := five_c4 h5
      refine bodyPost_ret (v := .tuple #[.agg #[.int .i64 2, .int .i64 n, .string ⟨#[]⟩, .slice none 0 0, .slice none 0 0], .bool true]) (by simp [results, Tryz.results64, go_sem, k0, k1, k2, k3, k4]) rfl ?_
      rw [HB.out]
      exact ⟨⟨_, _, _, _, _, _, _, _, _, rfl, flat_isJ _ _ 2 (n) nix⟩, ⟨_, _, hr2.keep HK5 (fun h => by unfold One at h; omega)⟩, (hka.then hka2).trans HK5 (fun i hi h => by unfold One at h; omega)⟩
end Go.Proofs.YtnmhpejnjaeecaaGreatDoor
namespace Go.Proofs.YtnmhpejnjaeecaaGreatDoor
open Go

section
variable {P : Program} {ops : Array Oper} {Q : Exit → Act → World → Prop} {md : Region.Mode} {C : World → Prop}

/-- Another operation's deed, with x's slot laid ahead or behind; R: what is known of the frame that is left. -/
theorem upon_late {x y : Oper} {v : Value} {a : Act} {K : Act → World → Prop} {r : Result Next} (hxy : ∀ d, x.dst = some d → y.dst ≠ some d)
    (hQ : ∀ c a w, Q (.panic c) (a.put x.dst v) w → Q (.panic c) a w) (R : Act → Prop) (hR : ∀ u, R (a.put y.dst u)) (hD : ∀ d u, R ({ a with defers := d :: a.defers }.put y.dst u))
    (h : y.upon P (a.put x.dst v) K Q r) : y.upon P a (fun a' w' => R a' ∧ K (a'.put x.dst v) w') Q r := by
  match r with
  | .ok (.value u) w' => exact ⟨hR u, (Act.put_comm a v u hxy) ▸ h⟩
  | .ok .skip w' => exact ⟨hR _, (Act.put_comm a v undef hxy) ▸ h⟩
  | .ok (.defer d) w' =>
    refine ⟨hD d _, ?_⟩
    rw [← Act.put_comm _ v undef hxy, ← Act.put_defers]
    exact h
  | .ok (.enter f args) w' =>
    refine Calls.mono h fun e w'' he => ?_
    match e with
    | .returned u => exact ⟨hR u, (Act.put_comm a v u hxy) ▸ he⟩
    | .panicked c => exact hQ _ _ _ he
    | .outgrown => exact he
  | .ok (.row row args) w' => exact Rows.mono h fun u w'' he => ⟨hR u, (Act.put_comm a v u hxy) ▸ he⟩
  | .halt (.panic u) w' => exact hQ _ _ _ h
  | .halt .blocked _ => exact h
  | .halt .waiting _ => exact h
  | .halt (.stuck _) _ => exact h
  | .halt (.unsupported _) _ => exact h

theorem wpOp_late {j : Nat} {x y : Oper} {v : Value} (hj : ops[j]? = some y) (hap : x.apart ops y = true) (hx : ∀ cs b, x.op ≠ .select cs b) (hy : ∀ cs b, y.op ≠ .select cs b)
    (hQ : ∀ c a w, Q (.panic c) (a.put x.dst v) w → Q (.panic c) a w) {K : Act → World → Prop} {a : Act} {w : World} (h : wpOp P ops Q j K (a.put x.dst v) w) :
    wpOp P ops Q j (fun a' w' => (execOp a'.eval x = execOp a.eval x ∧ Region.wanted x (yielded ops a'.tmps) = Region.wanted x (yielded ops a.tmps)) ∧ K (a'.put x.dst v) w') a w := by
  obtain ⟨h1, h2, h3⟩ := Oper.apart_spec hap
  have hR : ∀ u, execOp (a.put y.dst u).eval x = execOp a.eval x ∧ Region.wanted x (yielded ops (a.put y.dst u).tmps) = Region.wanted x (yielded ops a.tmps) :=
    fun u => ⟨execOp_put x hx a y.dst u h3, wanted_put x a y.dst u h3⟩
  have hD : ∀ (d : Deferred) u, execOp ({ a with defers := d :: a.defers }.put y.dst u : Act).eval x = execOp a.eval x ∧ Region.wanted x (yielded ops ({ a with defers := d :: a.defers }.put y.dst u : Act).tmps) = Region.wanted x (yielded ops a.tmps) :=
    fun d u => ⟨execOp_put x hx { a with defers := d :: a.defers } y.dst u h3, wanted_put x { a with defers := d :: a.defers } y.dst u h3⟩
  have e1 := wanted_put y a x.dst v h1
  have e2 := execOp_put y hy a x.dst v h1
  unfold wpOp at h ⊢
  simp only [hj] at h ⊢
  rw [e1] at h
  by_cases hw : Region.wanted y (yielded ops a.tmps) = true
  · rw [if_pos hw] at h ⊢
    rcases h with h | ⟨ha, hl⟩
    · left
      unfold Oper.wp at h ⊢
      rw [e2] at h
      exact upon_late h2 hQ (fun a' => execOp a'.eval x = execOp a.eval x ∧ Region.wanted x (yielded ops a'.tmps) = Region.wanted x (yielded ops a.tmps)) hR hD h
    · right
      unfold Oper.asks at ha ⊢
      rw [e2] at ha
      exact ⟨ha, hl⟩
  · rw [if_neg hw] at h ⊢
    exact ⟨hR _, (Act.put_comm a v undef h2) ▸ h⟩

/-- What is asked in whatever order, where each operation keeps to the class C. -/
def wpIn (P : Program) (md : Region.Mode) (ops : Array Oper) (Q : Exit → Act → World → Prop) (C : World → Prop) : Nat → Array Bool → Act → World → Prop
  | 0, listed, a, w => C w ∧ Region.ready md ops listed = [] ∧ Q .normal a w
  | n + 1, listed, a, w => C w ∧ (Region.ready md ops listed = [] → Q .normal a w) ∧ ∀ i ∈ Region.ready md ops listed, wpOp P ops Q i (wpIn P md ops Q C n (listed.setIfInBounds i true)) a w

theorem wpIn.any : ∀ {n : Nat} {listed : Array Bool} {a : Act} {w : World}, wpIn P md ops Q C n listed a w → wpAny P md ops Q n listed a w
  | 0, _, _, _, h => h.2
  | _ + 1, _, _, _, h => ⟨h.2.1, fun i hi => wpOp_mono (fun _ _ h' => wpIn.any h') (h.2.2 i hi)⟩
theorem wpIn.cls : ∀ {n : Nat} {listed : Array Bool} {a : Act} {w : World}, wpIn P md ops Q C n listed a w → C w
  | 0, _, _, _, h => h.1
  | _ + 1, _, _, _, h => h.1

/-- It yields v in every world of the class, and turns nothing; or its guard passes over it. -/
def Quiet (P : Program) (ops : Array Oper) (C : World → Prop) (o : Oper) (v : Value) (a : Act) : Prop :=
  (Region.wanted o (yielded ops a.tmps) = true ∧ ∀ w, C w → (execOp a.eval o).run P w = .ok (.value v) w) ∨ (Region.wanted o (yielded ops a.tmps) = false ∧ v = undef)

theorem Quiet.op {i : Nat} {o : Oper} {v : Value} {a : Act} (hi : ops[i]? = some o) (hy : Quiet P ops C o v a) {K : Act → World → Prop} {w : World} (hC : C w) (h : K (a.put o.dst v) w) : wpOp P ops Q i K a w := by
  unfold wpOp
  rw [hi]
  simp only
  rcases hy with ⟨hw, hv⟩ | ⟨hw, rfl⟩
  · rw [if_pos hw]
    left
    unfold Oper.wp
    rw [hv w hC]
    exact h
  · rw [if_neg (by rw [hw]; exact Bool.false_ne_true)]
    exact h

theorem wpIn_first {i : Nat} {o : Oper} {v : Value} (hi : ops[i]? = some o) (hs : Region.noSelect ops = true) (hQ : ∀ c a w, Q (.panic c) (a.put o.dst v) w → Q (.panic c) a w) :
    ∀ (n : Nat) (listed : Array Bool) (a : Act) (w : World),
      (∀ j y, ops[j]? = some y → j ≠ i → listed.getD j true = false → (∀ e ∈ y.after, Region.binds md e = true → e.on ≠ i) → o.apart ops y = true) →
      i ∈ Region.ready md ops listed → Quiet P ops C o v a → wpIn P md ops Q C n (listed.setIfInBounds i true) (a.put o.dst v) w → wpIn P md ops Q C (n + 1) listed a w := by
  intro n
  induction n with
  | zero =>
    intro listed a w _ hr hy H
    refine ⟨H.1, fun h => (by rw [h] at hr; cases hr), fun j hj => ?_⟩
    by_cases hji : j = i
    · subst hji; exact hy.op hi H.1 H
    · have h' := ready_mono hj hji
      rw [H.2.1] at h'
      cases h'
  | succ n ih =>
    intro listed a w hfree hr hy H
    refine ⟨H.1, fun h => (by rw [h] at hr; cases hr), fun j hj => ?_⟩
    by_cases hji : j = i
    · subst hji; exact hy.op hi H.1 H
    · obtain ⟨hjun, y, hoy, hall⟩ := mem_ready.1 hj
      have hnot : ∀ e ∈ y.after, Region.binds md e = true → e.on ≠ i := by
        intro e he hb heq
        have g1 := hall e he hb
        have g0 := (mem_ready.1 hr).1
        rw [heq] at g1
        by_cases hin : i < listed.size
        · simp [hin] at g0 g1
          rw [g0] at g1
          cases g1
        · simp [hin] at g1
      have h2 := wpOp_late hoy (hfree j y hoy hji hjun hnot) (fun cs b => Region.noSelect_spec hs i o cs b hi) (fun cs b => Region.noSelect_spec hs j y cs b hoy) hQ (H.2.2 j (ready_mono hj hji))
      refine wpOp_mono (fun a' w' h3 => ih (listed.setIfInBounds j true) a' w' ?_ (ready_mono hr (Ne.symm hji)) ?_ ?_) h2
      · intro k z hk hki hun hno
        refine hfree k z hk hki ?_ hno
        by_cases hjk : j = k
        · subst hjk; exact hjun
        · rw [getD_set_ne true hjk] at hun; exact hun
      · unfold Quiet at hy ⊢
        rw [h3.1.1, h3.1.2]
        exact hy
      · rw [Array.setIfInBounds_comm _ _ hji]
        exact h3.2

/-- One that only reads is taken first. -/
theorem wpIn_take {i : Nat} {o : Oper} {v : Value} {d : Option Tmp} {n : Nat} {listed : Array Bool} {a a' : Act} {w : World} (hi : ops[i]? = some o) (hd : o.dst = d)
    (hs : Region.noSelect ops = true) (hf : Region.free md ops listed i = true) (hr : (Region.ready md ops listed).contains i = true)
    (hQ : ∀ c a w, Q (.panic c) (a.put d v) w → Q (.panic c) a w) (hy : Quiet P ops C o v a) (ha : a.put d v = a')
    (h : wpIn P md ops Q C n (listed.setIfInBounds i true) a' w) : wpIn P md ops Q C (n + 1) listed a w := by
  subst hd ha
  exact wpIn_first hi hs hQ n listed a w (Region.free_spec hi hf) (by simpa using hr) hy h

/-- The only one that may come up is carried out. -/
theorem wpIn_only {i : Nat} {n : Nat} {listed : Array Bool} {a : Act} {w : World} (hC : C w) (hr : Region.ready md ops listed = [i])
    (h : wpOp P ops Q i (wpIn P md ops Q C n (listed.setIfInBounds i true)) a w) : wpIn P md ops Q C (n + 1) listed a w :=
  ⟨hC, fun h0 => (by rw [hr] at h0; cases h0), fun j hj => by rw [hr] at hj; rw [List.mem_singleton.1 hj]; exact h⟩
theorem wpIn_do {i : Nat} {o : Oper} {n : Nat} {listed : Array Bool} {a : Act} {w : World} (hC : C w) (hr : Region.ready md ops listed = [i]) (hi : ops[i]? = some o) (hw : Region.wanted o (yielded ops a.tmps) = true)
    (h : ∀ K' : Act → World → Prop, (∀ a w, wpIn P md ops Q C n (listed.setIfInBounds i true) a w → K' a w) → Oper.wp P o a w K' Q) : wpIn P md ops Q C (n + 1) listed a w := by
  refine wpIn_only hC hr ?_
  unfold wpOp
  rw [hi]
  simp only
  rw [if_pos hw]
  exact .inl (h _ fun _ _ h' => h')
theorem wpIn_done {listed : Array Bool} {a : Act} {w : World} (hC : C w) (hr : Region.ready md ops listed = []) (h : Q .normal a w) : ∀ n, wpIn P md ops Q C n listed a w
  | 0 => ⟨hC, hr, h⟩
  | _ + 1 => ⟨hC, fun _ => h, fun i hi => by rw [hr] at hi; cases hi⟩

theorem wp_region_in {id : Nat} {a : Act} {w : World} (hm : P.follows .mixedOrders = true) (C : World → Prop)
    (h : wpIn P .any ops Q C ops.size (Array.replicate ops.size false) a { w with drawn := w.drawn + 1 }) : (Code.region id ops true).wp P Q a w :=
  wp_region_any hm h.any
end
end Go.Proofs.YtnmhpejnjaeecaaGreatDoor
namespace Go.Proofs.YtnmhpejnjaeecaaGreatDoor
open Go.RowKit

section
variable {P : Program} {ops : Array Oper} {Q : Exit → Act → World → Prop} {md : Region.Mode} {C : World → Prop}
/-- Two may come up. -/
theorem wpIn_pair {i j : Nat} {o u : Oper} {n : Nat} {listed : Array Bool} {a : Act} {w : World} (hC : C w) (hr : Region.ready md ops listed = [i, j]) (hi : ops[i]? = some o) (hj : ops[j]? = some u)
    (hw : Region.wanted o (yielded ops a.tmps) = true) (hv : Region.wanted u (yielded ops a.tmps) = true)
    (h : ∀ K' : Act → World → Prop, (∀ a w, wpIn P md ops Q C n (listed.setIfInBounds i true) a w → K' a w) → Oper.wp P o a w K' Q)
    (h' : ∀ K' : Act → World → Prop, (∀ a w, wpIn P md ops Q C n (listed.setIfInBounds j true) a w → K' a w) → Oper.wp P u a w K' Q) : wpIn P md ops Q C (n + 1) listed a w := by
  refine ⟨hC, fun h0 => (by rw [hr] at h0; cases h0), fun m hm => ?_⟩
  rw [hr] at hm
  unfold wpOp
  rcases List.mem_cons.1 hm with rfl | hm
  · rw [hi]
    simp only
    rw [if_pos hw]
    exact .inl (h _ fun _ _ h' => h')
  · rw [List.mem_singleton.1 hm, hj]
    simp only
    rw [if_pos hv]
    exact .inl (h' _ fun _ _ h' => h')
end

/-- An append of one element that lies in a new block, inside a region. -/
theorem wp_append_at {w : World} {o : Oper} {a : Act} {K : Act → World → Prop} {Q : Exit → Act → World → Prop} (s x : Operand) (t : TypeId)
    (ho : o.op = .call { callee := .builtin .append, args := #[s, x], argTypes := #[t, t] })
    (base : Nat) (e : TypeId) (z : Value) (size bytes : Nat) (ht : Tryz.prog.underlying t = some (.slice e)) (hinfo : (Tryz.prog.info? e).map (fun i => (i.zero, i.size, i.bytes)) = some (some z, size, bytes))
    (hzs : z.cells.size = size) (hsz : 0 < size) (hby : bytes ≤ 100)
    (v : Value) (n : Nat) (xs : List Value) (hs : a.eval s = v) (hown : w.ownsRow base e size v n xs)
    (ad : Addr) (news : List Value) (hx : a.eval x = .slice (some ad) 1 1) (hl : news.length = size) (hnews : ∀ j u, news[j]? = some u → w.cell? (ad.add j) = some u) (h1 : ∀ u ∈ news, u.oneCell' = true)
    (hn : n ≤ 1000000) (hbase : base ≤ w.heap.size)
    (h : ∀ v' w', w'.ownsRow base e size v' (n + 1) (xs ++ news) → w.grownBy w' v.ownBlock → (v'.ownBlock = v.ownBlock ∨ v'.ownBlock = some w.heap.size) → K (a.put o.dst v') w') : o.wp Tryz.prog a w K Q := by
  obtain ⟨i0, hi, hz0, hz1, hz2⟩ := info_parts hinfo
  have hbb : (n + 1) * bytes ≤ 140737488355328 := by
    have : (n + 1) * bytes ≤ (n + 1) * 100 := Nat.mul_le_mul_left _ hby
    omega
  obtain ⟨v', w', hr, h2, h3, h4, h5⟩ := run_append_own_at (P := Tryz.prog) w base t o.type e i0 z size bytes ht hi hz0 hz1 hz2 hzs hsz v n xs hown ad 1 1 news (by rw [hl, Nat.one_mul]) hnews h1 (by unfold maxLen; omega) hbb hbase
  unfold Oper.wp execOp
  simp only [ho, resolve, invoke, builtin, Sem.run_bind, Sem.run_pure, Result.andThen_ok, List.map_toArray, List.map_cons, List.map_nil, hs, hx, hr]
  exact h v' w' h2 h3 h5
theorem Tryz.info9 : (Tryz.prog.info? 9).map (fun i => (i.zero, i.size, i.bytes)) = some (some (.string ⟨#[]⟩), 1, 16) := by kernel_rfl
theorem Tryz.info25 : (Tryz.prog.info? 25).map (fun i => (i.zero, i.size, i.bytes)) = some (some (.agg #[.int .i64 0, .int .i64 0, .string ⟨#[]⟩, .slice none 0 0, .slice none 0 0]), 5, 80) := by kernel_rfl
end Go.Proofs.YtnmhpejnjaeecaaGreatDoor

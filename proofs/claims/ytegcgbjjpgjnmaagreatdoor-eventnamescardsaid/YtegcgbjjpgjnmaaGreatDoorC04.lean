/-
  What is written as a text is read as it was.
  The reader's steps over signs, blanks and words, by contracts.
  Letters written as digits of radix 16, by contracts.
  Escapes, words, digits and numbers, by contracts.
-/
import Derived.Test.YtegcgbjjpgjnmaaGreatDoorC03
set_option maxRecDepth 100000
set_option maxHeartbeats 16000000
namespace Go.Proofs.YtegcgbjjpgjnmaaGreatDoor
theorem byte_head {t r : List Int} {p : Nat} {c : Int} (h : t.drop p = c :: r) : byteAt t p = c := by
 unfold byteAt
 have : t[p]? = some c := by
  have h1 : (t.drop p)[0]? = some c := by rw [h]; rfl
  rw [List.getElem?_drop] at h1
  exact h1
 rw [List.getD_eq_getElem?_getD, this]
 rfl
theorem drop_tail {t r : List Int} {p : Nat} {c : Int} (h : t.drop p = c :: r) : t.drop (p + 1) = r := by
 rw [← List.drop_drop, h]; rfl
theorem drop_app {t x r : List Int} {p : Nat} (h : t.drop p = x ++ r) : t.drop (p + x.length) = r := by
 rw [← List.drop_drop, h]; simp
theorem byte_end {t : List Int} {p : Nat} (h : t.drop p = []) : byteAt t p = 0 := by
 unfold byteAt
 rw [List.getD_eq_getElem?_getD, List.getElem?_eq_none (List.drop_eq_nil_iff.1 h)]
 rfl
theorem hex_hexd (n : Int) (h0 : 0 ≤ n) (h1 : n ≤ 15) : hexDig (hexd n) = some n := by
 unfold hexd hexDig isDig
 split
 · rw [if_pos (by simp; omega)]; congr 1; omega
 · rw [if_neg (by simp; omega), if_pos (by omega)]; congr 1; omega
theorem rune_ascii (c : Int) (h0 : 0 ≤ c) (h1 : c ≤ 127) : Lib.encodeRuneZ c = [c] := Lib.encodeRuneZ_one h0 h1
theorem coded_low {t r : List Int} {p : Nat} {c : Int} (h0 : 0 ≤ c) (h1 : c < 32) (hd : t.drop p = 92 :: 117 :: 48 :: 48 :: hexd (c / 16) :: hexd (c % 16) :: r) : coded t p = .ok c (p + 6) := by
 have d1 := drop_tail hd
 have d2 := drop_tail d1
 have b0 := byte_head d2
 have d3 := drop_tail d2
 have b1 := byte_head d3
 have d4 := drop_tail d3
 have b2 := byte_head d4
 have d5 := drop_tail d4
 have b3 := byte_head d5
 have z : hexDig 48 = some 0 := by decide
 have e2 := hex_hexd (c / 16) (by omega) (by omega)
 have e3 := hex_hexd (c % 16) (by omega) (by omega)
 have hx : hexAt t (p + 2) = (c, 4) := by
  unfold hexAt hexL
  rw [show p + 2 + 0 = p + 1 + 1 from rfl, b0, z]
  simp only
  unfold hexL
  rw [show p + 2 + (0 + 1) = p + 1 + 1 + 1 from rfl, b1, z]
  simp only
  unfold hexL
  rw [show p + 2 + (0 + 1 + 1) = p + 1 + 1 + 1 + 1 from rfl, b2, e2]
  simp only
  unfold hexL
  rw [show p + 2 + (0 + 1 + 1 + 1) = p + 1 + 1 + 1 + 1 + 1 from rfl, b3, e3]
  simp only
  unfold hexL
  refine Prod.ext ?_ rfl
  simp only
  omega
 unfold coded
 rw [hx]
 simp only
 rw [if_neg (by omega), if_pos (by omega)]
theorem esc_two {t r : List Int} {p : Nat} {b : Int} (hd : t.drop p = 92 :: b :: r) : byteAt t p = 92 ∧ byteAt t (p + 1) = b := ⟨byte_head hd, byte_head (drop_tail hd)⟩
theorem esc_read {t r : List Int} {p : Nat} {c : Int} (h0 : 0 ≤ c) (hc : c < 32 ∨ c = 34 ∨ c = 92) (hd : t.drop p = escByte c ++ r) : byteAt t p = 92 ∧ escape t p = .ok c (p + (escByte c).length) := by
 by_cases c34 : c = 34
 · subst c34
   have e : escByte 34 = [92, 34] := by decide
   rw [e] at hd ⊢
   obtain ⟨b0, b1⟩ := esc_two hd
   refine ⟨b0, ?_⟩
   unfold escape
   simp only [b1]
   rfl
 by_cases c92 : c = 92
 · subst c92
   have e : escByte 92 = [92, 92] := by decide
   rw [e] at hd ⊢
   obtain ⟨b0, b1⟩ := esc_two hd
   refine ⟨b0, ?_⟩
   unfold escape
   simp only [b1]
   rfl
 by_cases c8 : c = 8
 · subst c8
   have e : escByte 8 = [92, 98] := by decide
   rw [e] at hd ⊢
   obtain ⟨b0, b1⟩ := esc_two hd
   refine ⟨b0, ?_⟩
   unfold escape
   simp only [b1]
   rfl
 by_cases c9 : c = 9
 · subst c9
   have e : escByte 9 = [92, 116] := by decide
   rw [e] at hd ⊢
   obtain ⟨b0, b1⟩ := esc_two hd
   refine ⟨b0, ?_⟩
   unfold escape
   simp only [b1]
   rfl
 by_cases c10 : c = 10
 · subst c10
   have e : escByte 10 = [92, 110] := by decide
   rw [e] at hd ⊢
   obtain ⟨b0, b1⟩ := esc_two hd
   refine ⟨b0, ?_⟩
   unfold escape
   simp only [b1]
   rfl
 by_cases c12 : c = 12
 · subst c12
   have e : escByte 12 = [92, 102] := by decide
   rw [e] at hd ⊢
   obtain ⟨b0, b1⟩ := esc_two hd
   refine ⟨b0, ?_⟩
   unfold escape
   simp only [b1]
   rfl
 by_cases c13 : c = 13
 · subst c13
   have e : escByte 13 = [92, 114] := by decide
   rw [e] at hd ⊢
   obtain ⟨b0, b1⟩ := esc_two hd
   refine ⟨b0, ?_⟩
   unfold escape
   simp only [b1]
   rfl
 have hl : c < 32 := by omega
 have e : escByte c = [92, 117, 48, 48, hexd (c / 16), hexd (c % 16)] := by
  unfold escByte
  rw [if_neg c34, if_neg c92, if_neg c8, if_neg c9, if_neg c10, if_neg c12, if_neg c13, if_pos hl]
 rw [e] at hd ⊢
 obtain ⟨b0, b1⟩ := esc_two hd
 refine ⟨b0, ?_⟩
 have := coded_low h0 hl hd
 unfold escape
 simp only [b1]
 exact this
theorem quoL_succ (t : List Int) (m p : Nat) (out : List Int) : quoL t (m + 1) p out =
    if byteAt t p = 34 then .ok out (p + 1)
    else if byteAt t p = 92 then (escape t p).bind fun l q => quoL t m q (out ++ Lib.encodeRuneZ l)
    else if byteAt t p < 32 then .bad 11 p
    else quoL t m (p + 1) (out ++ [byteAt t p]) := rfl
theorem quo_back (t : List Int) : ∀ (zs : List Int) (m p : Nat) (out r : List Int), (∀ c ∈ zs, 0 ≤ c ∧ c ≤ 255) → zs.length < m → t.drop p = zs.flatMap escByte ++ 34 :: r →
    quoL t m p out = .ok (out ++ zs) (p + (zs.flatMap escByte).length + 1)
 | [], m + 1, p, out, r, _, _, hd => by
  have hb := byte_head (c := 34) hd
  rw [quoL_succ, if_pos hb]
  simp
 | c :: zs, m + 1, p, out, r, hz, hm, hd => by
  have hc := hz c (by simp)
  have hz' : ∀ x ∈ zs, 0 ≤ x ∧ x ≤ 255 := fun x hx => hz x (by simp [hx])
  rw [List.flatMap_cons, List.append_assoc] at hd
  have next := drop_app hd
  have ih := quo_back t zs m (p + (escByte c).length) (out ++ [c]) r hz' (by simpa using hm) next
  have fin : Res.ok (out ++ [c] ++ zs) (p + (escByte c).length + (zs.flatMap escByte).length + 1) = Res.ok (out ++ c :: zs) (p + ((c :: zs).flatMap escByte).length + 1) := by
   simp only [List.append_assoc, List.singleton_append, List.flatMap_cons, List.length_append, Nat.add_assoc]
  rw [← fin, ← ih, quoL_succ]
  by_cases hs : c < 32 ∨ c = 34 ∨ c = 92
  · obtain ⟨b0, he⟩ := esc_read hc.1 hs hd
    rw [if_neg (by rw [b0]; decide), if_pos b0, he]
    simp only [Res.bind]
    rw [rune_ascii c hc.1 (by omega)]
  · have e : escByte c = [c] := by
      unfold escByte
      rw [if_neg (by omega), if_neg (by omega), if_neg (by omega), if_neg (by omega), if_neg (by omega), if_neg (by omega), if_neg (by omega), if_neg (by omega)]
    rw [e] at hd ⊢
    have b0 := byte_head (c := c) hd
    rw [b0, if_neg (by omega), if_neg (by omega), if_neg (by omega)]
    rfl
theorem quoted_back {t r zs : List Int} {p : Nat} (hz : ∀ c ∈ zs, 0 ≤ c ∧ c ≤ 255) (hd : t.drop p = quote zs ++ r) : quoted t p = .ok zs (p + (quote zs).length) ∧ byteAt t p = 34 := by
 unfold quote at hd ⊢
 have hd' : t.drop p = 34 :: (zs.flatMap escByte ++ 34 :: r) := by rw [hd]; simp
 have hlen : (zs.flatMap escByte).length < t.length := by
  have := congrArg List.length hd'
  rw [List.length_drop, List.length_cons, List.length_append, List.length_cons] at this
  omega
 have hl : zs.length ≤ (zs.flatMap escByte).length := by
  clear hd hd' hlen hz
  induction zs with
  | nil => simp
  | cons c zs ih =>
   have : 1 ≤ (escByte c).length := by unfold escByte; repeat' split
                                       all_goals simp
   simp only [List.flatMap_cons, List.length_append, List.length_cons]
   omega
 have := quo_back t zs (t.length + 1) (p + 1) [] r hz (by omega) (drop_tail hd')
 refine ⟨?_, byte_head hd'⟩
 unfold quoted
 rw [this]
 simp only [List.nil_append, List.length_cons, List.length_append, List.length_nil]
 congr 1
 omega
end Go.Proofs.YtegcgbjjpgjnmaaGreatDoor
namespace Go.Proofs.YtegcgbjjpgjnmaaGreatDoor
open Go.RowKit
def OkAt (w w' : World) (R : Nat) (s : ByteArray) (q : Nat) : Prop := (∃ e l, Rdr w' R s q e l) ∧ Keep (One R) w w'
def BadAt (w w' : World) (R : Nat) (s : ByteArray) (e : Int) (l : Nat) : Prop := (∃ q, Rdr w' R s q e l) ∧ Keep (One R) w w'
theorem OkAt.then {w w1 w2 : World} {R : Nat} {s : ByteArray} {q q' : Nat} (h : OkAt w w1 R s q) (h' : OkAt w1 w2 R s q') : OkAt w w2 R s q' := ⟨h'.1, h.2.then h'.2⟩
theorem OkAt.bad {w w1 w2 : World} {R : Nat} {s : ByteArray} {q : Nat} {e : Int} {l : Nat} (h : OkAt w w1 R s q) (h' : BadAt w1 w2 R s e l) : BadAt w w2 R s e l := ⟨h'.1, h.2.then h'.2⟩
theorem OkAt.refl {w : World} {R p : Nat} {s : ByteArray} {e l : Int} (h : Rdr w R s p e l) : OkAt w w R s p := ⟨⟨e, l, h⟩, Keep.refl _ _⟩
theorem take_yes {w : World} {R p : Nat} {s : ByteArray} {e l : Int} (hr : Rdr w R s p e l) (hp : p ≤ 20000) (c : Int) (h : byteAt (ints s) p = c) :
    Calls Tryz.prog 167 #[.pointer (some ⟨R, 0, none⟩), .int .u8 c] w fun x w' => x = .returned (.bool true) ∧ OkAt w w' R s (p + 1) := by
 have c1 := hr.c1
 have f1 := hr.fz 1
 have HR := hr.at (p + 1)
 have HK := Rdr.setAt w R (p + 1)
 subst h
 go_enter Tryz.func167, Tryz.ntmps167
 go_wp2_with (go_at_call 138; refine (peek_any hr).mono ?_; rintro x w' ⟨rfl, rfl⟩)
 go_ret
 exact ⟨rfl, ⟨_, _, HR⟩, HK⟩
theorem take_no {w : World} {R p : Nat} {s : ByteArray} {e l : Int} (hr : Rdr w R s p e l) (c : Int) (h : byteAt (ints s) p ≠ c) :
    Calls Tryz.prog 167 #[.pointer (some ⟨R, 0, none⟩), .int .u8 c] w fun x w' => x = .returned (.bool false) ∧ w = w' := by
 have hb : (byteAt (ints s) p != c) = true := by simp [h]
 go_enter Tryz.func167, Tryz.ntmps167
 go_wp2_with (go_at_call 138; refine (peek_any hr).mono ?_; rintro x w' ⟨rfl, rfl⟩)
 go_ret
 exact ⟨rfl, rfl⟩
theorem must_yes {w : World} {R p : Nat} {s : ByteArray} {e l : Int} (hr : Rdr w R s p e l) (hp : p ≤ 20000) (c : Int) (h : byteAt (ints s) p = c) :
    Calls Tryz.prog 164 #[.pointer (some ⟨R, 0, none⟩), .int .u8 c] w fun x w' => x = .returned (.bool true) ∧ OkAt w w' R s (p + 1) := by
 go_enter Tryz.func164, Tryz.ntmps164
 go_wp2_with (go_at_call 167; refine (take_yes hr hp c h).mono ?_; rintro x w' ⟨rfl, hk⟩)
 go_ret
 exact ⟨rfl, hk⟩
theorem must_no {w : World} {R p : Nat} {s : ByteArray} {e l : Int} (hr : Rdr w R s p e l) (c : Int) (h : byteAt (ints s) p ≠ c) :
    Calls Tryz.prog 164 #[.pointer (some ⟨R, 0, none⟩), .int .u8 c] w fun x w' => x = .returned (.bool false) ∧ BadAt w w' R s 11 p := by
 have c1 := hr.c1
 go_enter Tryz.func164, Tryz.ntmps164
 go_wp2_with (first
  | (go_at_call 167; refine (take_no hr c h).mono ?_; rintro x w' ⟨rfl, rfl⟩)
  | (go_at_call 116; refine (fail_any hr 11 p).mono ?_; rintro x w1 ⟨rfl, hr1, hk1⟩))
 go_ret
 exact ⟨rfl, ⟨_, hr1⟩, hk1⟩
theorem blank_eq (c : Int) : isBlank c = ((c == 32) || (c == 9) || (c == 10) || (c == 13)) := by
 unfold isBlank
 rw [Bool.eq_iff_iff]
 simp
theorem blanks_step {t : List Int} {p : Nat} (h : isBlank (byteAt t p) = true) : blanks t p = blanks t (p + 1) := by
 have hp := byteAt_lt (t := t) (p := p) (by intro h0; rw [h0] at h; revert h; decide)
 have e : t.drop p = t[p] :: t.drop (p + 1) := List.drop_eq_getElem_cons hp
 have g : byteAt t p = t[p] := by unfold byteAt; rw [List.getD_eq_getElem?_getD, List.getElem?_eq_getElem hp]; rfl
 unfold blanks
 rw [e, List.takeWhile_cons, ← g, h]
 simp
 omega
theorem blanks_stay {t : List Int} {p : Nat} (h : isBlank (byteAt t p) = false) : blanks t p = p := by
 unfold blanks
 cases hd : t.drop p with
 | nil => rfl
 | cons c r =>
  rw [byte_head hd] at h
  rw [List.takeWhile_cons, h]
  rfl
def posOf (R : Nat) (w : World) : Nat := (intOf ((w.cell? ⟨R, 1, none⟩).getD (.int .i64 0))).toNat
theorem posOf_rdr {w : World} {R p : Nat} {s : ByteArray} {e l : Int} (h : Rdr w R s p e l) : posOf R w = p := by
 unfold posOf
 rw [h.c1]
 simp [intOf]
theorem blanks_any {w : World} {R p : Nat} {s : ByteArray} {e l : Int} (hr : Rdr w R s p e l) (hs : short s) (hp : p ≤ s.size) :
    Calls Tryz.prog 114 #[.pointer (some ⟨R, 0, none⟩)] w fun x w' => x = .returned (.tuple #[]) ∧ OkAt w w' R s (blanks (ints s) p) := by
 unfold short at hs
 go_enter Tryz.func114, Tryz.ntmps114
 go_wp2_with (go_at_call 138; refine (peek_any hr).mono ?_; rintro x w' ⟨rfl, rfl⟩)
 go_loopw [2] (fun c wr => ∃ q : Nat, c = .int .u8 (byteAt (ints s) q) ∧ q ≤ s.size ∧ blanks (ints s) q = blanks (ints s) p ∧ Rdr wr R s q e l ∧ Keep (One R) w wr) (fun _ wr => s.size - posOf R wr)
 case atStart => exact ⟨p, rfl, hp, rfl, hr, Keep.refl _ _⟩
 case round =>
  obtain ⟨q, rfl, hq, hbl, hrq, hk⟩ := hrel
  have HBL : Hid (blanks (ints s) q = blanks (ints s) p) := hbl
  clear hbl hr
  by_cases hb : isBlank (byteAt (ints s) q) = true
  · have hlt : q < s.size := by
      have := byteAt_lt (t := ints s) (p := q) (by intro h0; rw [h0] at hb; revert hb; decide)
      rw [ints_length] at this; exact this
    have HST : Hid (blanks (ints s) q = blanks (ints s) (q + 1)) := blanks_step hb
    rw [blank_eq] at hb
    have c1 := hrq.c1
    have f1 := hrq.fz 1
    have HR : Rdr (wr.setCell ⟨R, 1, none⟩ (.int .i64 ((q : Int) + 1))) R s (q + 1) e l := hrq.at (q + 1)
    have HK : Keep (One R) w (wr.setCell ⟨R, 1, none⟩ (.int .i64 ((q : Int) + 1))) := hk.then (Rdr.setAt wr R (q + 1))
    have HP := posOf_rdr HR
    have HP0 := posOf_rdr hrq
    go_wp2_with (go_at_call 138; refine (peek_any HR).mono ?_; rintro x w' ⟨rfl, rfl⟩)
    all_goals first
     | (go_roundw
        case rel => exact ⟨q + 1, rfl, hlt, by rw [← HST.out]; exact HBL.out, HR, HK⟩
        case measure => rw [HP, HP0]; omega)
     | (exfalso; simp_all; done)
  · have hb' : isBlank (byteAt (ints s) q) = false := by simpa using hb
    have HST : Hid (blanks (ints s) q = q) := blanks_stay hb'
    rw [blank_eq] at hb'
    simp only [Bool.or_eq_false_iff] at hb'
    obtain ⟨⟨⟨b1, b2⟩, b3⟩, b4⟩ := hb'
    go_wp2
    go_end0
    refine ⟨rfl, ?_⟩
    rw [← HBL.out, HST.out]
    exact ⟨⟨_, _, hrq⟩, hk⟩
theorem ret_rune {a b : Int} {p q : Bool} (h : a = b) (hp : p = q) : Ending.returned (.tuple #[.int .i32 a, .bool p]) = .returned (.tuple #[.int .i32 b, .bool q]) := by rw [h, hp]
theorem ret_hex {a b c d : Int} (h : a = b) (hp : c = d) : Ending.returned (.tuple #[.int .i32 a, .int .i64 c]) = .returned (.tuple #[.int .i32 b, .int .i64 d]) := by rw [h, hp]
theorem hexDig_bd {c d : Int} (h : hexDig c = some d) : 0 ≤ d ∧ d ≤ 15 := by
 unfold hexDig isDig at h
 split at h
 · rename_i h1; simp at h1; cases h; omega
 split at h
 · cases h; omega
 split at h
 · cases h; omega
 · cases h
theorem hexDigit_any (c : Int) (w : World) (h0 : 0 ≤ c) (h1 : c ≤ 255) :
    Calls Tryz.prog 208 #[.int .u8 c] w fun x w' => x = .returned (.tuple #[.int .i32 ((hexDig c).getD 0), .bool (hexDig c).isSome]) ∧ w = w' := by
 cases hd : isDig c with
 | true =>
  have hh : hexDig c = some (c - 48) := by unfold hexDig; rw [if_pos hd]
  have hb : 48 ≤ c ∧ c ≤ 57 := by unfold isDig at hd; simpa using hd
  rw [hh]
  go_enter Tryz.func208, Tryz.ntmps208
  go_wp2_with (go_at_call 163; refine (isDigit_any c _).mono ?_; rw [hd]; rintro x w' ⟨rfl, rfl⟩)
  go_ret2
  exact ⟨rfl, rfl⟩
 | false =>
  by_cases ha : 97 ≤ c ∧ c ≤ 102
  · have hh : hexDig c = some (c - 97 + 10) := by unfold hexDig; rw [if_neg (by simp [hd]), if_pos ha]
    rw [hh]
    go_enter Tryz.func208, Tryz.ntmps208
    go_wp2_with (go_at_call 163; refine (isDigit_any c _).mono ?_; rw [hd]; rintro x w' ⟨rfl, rfl⟩)
    go_ret2
    exact ⟨rfl, rfl⟩
  by_cases hA : 65 ≤ c ∧ c ≤ 70
  · have hh : hexDig c = some (c - 65 + 10) := by unfold hexDig; rw [if_neg (by simp [hd]), if_neg ha, if_pos hA]
    rw [hh]
    go_enter Tryz.func208, Tryz.ntmps208
    go_wp2_with (go_at_call 163; refine (isDigit_any c _).mono ?_; rw [hd]; rintro x w' ⟨rfl, rfl⟩)
    go_ret2
    exact ⟨rfl, rfl⟩
  · have hh : hexDig c = none := by unfold hexDig; rw [if_neg (by simp [hd]), if_neg ha, if_neg hA]
    rw [hh]
    go_enter Tryz.func208, Tryz.ntmps208
    go_wp2_with (go_at_call 163; refine (isDigit_any c _).mono ?_; rw [hd]; rintro x w' ⟨rfl, rfl⟩)
    all_goals first
     | (exfalso; omega)
     | (go_ret2; exact ⟨rfl, rfl⟩)
def capOf : Nat → Int
 | 0 => 1
 | 1 => 16
 | 2 => 256
 | 3 => 4096
 | _ => 65536
theorem capOf_le (k : Nat) : capOf k ≤ 65536 := by
 unfold capOf; split <;> omega
theorem capOf_step {k : Nat} {n d : Int} (hk : k < 4) (h0 : 0 ≤ n) (h : n < capOf k) (hd : 0 ≤ d ∧ d ≤ 15) : n * 16 + d < capOf (k + 1) ∧ n ≤ 4095 := by
 match k, hk with
 | 0, _ => simp only [capOf] at h ⊢; omega
 | 1, _ => simp only [capOf] at h ⊢; omega
 | 2, _ => simp only [capOf] at h ⊢; omega
 | 3, _ => simp only [capOf] at h ⊢; omega
theorem hexL_bd (t : List Int) (i : Nat) : ∀ (m k : Nat) (n : Int), 0 ≤ n → n < capOf k → k + m ≤ 4 → 0 ≤ (hexL t i m k n).1 ∧ (hexL t i m k n).1 < 65536
 | 0, k, n, h0, h1, _ => ⟨h0, by have := capOf_le k; unfold hexL; simp only; omega⟩
 | m + 1, k, n, h0, h1, hm => by
  unfold hexL
  split
  · have := capOf_le k; exact ⟨h0, by simp only; omega⟩
  · rename_i d hd
    have hb := hexDig_bd hd
    exact hexL_bd t i m (k + 1) _ (by omega) (capOf_step (by omega) h0 h1 hb).1 (by omega)
theorem hexAt_bd (t : List Int) (i : Nat) : 0 ≤ (hexAt t i).1 ∧ (hexAt t i).1 < 65536 ∧ (hexAt t i).2 ≤ 4 := by
 have h := hexL_bd t i 4 0 0 (by omega) (by decide) (by omega)
 exact ⟨h.1, h.2, by have := (hexL_le t i 4 0 0).2.1; unfold hexAt; omega⟩
theorem hexAt_any {w : World} {R p : Nat} {s : ByteArray} {e l : Int} (hr : Rdr w R s p e l) (i : Nat) (hi : i ≤ 40000) :
    Calls Tryz.prog 198 #[.pointer (some ⟨R, 0, none⟩), .int .i64 i] w fun x w' => x = .returned (.tuple #[.int .i32 (hexAt (ints s) i).1, .int .i64 ((hexAt (ints s) i).2 : Nat)]) ∧ w = w' := by
 go_enter Tryz.func198, Tryz.ntmps198
 go_wp2
 go_loop [6, 10] (fun a b => ∃ (n : Int) (k m : Nat), a = .int .i32 n ∧ b = .int .i64 k ∧ k + m = 4 ∧ 0 ≤ n ∧ n < capOf k ∧ hexL (ints s) i m k n = hexAt (ints s) i) (fun _ b => 4 - (intOf b).toNat)
 case atStart => exact ⟨0, 0, 4, rfl, rfl, rfl, by omega, by decide, rfl⟩
 case round =>
  obtain ⟨n, k, m, rfl, rfl, hkm, h0, hcap, hx⟩ := hrel
  have HX : Hid (hexL (ints s) i m k n = hexAt (ints s) i) := hx
  clear hx
  by_cases hk : k < 4
  · have hbd := byte_bd s (i + k)
    obtain ⟨m', rfl⟩ : ∃ m', m = m' + 1 := ⟨m - 1, by omega⟩
    cases hd : hexDig (byteAt (ints s) (i + k)) with
    | none =>
     have HH : Hid (hexAt (ints s) i = (n, k)) := by rw [← HX.out]; unfold hexL; rw [hd]; rfl
     go_wp2_with (first
      | (go_at_call 162; refine (byteAt_any hr (i + k)).mono ?_; rintro x w' ⟨rfl, rfl⟩)
      | (go_at_call 208; refine (hexDigit_any _ _ hbd.1 hbd.2).mono ?_; rw [hd]; rintro x w' ⟨rfl, rfl⟩))
     go_ret2
     exact ⟨ret_hex (by rw [HH.out]) (by rw [HH.out]), rfl⟩
    | some d =>
     have hdb := hexDig_bd hd
     have hst := capOf_step hk h0 hcap hdb
     have HH : Hid (hexL (ints s) i m' (k + 1) (n * 16 + d) = hexAt (ints s) i) := by rw [← HX.out]; show _ = hexL _ _ (m' + 1) _ _; conv => rhs; unfold hexL; rw [hd]
     go_wp2_with (first
      | (go_at_call 162; refine (byteAt_any hr (i + k)).mono ?_; rintro x w' ⟨rfl, rfl⟩)
      | (go_at_call 208; refine (hexDigit_any _ _ hbd.1 hbd.2).mono ?_; rw [hd]; rintro x w' ⟨rfl, rfl⟩))
     go_round
     case rel => exact ⟨n * 16 + d, k + 1, m', rfl, by go_num, by omega, by omega, hst.1, HH.out⟩
     case measure => simp [intOf]; omega
  · obtain rfl : k = 4 := by omega
    obtain rfl : m = 0 := by omega
    have HH : Hid (hexAt (ints s) i = (n, 4)) := by rw [← HX.out]; rfl
    go_wp2
    go_ret2
    exact ⟨ret_hex (by rw [HH.out]) (by rw [HH.out]; rfl), rfl⟩
theorem lowAt_hex {t : List Int} {i k : Nat} {n : Int} (h92 : byteAt t i = 92) (h117 : byteAt t (i + 1) = 117) (he : hexAt t (i + 2) = (n, k)) : lowAt t i = if k = 4 ∧ 56320 ≤ n ∧ n ≤ 57343 then some n else none := by
 unfold lowAt
 rw [if_pos ⟨h92, h117⟩, he]
theorem lowAt_not {t : List Int} {i : Nat} (h : ¬ (byteAt t i = 92 ∧ byteAt t (i + 1) = 117)) : lowAt t i = none := by
 unfold lowAt
 rw [if_neg h]
theorem lowAt_any {w : World} {R p : Nat} {s : ByteArray} {e l : Int} (hr : Rdr w R s p e l) (i : Nat) (hi : i ≤ 30000) :
    Calls Tryz.prog 199 #[.pointer (some ⟨R, 0, none⟩), .int .i64 i] w fun x w' => (∃ n, x = .returned (.tuple #[.int .i32 n, .bool (lowAt (ints s) i).isSome]) ∧ ∀ m, lowAt (ints s) i = some m → n = m) ∧ w = w' := by
 have hb0 := byte_bd s i
 have hb1 := byte_bd s (i + 1)
 have hx := hexAt_bd (ints s) (i + 2)
 by_cases h92 : byteAt (ints s) i = 92
 · by_cases h117 : byteAt (ints s) (i + 1) = 117
   · obtain ⟨n, k, he⟩ : ∃ n k, hexAt (ints s) (i + 2) = (n, k) := ⟨_, _, rfl⟩
     have xx := hexAt_any hr (i + 2) (by omega)
     have HL : Hid (lowAt (ints s) i = if k = 4 ∧ 56320 ≤ n ∧ n ≤ 57343 then some n else none) := lowAt_hex h92 h117 he
     rw [he] at hx xx
     simp only at hx xx
     go_enter Tryz.func199, Tryz.ntmps199
     go_wp2_with (first
      | (go_at_call 162; have _h := hb2; refine (byteAt_any hr (i + 1)).mono ?_; rw [h117]; rintro x w' ⟨rfl, rfl⟩)
      | (go_at_call 162; refine (byteAt_any hr i).mono ?_; rw [h92]; rintro x w' ⟨rfl, rfl⟩; have hb2 : True := trivial)
      | (go_at_call 198; refine xx.mono ?_; rintro x w' ⟨rfl, rfl⟩))
     all_goals
      go_ret2
      refine ⟨⟨n, ret_rune rfl ?_, fun m hm => ?_⟩, rfl⟩
      · rw [HL.out]
        split
        · rename_i h; simp; try omega
        · rename_i h; simp; try omega
      · rw [HL.out] at hm
        split at hm
        · cases hm; rfl
        · cases hm
   · have hbb : (byteAt (ints s) (i + 1) != 117) = true := by simp [h117]
     have HL : Hid (lowAt (ints s) i = none) := lowAt_not fun h => h117 h.2
     go_enter Tryz.func199, Tryz.ntmps199
     go_wp2_with (first
      | (go_at_call 162; have _h := hb2; refine (byteAt_any hr (i + 1)).mono ?_; rintro x w' ⟨rfl, rfl⟩)
      | (go_at_call 162; refine (byteAt_any hr i).mono ?_; rw [h92]; rintro x w' ⟨rfl, rfl⟩; have hb2 : True := trivial))
     go_ret2
     rw [HL.out]
     exact ⟨⟨_, rfl, fun m hm => by cases hm⟩, rfl⟩
 · have hbb : (byteAt (ints s) i != 92) = true := by simp [h92]
   have HL : Hid (lowAt (ints s) i = none) := lowAt_not fun h => h92 h.1
   go_enter Tryz.func199, Tryz.ntmps199
   go_wp2_with (go_at_call 162; refine (byteAt_any hr i).mono ?_; rintro x w' ⟨rfl, rfl⟩)
   go_ret2
   rw [HL.out]
   exact ⟨⟨_, rfl, fun m hm => by cases hm⟩, rfl⟩
def runeTold (w w' : World) (R : Nat) (s : ByteArray) (r : Res Int) (x : Ending) : Prop := match r with
 | .ok c q => x = .returned (.tuple #[.int .i32 c, .bool true]) ∧ OkAt w w' R s q
 | .bad e l => x = .returned (.tuple #[.int .i32 0, .bool false]) ∧ BadAt w w' R s e l
theorem lowAt_bd {t : List Int} {i : Nat} {m : Int} (h : lowAt t i = some m) : 56320 ≤ m ∧ m ≤ 57343 := by
 unfold lowAt at h
 split at h
 · split at h
   · rename_i hh; cases h; exact hh.2
   · cases h
 · cases h
theorem coded_any {w : World} {R p : Nat} {s : ByteArray} {e l : Int} (hr : Rdr w R s p e l) (hp : p ≤ 20000) :
    Calls Tryz.prog 182 #[.pointer (some ⟨R, 0, none⟩)] w fun x w' => runeTold w w' R s (coded (ints s) p) x := by
 have c1 := hr.c1
 have f1 := hr.fz 1
 have hx := hexAt_bd (ints s) (p + 2)
 obtain ⟨n, k, he⟩ : ∃ n k, hexAt (ints s) (p + 2) = (n, k) := ⟨_, _, rfl⟩
 have xx := hexAt_any hr (p + 2) (by omega)
 rw [he] at hx xx
 simp only at hx xx
 by_cases hk : k < 4
 · have HC : Hid (coded (ints s) p = .bad 11 (p + 2 + k)) := by unfold coded; rw [he, if_pos hk]; rfl
   have hk' : (k : Int) < 4 := by omega
   go_enter Tryz.func182, Tryz.ntmps182
   go_wp2_with (first
    | (go_at_call 198; refine xx.mono ?_; rintro x w' ⟨rfl, rfl⟩)
    | (go_at_call 116; refine (fail_any hr 11 ((p + 2 + k : Nat) : Int)).mono ?_; rintro x w1 ⟨rfl, hr1, hk1⟩))
   go_ret2
   rw [HC.out]
   exact ⟨rfl, ⟨_, hr1⟩, hk1⟩
 have hk' : ¬ (k : Int) < 4 := by omega
 by_cases h1 : n < 55296 ∨ 57343 < n
 · have HC : Hid (coded (ints s) p = .ok n (p + 6)) := by unfold coded; rw [he, if_neg hk, if_pos h1]; rfl
   have HR : Rdr (w.setCell ⟨R, 1, none⟩ (.int .i64 ((p : Int) + 6))) R s (p + 6) e l := hr.at (p + 6)
   have HK : Keep (One R) w (w.setCell ⟨R, 1, none⟩ (.int .i64 ((p : Int) + 6))) := Rdr.setAt w R (p + 6)
   go_enter Tryz.func182, Tryz.ntmps182
   go_wp2_with (go_at_call 198; refine xx.mono ?_; rintro x w' ⟨rfl, rfl⟩)
   all_goals first
    | (exfalso; omega)
    | (go_ret2
       rw [HC.out]
       exact ⟨rfl, ⟨_, _, HR⟩, HK⟩)
 have yy := lowAt_any hr (p + 6) (by omega)
 by_cases h2 : 56320 ≤ n
 · have HC : Hid (coded (ints s) p = .bad 11 p) := by unfold coded; rw [he, if_neg hk, if_neg h1, if_pos h2]; rfl
   go_enter Tryz.func182, Tryz.ntmps182
   go_wp2_with (first
    | (go_at_call 198; refine xx.mono ?_; rintro x w' ⟨rfl, rfl⟩)
    | (go_at_call 199; refine yy.mono ?_; rintro x w' ⟨⟨m, rfl, _⟩, rfl⟩)
    | (go_at_call 116; refine (fail_any hr 11 (p : Int)).mono ?_; rintro x w1 ⟨rfl, hr1, hk1⟩))
   all_goals first
    | (exfalso; omega)
    | (go_ret2
       rw [HC.out]
       exact ⟨rfl, ⟨_, hr1⟩, hk1⟩)
 cases hlow : lowAt (ints s) (p + 6) with
 | none =>
  have HC : Hid (coded (ints s) p = .bad 11 p) := by unfold coded; rw [he, if_neg hk, if_neg h1, if_neg h2, hlow]; rfl
  rw [hlow] at yy
  go_enter Tryz.func182, Tryz.ntmps182
  go_wp2_with (first
   | (go_at_call 198; refine xx.mono ?_; rintro x w' ⟨rfl, rfl⟩)
   | (go_at_call 199; refine yy.mono ?_; rintro x w' ⟨⟨m, rfl, _⟩, rfl⟩)
   | (go_at_call 116; refine (fail_any hr 11 (p : Int)).mono ?_; rintro x w1 ⟨rfl, hr1, hk1⟩))
  all_goals first
   | (exfalso; omega)
   | (go_ret2
      rw [HC.out]
      exact ⟨rfl, ⟨_, hr1⟩, hk1⟩)
 | some m =>
  have hm := lowAt_bd hlow
  have HC : Hid (coded (ints s) p = .ok (65536 + (n - 55296) * 1024 + (m - 56320)) (p + 12)) := by unfold coded; rw [he, if_neg hk, if_neg h1, if_neg h2, hlow]; rfl
  have HR : Rdr (w.setCell ⟨R, 1, none⟩ (.int .i64 ((p : Int) + 12))) R s (p + 12) e l := hr.at (p + 12)
  have HK : Keep (One R) w (w.setCell ⟨R, 1, none⟩ (.int .i64 ((p : Int) + 12))) := Rdr.setAt w R (p + 12)
  rw [hlow] at yy
  go_enter Tryz.func182, Tryz.ntmps182
  go_wp2_with (first
   | (go_at_call 198; refine xx.mono ?_; rintro x w' ⟨rfl, rfl⟩)
   | (go_at_call 199; refine yy.mono ?_; rintro x w' ⟨⟨m', rfl, hmm⟩, rfl⟩; obtain rfl := hmm m rfl))
  all_goals first
   | (exfalso; omega)
   | (go_ret2
      rw [HC.out]
      exact ⟨rfl, ⟨_, _, HR⟩, HK⟩)
theorem escape_one {w : World} {R p : Nat} {s : ByteArray} {e l : Int} (hr : Rdr w R s p e l) (hp : p ≤ 20000) (b c : Int) (hb : byteAt (ints s) (p + 1) = b)
    (hbc : (b = 34 ∧ c = 34) ∨ (b = 92 ∧ c = 92) ∨ (b = 47 ∧ c = 47) ∨ (b = 98 ∧ c = 8) ∨ (b = 102 ∧ c = 12) ∨ (b = 110 ∧ c = 10) ∨ (b = 114 ∧ c = 13) ∨ (b = 116 ∧ c = 9)) :
    Calls Tryz.prog 165 #[.pointer (some ⟨R, 0, none⟩)] w fun x w' => runeTold w w' R s (.ok c (p + 2)) x := by
 have c1 := hr.c1
 have f1 := hr.fz 1
 have HR : Rdr (w.setCell ⟨R, 1, none⟩ (.int .i64 ((p : Int) + 2))) R s (p + 2) e l := hr.at (p + 2)
 have HK : Keep (One R) w (w.setCell ⟨R, 1, none⟩ (.int .i64 ((p : Int) + 2))) := Rdr.setAt w R (p + 2)
 have xx := byteAt_any hr (p + 1)
 rw [hb] at xx
 clear hb
 rcases hbc with ⟨rfl, rfl⟩ | ⟨rfl, rfl⟩ | ⟨rfl, rfl⟩ | ⟨rfl, rfl⟩ | ⟨rfl, rfl⟩ | ⟨rfl, rfl⟩ | ⟨rfl, rfl⟩ | ⟨rfl, rfl⟩
 all_goals
  go_enter Tryz.func165, Tryz.ntmps165
  go_wp2_with (go_at_call 162; refine xx.mono ?_; rintro x w' ⟨rfl, rfl⟩)
  go_ret2
  exact ⟨rfl, ⟨_, _, HR⟩, HK⟩
theorem escape_any {w : World} {R p : Nat} {s : ByteArray} {e l : Int} (hr : Rdr w R s p e l) (hp : p ≤ 20000) :
    Calls Tryz.prog 165 #[.pointer (some ⟨R, 0, none⟩)] w fun x w' => runeTold w w' R s (escape (ints s) p) x := by
 have one := fun b c hb hbc => escape_one hr hp b c hb hbc
 unfold escape
 simp only
 split
 · rename_i h
   rcases h with h | h | h
   · rw [h]; exact one 34 34 h (by simp)
   · rw [h]; exact one 92 92 h (by simp)
   · rw [h]; exact one 47 47 h (by simp)
 split
 · rename_i h; exact one 98 8 h (by simp)
 split
 · rename_i h; exact one 102 12 h (by simp)
 split
 · rename_i h; exact one 110 10 h (by simp)
 split
 · rename_i h; exact one 114 13 h (by simp)
 split
 · rename_i h; exact one 116 9 h (by simp)
 have c1 := hr.c1
 have xx := byteAt_any hr (p + 1)
 split
 · rename_i h
   rw [h] at xx
   have yy := coded_any hr hp
   cases hc : coded (ints s) p with
   | ok c q =>
    rw [hc] at yy
    go_enter Tryz.func165, Tryz.ntmps165
    go_wp2_with (first
     | (go_at_call 162; refine xx.mono ?_; rintro x w' ⟨rfl, rfl⟩)
     | (go_at_call 182; refine yy.mono ?_; rintro x w1 ⟨rfl, hk⟩))
    go_ret2
    exact ⟨rfl, hk⟩
   | bad e' l' =>
    rw [hc] at yy
    go_enter Tryz.func165, Tryz.ntmps165
    go_wp2_with (first
     | (go_at_call 162; refine xx.mono ?_; rintro x w' ⟨rfl, rfl⟩)
     | (go_at_call 182; refine yy.mono ?_; rintro x w1 ⟨rfl, hk⟩))
    go_ret2
    exact ⟨rfl, hk⟩
 · rename_i h1 h2 h3 h4 h5 h6 h7
   obtain ⟨c, hc⟩ : ∃ c, byteAt (ints s) (p + 1) = c := ⟨_, rfl⟩
   rw [hc] at h1 h2 h3 h4 h5 h6 h7 xx
   have h11 : ¬ c = 34 := fun h => h1 (.inl h)
   have h12 : ¬ c = 92 := fun h => h1 (.inr (.inl h))
   have h13 : ¬ c = 47 := fun h => h1 (.inr (.inr h))
   clear h1 hc one
   go_enter Tryz.func165, Tryz.ntmps165
   go_wp2_with (first
    | (go_at_call 162; refine xx.mono ?_; rintro x w' ⟨rfl, rfl⟩)
    | (go_at_call 116; refine (fail_any hr 11 ((p + 1 : Nat) : Int)).mono ?_; rintro x w1 ⟨rfl, hr1, hk1⟩))
   go_ret2
   exact ⟨rfl, ⟨_, hr1⟩, hk1⟩
theorem begins_any (c : Int) (w : World) : Calls Tryz.prog 139 #[.int .u8 c] w fun x w' => x = .returned (.bool (begins c)) ∧ w = w' := by
 by_cases h : c = 91 ∨ c = 123 ∨ c = 34 ∨ c = 110 ∨ c = 116 ∨ c = 102 ∨ c = 45
 · have hb : begins c = true := by unfold begins; simp; omega
   rw [hb]
   rcases h with rfl | rfl | rfl | rfl | rfl | rfl | rfl
   all_goals
    go_enter Tryz.func139, Tryz.ntmps139
    go_wp2
    go_ret
    exact ⟨rfl, rfl⟩
 · have hb : begins c = isDig c := by
     unfold begins
     rw [Bool.eq_iff_iff]
     simp
     omega
   have g1 : ¬ c = 91 := by omega
   have g2 : ¬ c = 123 := by omega
   have g3 : ¬ c = 34 := by omega
   have g4 : ¬ c = 110 := by omega
   have g5 : ¬ c = 116 := by omega
   have g6 : ¬ c = 102 := by omega
   have g7 : ¬ c = 45 := by omega
   rw [hb]
   clear h hb
   go_enter Tryz.func139, Tryz.ntmps139
   go_wp2_with (go_at_call 163; refine (isDigit_any c _).mono ?_; rintro x w' ⟨rfl, rfl⟩)
   go_ret
   exact ⟨rfl, rfl⟩
def boolTold (w w' : World) (R : Nat) (s : ByteArray) (r : Res Unit) (x : Ending) : Prop := match r with
 | .ok _ q => x = .returned (.bool true) ∧ OkAt w w' R s q
 | .bad e l => x = .returned (.bool false) ∧ BadAt w w' R s e l
theorem word_step {t : List Int} {u : ByteArray} {k p : Nat} (hk : k < u.size) : word t ((ints u).drop k) p = (must t (u[k].toNat : Int) p).bind fun _ q => word t ((ints u).drop (k + 1)) q := by
 have hl : k < (ints u).length := by rw [ints_length]; exact hk
 have e : (ints u).drop k = (u[k].toNat : Int) :: (ints u).drop (k + 1) := by
  rw [List.drop_eq_getElem_cons hl]
  congr 1
  have := ints_getD u k hk
  rw [List.getD_eq_getElem?_getD, List.getElem?_eq_getElem hl] at this
  exact this
 rw [e]
 rfl
theorem word_any {w : World} {R p : Nat} {s : ByteArray} {e l : Int} (hr : Rdr w R s p e l) (hp : p ≤ 17000) (u : ByteArray) (hu : u.size ≤ 10) :
    Calls Tryz.prog 140 #[.pointer (some ⟨R, 0, none⟩), .string u] w fun x w' => boolTold w w' R s (word (ints s) (ints u) p) x := by
 go_enter Tryz.func140, Tryz.ntmps140
 go_wp2
 go_loopw [8] (fun i wr => ∃ k : Nat, i = .int .i64 k ∧ k ≤ u.size ∧ word (ints s) ((ints u).drop k) (p + k) = word (ints s) (ints u) p ∧ OkAt w wr R s (p + k)) (fun i _ => u.size - (intOf i).toNat)
 case atStart => exact ⟨0, rfl, Nat.zero_le _, rfl, OkAt.refl hr⟩
 case round =>
  obtain ⟨k, rfl, hk, hw, ⟨⟨e1, l1, hrk⟩, hkeep⟩⟩ := hrel
  have HW : Hid (word (ints s) ((ints u).drop k) (p + k) = word (ints s) (ints u) p) := hw
  clear hw hr
  by_cases hlt : k < u.size
  · have HS : Hid (word (ints s) ((ints u).drop k) (p + k) = (must (ints s) (u[k].toNat : Int) (p + k)).bind fun _ q => word (ints s) ((ints u).drop (k + 1)) q) := word_step hlt
    by_cases hm : byteAt (ints s) (p + k) = (u[k].toNat : Int)
    · have HM : Hid (must (ints s) (u[k].toNat : Int) (p + k) = .ok () (p + k + 1)) := by unfold must; rw [if_pos hm]; rfl
      go_wp2_with (go_at_call 164; refine (must_yes hrk (by omega) _ hm).mono ?_; rintro x w1 ⟨rfl, hk1⟩)
      go_roundw
      case rel => exact ⟨k + 1, by go_num, hlt, by rw [← HW.out, HS.out, HM.out]; rfl, OkAt.then ⟨⟨_, _, hrk⟩, hkeep⟩ hk1⟩
      case measure => simp [intOf]; omega
    · have HM : Hid (must (ints s) (u[k].toNat : Int) (p + k) = .bad 11 (p + k)) := by unfold must; rw [if_neg hm]; rfl
      go_wp2_with (go_at_call 164; refine (must_no hrk _ hm).mono ?_; rintro x w1 ⟨rfl, hk1⟩)
      go_ret
      rw [← HW.out, HS.out, HM.out]
      exact ⟨rfl, OkAt.bad ⟨⟨_, _, hrk⟩, hkeep⟩ hk1⟩
  · obtain rfl : k = u.size := by omega
    have HE : Hid (word (ints s) ((ints u).drop u.size) (p + u.size) = .ok () (p + u.size)) := by
     rw [List.drop_eq_nil_of_le (by rw [ints_length]; exact Nat.le_refl _)]; rfl
    go_wp2
    go_ret
    rw [← HW.out, HE.out]
    exact ⟨rfl, ⟨⟨_, _, hrk⟩, hkeep⟩⟩
theorem digs_take {t : List Int} {p q : Nat} (hq : p ≤ q) (h : isDig (byteAt t q) = true) (hall : (t.drop p).takeWhile isDig = (t.drop p).take (q - p) ++ (t.drop q).takeWhile isDig) :
    (t.drop p).takeWhile isDig = (t.drop p).take (q + 1 - p) ++ (t.drop (q + 1)).takeWhile isDig ∧ (t.drop p).take (q + 1 - p) = (t.drop p).take (q - p) ++ [byteAt t q] := by
 have hl := byteAt_lt (dig_ne h)
 have e : t.drop q = t[q] :: t.drop (q + 1) := List.drop_eq_getElem_cons hl
 have g : byteAt t q = t[q] := by unfold byteAt; rw [List.getD_eq_getElem?_getD, List.getElem?_eq_getElem hl]; rfl
 have e2 : (t.drop p).take (q + 1 - p) = (t.drop p).take (q - p) ++ [byteAt t q] := by
  rw [show q + 1 - p = (q - p) + 1 by omega, List.take_add_one, List.getElem?_drop, show p + (q - p) = q by omega, List.getElem?_eq_getElem hl, g]
  rfl
 refine ⟨?_, e2⟩
 rw [hall, e2, e, List.takeWhile_cons, ← g, h]
 simp
theorem digs_end {t : List Int} {q : Nat} (h : isDig (byteAt t q) = false) : (t.drop q).takeWhile isDig = [] := by
 cases hd : t.drop q with
 | nil => rfl
 | cons c r =>
  rw [byte_head hd] at h
  rw [List.takeWhile_cons, h]
  rfl
theorem digs_bd (x : List Int) (h : ∀ c ∈ x, isDig c = true) : 0 ≤ digs x ∧ digs x ≤ 90071992547409919 := by
 unfold digs
 have : ∀ (x : List Int) (n : Int), (∀ c ∈ x, isDig c = true) → 0 ≤ n → n ≤ 90071992547409919 → 0 ≤ x.foldl (fun n c => if n ≤ maxInt then n * 10 + (c - 48) else n) n ∧ x.foldl (fun n c => if n ≤ maxInt then n * 10 + (c - 48) else n) n ≤ 90071992547409919 := by
  intro x
  induction x with
  | nil => intro n _ h0 h1; exact ⟨h0, h1⟩
  | cons c x ih =>
   intro n hx h0 h1
   have hc := hx c (by simp)
   unfold isDig at hc
   simp at hc
   rw [List.foldl_cons]
   refine ih _ (fun d hd => hx d (by simp [hd])) ?_ ?_
   · split <;> omega
   · split
     · rename_i h; unfold maxInt at h; omega
     · exact h1
 exact this x 0 h (by omega) (by omega)
theorem digits_any {w : World} {R p : Nat} {s : ByteArray} {e l : Int} (hr : Rdr w R s p e l) (hs : short s) (hp : p ≤ s.size) :
    Calls Tryz.prog 169 #[.pointer (some ⟨R, 0, none⟩)] w fun x w' => x = .returned (.int .i64 (digits (ints s) p).1) ∧ OkAt w w' R s (digits (ints s) p).2 := by
 unfold short at hs
 by_cases h0 : byteAt (ints s) p = 48
 · have HD : Hid (digits (ints s) p = (0, p + 1)) := by unfold digits; rw [if_pos h0]; rfl
   go_enter Tryz.func169, Tryz.ntmps169
   go_wp2_with (go_at_call 167; refine (take_yes hr (by omega) 48 h0).mono ?_; rintro x w1 ⟨rfl, hk1⟩)
   go_ret
   rw [HD.out]
   exact ⟨rfl, hk1⟩
 · have HD : Hid (digits (ints s) p = (digs (((ints s).drop p).takeWhile isDig), p + (((ints s).drop p).takeWhile isDig).length)) := by unfold digits; rw [if_neg h0]; rfl
   go_enter Tryz.func169, Tryz.ntmps169
   go_wp2_with (go_at_call 167; refine (take_no hr 48 h0).mono ?_; rintro x w' ⟨rfl, rfl⟩)
   go_loopw [3] (fun v wr => ∃ q : Nat, v = .int .i64 (digs (((ints s).drop p).take (q - p))) ∧ p ≤ q ∧ q ≤ s.size ∧ (∀ c ∈ ((ints s).drop p).take (q - p), isDig c = true) ∧
       ((ints s).drop p).takeWhile isDig = ((ints s).drop p).take (q - p) ++ ((ints s).drop q).takeWhile isDig ∧ Rdr wr R s q e l ∧ Keep (One R) w wr) (fun _ wr => s.size - posOf R wr)
   case atStart => exact ⟨p, by rw [Nat.sub_self]; rfl, Nat.le_refl _, hp, by rw [Nat.sub_self]; simp, by rw [Nat.sub_self]; simp, hr, Keep.refl _ _⟩
   case round =>
    obtain ⟨q, rfl, hpq, hq, hall, htw, hrq, hkeep⟩ := hrel
    clear hr
    have hdb := digs_bd _ hall
    have HALL : Hid (∀ c ∈ ((ints s).drop p).take (q - p), isDig c = true) := hall
    have HTW : Hid (((ints s).drop p).takeWhile isDig = ((ints s).drop p).take (q - p) ++ ((ints s).drop q).takeWhile isDig) := htw
    obtain ⟨n, hn⟩ : ∃ n, digs (((ints s).drop p).take (q - p)) = n := ⟨_, rfl⟩
    rw [hn] at hdb ⊢
    have HN : Hid (digs (((ints s).drop p).take (q - p)) = n) := hn
    have hbb := byte_bd s q
    clear hall htw hn
    cases hd : isDig (byteAt (ints s) q) with
    | true =>
     have hlt : q < s.size := by
      have := byteAt_lt (dig_ne hd)
      rw [ints_length] at this; exact this
     have hdg : 48 ≤ byteAt (ints s) q ∧ byteAt (ints s) q ≤ 57 := by unfold isDig at hd; simpa using hd
     obtain ⟨g1, g2⟩ := digs_take hpq hd HTW.out
     have G1 : Hid (((ints s).drop p).takeWhile isDig = ((ints s).drop p).take (q + 1 - p) ++ ((ints s).drop (q + 1)).takeWhile isDig) := g1
     have G2 : Hid (((ints s).drop p).take (q + 1 - p) = ((ints s).drop p).take (q - p) ++ [byteAt (ints s) q]) := g2
     have G3 : Hid (∀ c ∈ ((ints s).drop p).take (q + 1 - p), isDig c = true) := by
      intro c hc
      rw [G2.out] at hc
      rcases List.mem_append.1 hc with hc | hc
      · exact HALL.out c hc
      · rw [List.mem_singleton.1 hc]; exact hd
     clear g1 g2
     have c1 := hrq.c1
     have f1 := hrq.fz 1
     have HR : Rdr (wr.setCell ⟨R, 1, none⟩ (.int .i64 ((q : Int) + 1))) R s (q + 1) e l := hrq.at (q + 1)
     have HK : Keep (One R) w (wr.setCell ⟨R, 1, none⟩ (.int .i64 ((q : Int) + 1))) := hkeep.then (Rdr.setAt wr R (q + 1))
     have HP := posOf_rdr HR
     have HP0 := posOf_rdr hrq
     by_cases hm : n ≤ 9007199254740991
     · have G4 : Hid (digs (((ints s).drop p).take (q + 1 - p)) = n * 10 + (byteAt (ints s) q - 48)) := by
         rw [G2.out]
         unfold digs
         rw [List.foldl_append]
         have := HN.out
         unfold digs at this
         rw [this]
         show (if n ≤ maxInt then n * 10 + (byteAt (ints s) q - 48) else n) = _
         rw [if_pos (by unfold maxInt; exact hm)]
       go_wp2_with (first
        | (go_at_call 138; refine (peek_any hrq).mono ?_; rintro x w' ⟨rfl, rfl⟩)
        | (go_at_call 163; refine (isDigit_any _ _).mono ?_; rw [hd]; rintro x w' ⟨rfl, rfl⟩))
       go_roundw
       case rel => exact ⟨q + 1, by rw [G4.out], by omega, hlt, G3.out, G1.out, HR, HK⟩
       case measure => rw [HP, HP0]; omega
     · have G4 : Hid (digs (((ints s).drop p).take (q + 1 - p)) = n) := by
         rw [G2.out]
         unfold digs
         rw [List.foldl_append]
         have := HN.out
         unfold digs at this
         rw [this]
         show (if n ≤ maxInt then n * 10 + (byteAt (ints s) q - 48) else n) = _
         rw [if_neg (by unfold maxInt; exact hm)]
       go_wp2_with (first
        | (go_at_call 138; refine (peek_any hrq).mono ?_; rintro x w' ⟨rfl, rfl⟩)
        | (go_at_call 163; refine (isDigit_any _ _).mono ?_; rw [hd]; rintro x w' ⟨rfl, rfl⟩))
       go_roundw
       case rel => exact ⟨q + 1, by rw [G4.out], by omega, hlt, G3.out, G1.out, HR, HK⟩
       case measure => rw [HP, HP0]; omega
    | false =>
     have HE : Hid (((ints s).drop p).takeWhile isDig = ((ints s).drop p).take (q - p)) := by
      rw [HTW.out, digs_end hd, List.append_nil]; rfl
     go_wp2_with (first
      | (go_at_call 138; refine (peek_any hrq).mono ?_; rintro x w' ⟨rfl, rfl⟩)
      | (go_at_call 163; refine (isDigit_any _ _).mono ?_; rw [hd]; rintro x w' ⟨rfl, rfl⟩))
     go_ret
     rw [HD.out]
     refine ⟨ret_int ?_, ?_⟩
     · rw [HE.out]; exact HN.out.symm
     · rw [HE.out]
       have hlen : (((ints s).drop p).take (q - p)).length = q - p := by
        rw [List.length_take, List.length_drop, ints_length]; omega
       rw [hlen, show p + (q - p) = q by omega]
       exact ⟨⟨_, _, hrq⟩, hkeep⟩
end Go.Proofs.YtegcgbjjpgjnmaaGreatDoor

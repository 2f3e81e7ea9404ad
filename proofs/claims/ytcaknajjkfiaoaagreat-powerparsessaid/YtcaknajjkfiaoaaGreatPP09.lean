/-
  Servers' names, local names and types, as the document answers: by contracts.
  Names taken apart as the document answers, by contracts; and where a name is at home.
  The document's users and types: by contracts.
  The document's levels of a content: a number, what is told under a key, who is a user: by contracts.
  Levels that are parsed are not too many.
  Bits of a letter's bytes, as sums and rests.
  Rune, by a contract.
-/
import Derived.Test.YtcaknajjkfiaoaaGreatPP08
import Derived.Laws.BitsAllLaws
set_option maxRecDepth 100000
set_option maxHeartbeats 16000000
namespace Go.Proofs.YtcaknajjkfiaoaaGreat.Id
open Go.RowKit
theorem refServer_any (s : ByteArray) (w : World) (hs : s.size ≤ 140737488351232) :
    Calls Tryz.prog 56 #[.string s] w fun e w' => e = .returned (.bool (srv s)) ∧ w = w' := by
 unfold srv
 by_cases he : s.size = 0
 · have he' : (s.size : Int) = 0 := by omega
   go_enter Tryz.func56, Tryz.ntmps56
   go_wp2
   go_ret
   exact ⟨ret_bool (okText_none _ _ _ he).symm, rfl⟩
 by_cases hm : 32 < (s.size : Int)
 · go_enter Tryz.func56, Tryz.ntmps56
   go_wp2
   go_ret
   exact ⟨ret_bool (okText_long _ _ _ hm).symm, rfl⟩
 go_enter Tryz.func56, Tryz.ntmps56
 go_wp2
 go_loop [3] (fun i => ∃ k : Nat, k ≤ s.size ∧ i = .int .i64 k ∧ ∀ j, j < k → kSrv ((ints s).getD j 0) = true) (fun i => s.size - (intOf i).toNat)
 case atStart => exact ⟨0, Nat.zero_le _, rfl, fun j hj => by omega⟩
 case round =>
  obtain ⟨k, hk, rfl, hall⟩ := hrel
  have HA : Hid (∀ j, j < k → kSrv ((ints s).getD j 0) = true) := hall
  clear hall
  by_cases hlt : k < s.size
  · have HG : Hid ((ints s).getD k 0 = (s[k].toNat : Int)) := ints_getD s k hlt
    have hb1 : (s[k].toNat : Int) ≤ 255 := by have := s[k].toNat_lt; omega
    by_cases h0 : small (s[k].toNat : Int) = true
    · have HB : Hid (kSrv ((ints s).getD k 0) = true) := by rw [HG.out]; unfold kSrv; simp [h0]; exact trivial
      go_wp2_with (go_at_call 53; refine (small_any _ _).mono ?_; rintro e w' ⟨rfl, rfl⟩)
      go_round
      case rel => exact ⟨k + 1, by omega, by go_num, fun j hj => by
                            by_cases e : j = k
                            · rw [e]; exact HB.out
                            · exact HA.out j (by omega)⟩
      case measure => simp [intOf]; omega
    have h0' : small (s[k].toNat : Int) = false := by simpa using h0
    clear h0
    by_cases h45 : (s[k].toNat : Int) = 45
    · have HB : Hid (kSrv ((ints s).getD k 0) = true) := by rw [HG.out]; unfold kSrv; simp [h45]; exact trivial
      go_wp2_with (go_at_call 53; refine (small_any _ _).mono ?_; rintro e w' ⟨rfl, rfl⟩)
      go_round
      case rel => exact ⟨k + 1, by omega, by go_num, fun j hj => by
                            by_cases e : j = k
                            · rw [e]; exact HB.out
                            · exact HA.out j (by omega)⟩
      case measure => simp [intOf]; omega
    have HB : Hid (kSrv ((ints s).getD k 0) = false) := by rw [HG.out]; unfold kSrv; simp [h0', h45]; exact trivial
    go_wp2_with (go_at_call 53; refine (small_any _ _).mono ?_; rintro e w' ⟨rfl, rfl⟩)
    go_ret
    exact ⟨ret_bool (okText_bad _ _ _ k hlt HB.out).symm, rfl⟩
  · obtain rfl : k = s.size := by omega
    go_wp2
    go_ret
    exact ⟨ret_bool (okText_all _ _ _ (by omega) (by omega) HA.out).symm, rfl⟩
theorem refLocal_any (s : ByteArray) (w : World) (hs : s.size ≤ 140737488351232) :
    Calls Tryz.prog 69 #[.string s] w fun e w' => e = .returned (.bool (loc s)) ∧ w = w' := by
 unfold loc
 by_cases he : s.size = 0
 · have he' : (s.size : Int) = 0 := by omega
   go_enter Tryz.func69, Tryz.ntmps69
   go_wp2
   go_ret
   exact ⟨ret_bool (okText_none _ _ _ he).symm, rfl⟩
 by_cases hm : 32 < (s.size : Int)
 · go_enter Tryz.func69, Tryz.ntmps69
   go_wp2
   go_ret
   exact ⟨ret_bool (okText_long _ _ _ hm).symm, rfl⟩
 go_enter Tryz.func69, Tryz.ntmps69
 go_wp2
 go_loop [3] (fun i => ∃ k : Nat, k ≤ s.size ∧ i = .int .i64 k ∧ ∀ j, j < k → kLoc ((ints s).getD j 0) = true) (fun i => s.size - (intOf i).toNat)
 case atStart => exact ⟨0, Nat.zero_le _, rfl, fun j hj => by omega⟩
 case round =>
  obtain ⟨k, hk, rfl, hall⟩ := hrel
  have HA : Hid (∀ j, j < k → kLoc ((ints s).getD j 0) = true) := hall
  clear hall
  by_cases hlt : k < s.size
  · have HG : Hid ((ints s).getD k 0 = (s[k].toNat : Int)) := ints_getD s k hlt
    have hb1 : (s[k].toNat : Int) ≤ 255 := by have := s[k].toNat_lt; omega
    by_cases h0 : small (s[k].toNat : Int) = true
    · have HB : Hid (kLoc ((ints s).getD k 0) = true) := by rw [HG.out]; unfold kLoc; simp [h0]; exact trivial
      go_wp2_with (go_at_call 53; refine (small_any _ _).mono ?_; rintro e w' ⟨rfl, rfl⟩)
      go_round
      case rel => exact ⟨k + 1, by omega, by go_num, fun j hj => by
                            by_cases e : j = k
                            · rw [e]; exact HB.out
                            · exact HA.out j (by omega)⟩
      case measure => simp [intOf]; omega
    have h0' : small (s[k].toNat : Int) = false := by simpa using h0
    clear h0
    by_cases h45 : (s[k].toNat : Int) = 45
    · have HB : Hid (kLoc ((ints s).getD k 0) = true) := by rw [HG.out]; unfold kLoc; simp [h45]; exact trivial
      go_wp2_with (go_at_call 53; refine (small_any _ _).mono ?_; rintro e w' ⟨rfl, rfl⟩)
      go_round
      case rel => exact ⟨k + 1, by omega, by go_num, fun j hj => by
                            by_cases e : j = k
                            · rw [e]; exact HB.out
                            · exact HA.out j (by omega)⟩
      case measure => simp [intOf]; omega
    by_cases h95 : (s[k].toNat : Int) = 95
    · have HB : Hid (kLoc ((ints s).getD k 0) = true) := by rw [HG.out]; unfold kLoc; simp [h95]; exact trivial
      go_wp2_with (go_at_call 53; refine (small_any _ _).mono ?_; rintro e w' ⟨rfl, rfl⟩)
      go_round
      case rel => exact ⟨k + 1, by omega, by go_num, fun j hj => by
                            by_cases e : j = k
                            · rw [e]; exact HB.out
                            · exact HA.out j (by omega)⟩
      case measure => simp [intOf]; omega
    have HB : Hid (kLoc ((ints s).getD k 0) = false) := by rw [HG.out]; unfold kLoc; simp [h0', h45, h95]; exact trivial
    have b45 : ((s[k].toNat : Int) != 45) = true := by simp [h45]
    have b95 : ((s[k].toNat : Int) != 95) = true := by simp [h95]
    go_wp2_with (go_at_call 53; refine (small_any _ _).mono ?_; rintro e w' ⟨rfl, rfl⟩)
    go_ret
    exact ⟨ret_bool (okText_bad _ _ _ k hlt HB.out).symm, rfl⟩
  · obtain rfl : k = s.size := by omega
    go_wp2
    go_ret
    exact ⟨ret_bool (okText_all _ _ _ (by omega) (by omega) HA.out).symm, rfl⟩
theorem refType_any (s : ByteArray) (w : World) (hs : s.size ≤ 140737488351232) :
    Calls Tryz.prog 27 #[.string s] w fun e w' => e = .returned (.bool (typ s)) ∧ w = w' := by
 unfold typ
 by_cases he : s.size = 0
 · have he' : (s.size : Int) = 0 := by omega
   go_enter Tryz.func27, Tryz.ntmps27
   go_wp2
   go_ret
   exact ⟨ret_bool (okText_none _ _ _ he).symm, rfl⟩
 by_cases hm : 64 < (s.size : Int)
 · go_enter Tryz.func27, Tryz.ntmps27
   go_wp2
   go_ret
   exact ⟨ret_bool (okText_long _ _ _ hm).symm, rfl⟩
 go_enter Tryz.func27, Tryz.ntmps27
 go_wp2
 go_loop [3] (fun i => ∃ k : Nat, k ≤ s.size ∧ i = .int .i64 k ∧ ∀ j, j < k → kTyp ((ints s).getD j 0) = true) (fun i => s.size - (intOf i).toNat)
 case atStart => exact ⟨0, Nat.zero_le _, rfl, fun j hj => by omega⟩
 case round =>
  obtain ⟨k, hk, rfl, hall⟩ := hrel
  have HA : Hid (∀ j, j < k → kTyp ((ints s).getD j 0) = true) := hall
  clear hall
  by_cases hlt : k < s.size
  · have HG : Hid ((ints s).getD k 0 = (s[k].toNat : Int)) := ints_getD s k hlt
    have hb1 : (s[k].toNat : Int) ≤ 255 := by have := s[k].toNat_lt; omega
    by_cases h0 : small (s[k].toNat : Int) = true
    · have HB : Hid (kTyp ((ints s).getD k 0) = true) := by rw [HG.out]; unfold kTyp; simp [h0]; exact trivial
      go_wp2_with (go_at_call 53; refine (small_any _ _).mono ?_; rintro e w' ⟨rfl, rfl⟩)
      go_round
      case rel => exact ⟨k + 1, by omega, by go_num, fun j hj => by
                            by_cases e : j = k
                            · rw [e]; exact HB.out
                            · exact HA.out j (by omega)⟩
      case measure => simp [intOf]; omega
    have h0' : small (s[k].toNat : Int) = false := by simpa using h0
    clear h0
    by_cases h95 : (s[k].toNat : Int) = 95
    · have HB : Hid (kTyp ((ints s).getD k 0) = true) := by rw [HG.out]; unfold kTyp; simp [h95]; exact trivial
      go_wp2_with (go_at_call 53; refine (small_any _ _).mono ?_; rintro e w' ⟨rfl, rfl⟩)
      go_round
      case rel => exact ⟨k + 1, by omega, by go_num, fun j hj => by
                            by_cases e : j = k
                            · rw [e]; exact HB.out
                            · exact HA.out j (by omega)⟩
      case measure => simp [intOf]; omega
    have HB : Hid (kTyp ((ints s).getD k 0) = false) := by rw [HG.out]; unfold kTyp; simp [h0', h95]; exact trivial
    go_wp2_with (go_at_call 53; refine (small_any _ _).mono ?_; rintro e w' ⟨rfl, rfl⟩)
    go_ret
    exact ⟨ret_bool (okText_bad _ _ _ k hlt HB.out).symm, rfl⟩
  · obtain rfl : k = s.size := by omega
    go_wp2
    go_ret
    exact ⟨ret_bool (okText_all _ _ _ (by omega) (by omega) HA.out).symm, rfl⟩
theorem refParts_any (s : ByteArray) (c : Int) (w : World) (hs : s.size ≤ 1000000000) :
    Calls Tryz.prog 52 #[.int .u8 c, .string s] w fun e w' => e = .returned (told (parts c s)) ∧ Below w.heap.size w w' := by
 go_enter Tryz.func52, Tryz.ntmps52
 go_wp2
 go_loop [7] (fun i => ∃ k : Nat, 1 ≤ k ∧ (k ≤ s.size ∨ k = 1) ∧ i = .int .i64 k ∧ ∀ j, 1 ≤ j → j < k → (ints s).getD j 0 ≠ 58) (fun i => s.size - (intOf i).toNat)
 case atStart => exact ⟨1, Nat.le_refl _, .inr rfl, rfl, fun j h1 h2 => by omega⟩
 case round =>
  obtain ⟨k, h1, hk, rfl, hall⟩ := hrel
  have HA : Hid (∀ j, 1 ≤ j → j < k → (ints s).getD j 0 ≠ 58) := hall
  clear hall
  by_cases hlt : k < s.size
  · have h0 : 0 < s.size := by omega
    have HG0 : Hid ((ints s).getD 0 0 = (s[0].toNat : Int)) := ints_getD s 0 h0
    by_cases hc : (s[0].toNat : Int) = c
    · have HG : Hid ((ints s).getD k 0 = (s[k].toNat : Int)) := ints_getD s k hlt
      by_cases h58 : (s[k].toNat : Int) = 58
      · have HP : Hid (parts c s = if loc (s.extract 1 k) = true ∧ srv (s.extract (k + 1) s.size) = true then (s.extract 1 k, s.extract (k + 1) s.size, true) else (nix, nix, false)) :=
          parts_hit c s k (by rw [HG0.out]; exact hc) h1 hlt (by rw [HG.out]; exact h58) HA.out
        have hl1 : (s.extract 1 k).size ≤ 140737488351232 := by simp; omega
        have hl2 : (s.extract (k + 1) s.size).size ≤ 140737488351232 := by simp; omega
        by_cases hL : loc (s.extract 1 k) = true
        · by_cases hS : srv (s.extract (k + 1) s.size) = true
          · go_wp2_with (first
              | (go_at_call 69; refine (refLocal_any _ _ hl1).mono ?_; rintro e w' ⟨rfl, rfl⟩)
              | (go_at_call 56; refine (refServer_any _ _ hl2).mono ?_; rintro e w' ⟨rfl, rfl⟩))
            go_quiet (fail)
            go_wp2
            go_ret3
            exact ⟨ret_told (by rw [HP.out, if_pos ⟨hL, hS⟩]), below_drewN _ _⟩
          · have hS' : srv (s.extract (k + 1) s.size) = false := by simpa using hS
            go_wp2_with (first
             | (go_at_call 69; refine (refLocal_any _ _ hl1).mono ?_; rintro e w' ⟨rfl, rfl⟩)
             | (go_at_call 56; refine (refServer_any _ _ hl2).mono ?_; rintro e w' ⟨rfl, rfl⟩))
            go_ret3
            exact ⟨ret_told (by rw [HP.out, if_neg (by simp [hS'])]; rfl), Below.refl _ _⟩
        · have hL' : loc (s.extract 1 k) = false := by simpa using hL
          go_wp2_with (go_at_call 69; refine (refLocal_any _ _ hl1).mono ?_; rintro e w' ⟨rfl, rfl⟩)
          go_ret3
          exact ⟨ret_told (by rw [HP.out, if_neg (by simp [hL'])]; rfl), Below.refl _ _⟩
      · go_wp2
        go_round
        case rel => exact ⟨k + 1, by omega, .inl (by omega), by go_num, fun j hj hj' => by
                              by_cases e : j = k
                              · rw [e, HG.out]; exact h58
                              · exact HA.out j hj (by omega)⟩
        case measure => simp [intOf]; omega
    · go_wp2
      go_ret3
      exact ⟨ret_told (parts_other c s (.inr (.inl (by rw [HG0.out]; exact hc)))), Below.refl _ _⟩
  · go_wp2
    go_ret3
    refine ⟨ret_told (parts_other c s ?_), Below.refl _ _⟩
    exact .inr (.inr fun j hj hj' => HA.out j hj (by omega))
theorem refUser_any (s : ByteArray) (w : World) (hs : s.size ≤ 1000000000) :
    Calls Tryz.prog 54 #[.string s] w fun e w' => e = .returned (told (parts 64 s)) ∧ Below w.heap.size w w' := by
 go_enter Tryz.func54, Tryz.ntmps54
 go_wp2_with (go_at_call 52; refine (refParts_any s 64 _ hs).mono ?_; rintro e w1 ⟨rfl, hb1⟩; unfold told)
 go_ret3
 exact ⟨rfl, hb1⟩
end Go.Proofs.YtcaknajjkfiaoaaGreat.Id
namespace Go.Proofs.YtcaknajjkfiaoaaGreat
open Go.RowKit
theorem belowN (w : World) (n : Nat) : Below w.heap.size w (w.drewN n) := ⟨rfl, rfl, rfl, Nat.le_refl _, fun _ _ => rfl⟩
theorem rIsU_any (s : ByteArray) (w : World) (hs : s.size ≤ 1000000000) : Calls Tryz.prog 28 #[.string s] w fun x w' => x = .returned (.bool (isU s)) ∧ Below w.heap.size w w' := by
 unfold isU
 go_enter Tryz.func28, Tryz.ntmps28
 go_wp2_with (go_at_call 54; refine (Id.refUser_any s _ hs).mono ?_; rintro e w1 ⟨rfl, hb1⟩; unfold Id.told)
 go_ret
 exact ⟨rfl, hb1⟩
theorem rIsT_any (s : ByteArray) (w : World) (hs : s.size ≤ 1000000000) : Calls Tryz.prog 27 #[.string s] w fun x w' => x = .returned (.bool (isT s)) ∧ Below w.heap.size w w' :=
 (Id.refType_any s w (by omega)).mono fun _ w' h => ⟨h.1, h.2 ▸ Below.refl _ _⟩
theorem rNumber_any {w : World} (k i : Int) (t : ByteArray) (p q : Option Addr) (n c m d : Nat) :
    Calls Tryz.prog 46 #[.agg #[.int .i64 k, .int .i64 i, .string t, .slice p n c, .slice q m d]] w fun e w' => e = .returned (.tuple #[.int .i64 i, .bool (lvOk k i)]) ∧ Below w.heap.size w w' := by
 obtain ⟨wA, hwA⟩ : ∃ wA, wA = w.alloc (.cells #[.int .i64 k, .int .i64 i, .string t, .slice p n c, .slice q m d] 25) := ⟨_, rfl⟩
 have hbA : Below w.heap.size w wA := by rw [hwA]; exact (Below.refl _ _).alloc (Nat.le_refl _) _
 have hA : wA.heap[w.heap.size]? = some (.cells #[.int .i64 k, .int .i64 i, .string t, .slice p n c, .slice q m d] 25 (0, 0)) := by rw [hwA]; exact newP _
 have i0 := cellP hA 0 _ rfl; have i1 := cellP hA 1 _ rfl
 have HE : Hid (∀ n, Below w.heap.size w (wA.drewN n)) := fun n => belowP hbA (belowN wA n)
 clear hA hbA
 have HL : Hid (lvOk k i = (decide (k = 2) && (decide (-1073741824 ≤ i) && decide (i ≤ 1073741824)))) := rfl
 by_cases h2 : k = 2
 · subst h2
   by_cases ha : -1073741824 ≤ i
   · by_cases hb : i ≤ 1073741824
     · have hd1 : decide (-1073741824 ≤ i) = true := decide_eq_true ha
       have hd2 : decide (i ≤ 1073741824) = true := decide_eq_true hb
       rw [HL.out]
       simp only [ha, hb, decide_true, Bool.and_self]
       go_enter Tryz.func46, Tryz.ntmps46
       go_wp2
       rw [← hwA]
       clear hwA
       go_quiet (fail)
       go_wp2
       go_ret2
       exact ⟨rfl, HE.out _⟩
     · have hd1 : decide (-1073741824 ≤ i) = true := decide_eq_true ha
       have hd2 : decide (i ≤ 1073741824) = false := decide_eq_false hb
       rw [HL.out]
       simp only [ha, hb, decide_true, decide_false, Bool.and_false]
       go_enter Tryz.func46, Tryz.ntmps46
       go_wp2
       rw [← hwA]
       clear hwA
       go_quiet (fail)
       go_wp2
       go_ret2
       exact ⟨rfl, HE.out _⟩
   · have hd : decide (-1073741824 ≤ i) = false := decide_eq_false ha
     rw [HL.out]
     simp only [ha, decide_true, decide_false, Bool.false_and, Bool.and_false]
     go_enter Tryz.func46, Tryz.ntmps46
     go_wp2
     rw [← hwA]
     clear hwA
     go_quiet (fail)
     go_wp2
     go_ret2
     exact ⟨rfl, HE.out _⟩
 · have hd : (k == 2) = false := by simp [h2]
   have hd' : decide (k = 2) = false := decide_eq_false h2
   rw [HL.out]
   simp only [h2, decide_false, Bool.false_and]
   go_enter Tryz.func46, Tryz.ntmps46
   go_wp2
   rw [← hwA]
   clear hwA
   go_quiet (fail)
   go_wp2
   go_ret2
   exact ⟨rfl, HE.out _⟩
theorem rTold_any {O : Nat → Prop} {w : World} {j : J} {k i : Int} {t : ByteArray} {pk pl : Option Addr} {nk ck nl cl : Nat} (hj : isJ O w j [.int .i64 k, .int .i64 i, .string t, .slice pk nk ck, .slice pl nl cl]) (hO : ∀ b, O b → b < w.heap.size) (hz : j.ks.length ≤ 100000) (s : ByteArray) (z : Int) :
    Calls Tryz.prog 19 #[.agg #[.int .i64 k, .int .i64 i, .string t, .slice pk nk ck, .slice pl nl cl], .string s, .int .i64 z] w fun e w' => e = .returned (.tuple #[.int .i64 (numT z (getT j s)).1, .bool (!(numT z (getT j s)).2)]) ∧ Below w.heap.size w w' := by
 obtain ⟨wA, hwA⟩ : ∃ wA, wA = w.alloc (.cells #[.int .i64 k, .int .i64 i, .string t, .slice pk nk ck, .slice pl nl cl] 25) := ⟨_, rfl⟩
 have hbA : Below w.heap.size w wA := by rw [hwA]; exact (Below.refl _ _).alloc (Nat.le_refl _) _
 have hA : wA.heap[w.heap.size]? = some (.cells #[.int .i64 k, .int .i64 i, .string t, .slice pk nk ck, .slice pl nl cl] 25 (0, 0)) := by rw [hwA]; exact newP _
 have hG := get_any (hj.carry (O' := O) (w' := wA) fun x hx => ⟨hx, hbA.block x (hO x hx)⟩) (fun b hb => Nat.lt_of_lt_of_le (hO b hb) hbA.size) hz s
 have i0 := cellP hA 0 _ rfl; have i1 := cellP hA 1 _ rfl; have i2 := cellP hA 2 _ rfl; have i3 := cellP hA 3 _ rfl; have i4 := cellP hA 4 _ rfl
 clear hj hO hA
 generalize getT j s = o at hG
 cases o with
 | none =>
  go_enter Tryz.func19, Tryz.ntmps19
  go_upto_region 1 with fail
  rw [← hwA]
  clear hwA
  go_wp2_with (go_at_call 35; refine hG.mono ?_; rintro e w1 ⟨he, hb1⟩; replace he : e = _ := he; subst he)
  go_ret2
  exact ⟨rfl, belowP hbA (belowP hb1 ((Below.refl _ _).alloc (Nat.le_refl _) _))⟩
 | some v =>
  have HV : Hid (∀ O w' (k i : Int) (t : ByteArray) (p q : Option Addr) (n c m d : Nat), isJ O w' v [.int .i64 k, .int .i64 i, .string t, .slice p n c, .slice q m d] → v.kd = k ∧ v.nm = i) := fun O w' k i t p q n c m d h => by
   obtain ⟨_, _, _, _, _⟩ := v
   obtain ⟨rfl, rfl, _⟩ := isJP_parts h
   exact ⟨rfl, rfl⟩
  go_enter Tryz.func19, Tryz.ntmps19
  go_upto_region 1 with fail
  rw [← hwA]
  clear hwA
  go_wp2_with (first
   | (go_at_call 35; refine hG.mono ?_; rintro e w1 ⟨⟨kv, iv, tv, pv, nv, cv, qv, mv, dv, rfl, hv⟩, hb1⟩; have HVV := (show Hid _ from HV.out _ _ _ _ _ _ _ _ _ _ _ hv); clear hv)
   | (go_at_call 46; refine (rNumber_any _ _ _ _ _ _ _ _ _).mono ?_; rintro e w2 ⟨rfl, hb2⟩))
  go_ret2
  have HNT : Hid (numT z (some v) = (iv, !lvOk kv iv)) := by show _ = _; simp only [numT, HVV.out.1, HVV.out.2]
  refine ⟨?_, belowP hbA (belowP hb1 (belowP ((Below.refl _ _).alloc (Nat.le_refl _) _) hb2))⟩
  rw [HNT.out]
  simp only [Bool.not_not]
  rfl
theorem szP_in {d : Nat} {j v : J} (h : szJ (d + 1) j = true) (hv : v ∈ j.ls) : szJ d v = true := by
 obtain ⟨k, i, t, ks, l⟩ := j
 unfold szJ at h
 simp only [Bool.and_eq_true] at h
 exact List.all_eq_true.1 h.2.2.2.2 v hv
theorem szP_keys {d : Nat} {j : J} (h : szJ (d + 1) j = true) : j.ks.length ≤ 100000 := by
 obtain ⟨k, i, t, ks, l⟩ := j
 unfold szJ at h
 simp only [Bool.and_eq_true, decide_eq_true_eq] at h
 exact h.2.1
theorem getT_mem {j v : J} {s : ByteArray} (h : getT j s = some v) : v ∈ j.ls := by
 unfold getT at h
 split at h
 · exact lookJ_mem h
 · cases h
theorem row_sz {d : Nat} {j : J} (hok : OkJ (d + 2) j) (fit : ByteArray → Bool) (s : ByteArray) : SzN (rowT fit (lookV j.ks j.ls s)).1 := by
 cases h : lookV j.ks j.ls s with
 | none => exact ⟨by simp [rowT], fun p hp => by simp [rowT] at hp⟩
 | some v =>
  have hv : OkJ (d + 1) v := by
   obtain ⟨_, _, _, _, _⟩ := j
   exact hok.parts.2.2.2.2.2 v (lookJ_mem h)
  obtain ⟨k, i, t, ks, l⟩ := v
  have hp := hv.parts
  simp only [rowT, rowsOf, J.ks, J.ls]
  refine ⟨by rw [List.length_map, List.length_zip]; omega, fun p hm => ?_⟩
  obtain ⟨q, hq, rfl⟩ := List.mem_map.1 hm
  exact hp.2.2.2.2.1 q.1 (List.of_mem_zip hq).1
theorem parse_sz {c : J} (hs : szJ 12 c = true) : SzL (parseT (ordT c)).1 := by
 have hok := ordT_okJ hs
 unfold parseT
 split
 · exact ⟨⟨by simp, fun p hp => by simp at hp⟩, ⟨by simp, fun p hp => by simp at hp⟩⟩
 · exact ⟨row_sz (d := 10) hok isU kByUser, row_sz (d := 10) hok isT kByType⟩
theorem ofInt_64 (a : Nat) (ha : a < 18446744073709551616) : (BitVec.ofInt 64 (a : Int)).toNat = a := by
 rw [BitVec.ofInt_natCast, BitVec.toNat_ofNat]; exact Nat.mod_eq_of_lt (by omega)
theorem wrap_i64_small (n : Int) (h0 : 0 ≤ n) (h1 : n < 9223372036854775808) : IntKind.i64.wrap n = n := by
 simp [IntKind.wrap, IntKind.bits, IntKind.signed]
 omega
theorem i64_and_nat (a b : Nat) (ha : a < 9223372036854775808) (hb : b < 9223372036854775808) : bits .and .i64 (a : Int) (b : Int) = ((a &&& b : Nat) : Int) := by
 have h1 : a &&& b ≤ a := Nat.and_le_left
 show IntKind.i64.wrap ((BitVec.ofInt 64 (a : Int) &&& BitVec.ofInt 64 (b : Int)).toNat : Int) = _
 rw [BitVec.toNat_and, ofInt_64 a (by omega), ofInt_64 b (by omega)]
 exact wrap_i64_small _ (by omega) (by omega)
theorem i64_or_nat (a b : Nat) (ha : a < 4611686018427387904) (hb : b < 4611686018427387904) : bits .or .i64 (a : Int) (b : Int) = ((a ||| b : Nat) : Int) := by
 have h1 : a ||| b < 2 ^ 62 := Nat.or_lt_two_pow (by omega) (by omega)
 show IntKind.i64.wrap ((BitVec.ofInt 64 (a : Int) ||| BitVec.ofInt 64 (b : Int)).toNat : Int) = _
 rw [BitVec.toNat_or, ofInt_64 a (by omega), ofInt_64 b (by omega)]
 exact wrap_i64_small _ (by omega) (by omega)
theorem and_31 (c : Int) (h0 : 0 ≤ c) (h1 : c ≤ 255) : bits .and .i64 c 31 = c % 32 := by
 obtain ⟨n, rfl⟩ := Int.eq_ofNat_of_zero_le h0
 have := i64_and_nat n 31 (by omega) (by omega)
 rw [show ((31 : Nat) : Int) = 31 from rfl] at this
 rw [this, show (31 : Nat) = 2 ^ 5 - 1 from rfl, Nat.and_two_pow_sub_one_eq_mod]
 omega
theorem and_15 (c : Int) (h0 : 0 ≤ c) (h1 : c ≤ 255) : bits .and .i64 c 15 = c % 16 := by
 obtain ⟨n, rfl⟩ := Int.eq_ofNat_of_zero_le h0
 have := i64_and_nat n 15 (by omega) (by omega)
 rw [show ((15 : Nat) : Int) = 15 from rfl] at this
 rw [this, show (15 : Nat) = 2 ^ 4 - 1 from rfl, Nat.and_two_pow_sub_one_eq_mod]
 omega
theorem and_7 (c : Int) (h0 : 0 ≤ c) (h1 : c ≤ 255) : bits .and .i64 c 7 = c % 8 := by
 obtain ⟨n, rfl⟩ := Int.eq_ofNat_of_zero_le h0
 have := i64_and_nat n 7 (by omega) (by omega)
 rw [show ((7 : Nat) : Int) = 7 from rfl] at this
 rw [this, show (7 : Nat) = 2 ^ 3 - 1 from rfl, Nat.and_two_pow_sub_one_eq_mod]
 omega
theorem and_63 (c : Int) (h0 : 0 ≤ c) (h1 : c ≤ 255) : bits .and .u8 c 63 = c % 64 := by
 obtain ⟨n, rfl⟩ := Int.eq_ofNat_of_zero_le h0
 have := u8_and_nat n 63 (by omega) (by omega)
 rw [show ((63 : Nat) : Int) = 63 from rfl] at this
 rw [this, show (63 : Nat) = 2 ^ 6 - 1 from rfl, Nat.and_two_pow_sub_one_eq_mod]
 omega
theorem and_192_all : ∀ n : Fin 256, (n : Nat) &&& 192 = (n : Nat) / 64 * 64 := by decide +kernel
theorem and_192 (c : Int) (h0 : 0 ≤ c) (h1 : c ≤ 255) : bits .and .u8 c 192 = c / 64 * 64 := by
 obtain ⟨n, rfl⟩ := Int.eq_ofNat_of_zero_le h0
 have := u8_and_nat n 192 (by omega) (by omega)
 rw [show ((192 : Nat) : Int) = 192 from rfl] at this
 rw [this]
 have h := and_192_all ⟨n, by omega⟩
 simp only at h
 rw [h]
 omega
theorem or_64 (c x : Int) (h0 : 0 ≤ c) (h1 : c ≤ 1000000) (h2 : 0 ≤ x) (h3 : x < 64) : bits .or .i64 (c * 64) x = c * 64 + x := by
 obtain ⟨n, rfl⟩ := Int.eq_ofNat_of_zero_le h0
 obtain ⟨m, rfl⟩ := Int.eq_ofNat_of_zero_le h2
 have := i64_or_nat (n * 64) m (by omega) (by omega)
 rw [show ((n * 64 : Nat) : Int) = (n : Int) * 64 by omega] at this
 rw [this]
 have h := Nat.two_pow_add_eq_or_of_lt (i := 6) (b := m) (by omega) n
 rw [show n * 64 = 2 ^ 6 * n by omega, ← h]
 omega
theorem s_at (s : ByteArray) (p : Nat) (hp : p < s.size) : ((s[p]'hp).toNat : Int) = byteAt (ints s) p := by
 unfold byteAt
 rw [ints_getD s p hp]
theorem byte_wrap {b : Int} (h : 0 ≤ b ∧ b ≤ 255) : wrap64 b = b := by
 unfold wrap64
 omega
def accU (t : List Int) (p : Nat) (c : Int) : Nat → Int
 | 0 => c
 | k + 1 => accU t p c k * 64 + byteAt t (p + (k + 1)) % 64
theorem acc_bd (t : List Int) (p : Nat) (c : Int) (h : 0 ≤ c ∧ c ≤ 31) : ∀ n, n ≤ 3 → 0 ≤ accU t p c n ∧ accU t p c n ≤ 32 * 64 ^ n - 1 := by
 have e1 : accU t p c 1 = c * 64 + byteAt t (p + 1) % 64 := rfl
 have e2 : accU t p c 2 = (c * 64 + byteAt t (p + 1) % 64) * 64 + byteAt t (p + 2) % 64 := rfl
 have e3 : accU t p c 3 = ((c * 64 + byteAt t (p + 1) % 64) * 64 + byteAt t (p + 2) % 64) * 64 + byteAt t (p + 3) % 64 := rfl
 intro n hn
 match n, hn with
 | 0, _ => exact ⟨h.1, by show c ≤ _; omega⟩
 | 1, _ => rw [e1]; omega
 | 2, _ => rw [e2]; omega
 | 3, _ => rw [e3]; omega
def runeM (t : List Int) (p : Nat) (many : Nat) (least c : Int) : Int × Nat :=
 if (∀ k, k < many → contAt t (p + (k + 1)) = true) ∧ least ≤ accU t p c many ∧ letterOk (accU t p c many) = true then (accU t p c many, many + 1) else (0, 0)
theorem rune_low1 (s : ByteArray) (p : Nat) (w : World) (hp : p < s.size) (b : Int) (hb : byteAt (ints s) p = b) (h0 : 0 ≤ b ∧ b ≤ 255) (hlow : b < 128) :
    Calls Tryz.prog 55 #[.string s, .int .i64 p] w fun x w' => x = .returned (.tuple #[.int .i64 b, .int .i64 1]) ∧ w = w' := by
 have e0 := s_at s p hp
 rw [hb] at e0
 have e1 := byte_wrap h0
 have hpi : (p : Int) < s.size := by omega
 go_enter Tryz.func55, Tryz.ntmps55
 go_wp2
 go_ret2
 exact ⟨rfl, rfl⟩
theorem rune_bad1 (s : ByteArray) (p : Nat) (w : World) (hp : p < s.size) (b : Int) (hb : byteAt (ints s) p = b) (h0 : 0 ≤ b ∧ b ≤ 255) (hlow : 128 ≤ b) (hbad : b < 192 ∨ 248 ≤ b) :
    Calls Tryz.prog 55 #[.string s, .int .i64 p] w fun x w' => x = .returned (.tuple #[.int .i64 0, .int .i64 0]) ∧ w = w' := by
 have e0 := s_at s p hp
 rw [hb] at e0
 have e1 := byte_wrap h0
 have hpi : (p : Int) < s.size := by omega
 rcases hbad with hbad | hbad
 · go_enter Tryz.func55, Tryz.ntmps55
   go_wp2
   go_ret2
   exact ⟨rfl, rfl⟩
 · go_enter Tryz.func55, Tryz.ntmps55
   go_wp2
   go_ret2
   exact ⟨rfl, rfl⟩
theorem rune_more1 (s : ByteArray) (p : Nat) (w : World) (hp : p < s.size) (hs : s.size ≤ 1000000000) (b : Int) (hb : byteAt (ints s) p = b) (h0 : 0 ≤ b ∧ b ≤ 255) (hlo : 192 ≤ b) (hhi : b < 224) :
    Calls Tryz.prog 55 #[.string s, .int .i64 p] w fun x w' => x = .returned (.tuple #[.int .i64 (runeM (ints s) p 1 128 (b % 32)).1, .int .i64 ((runeM (ints s) p 1 128 (b % 32)).2 : Nat)]) ∧ w = w' := by
 have e0 := s_at s p hp
 rw [hb] at e0
 have e1 := byte_wrap h0
 have hpi : (p : Int) < s.size := by omega
 have em : bits .and .i64 b 31 = b % 32 := and_31 b h0.1 h0.2
 have hbd : ∀ i, 0 ≤ byteAt (ints s) i ∧ byteAt (ints s) i ≤ 255 := byte_bd s
 have HB : Hid (∀ i, 0 ≤ byteAt (ints s) i ∧ byteAt (ints s) i ≤ 255) := hbd
 clear hbd
 obtain ⟨c0, hc0⟩ : ∃ c, b % 32 = c := ⟨_, rfl⟩
 have hcb : 0 ≤ c0 ∧ c0 ≤ 31 := by omega
 rw [hc0] at em ⊢
 go_enter Tryz.func55, Tryz.ntmps55
 go_wp2
 go_loopw [6, 9] (fun c i wr => ∃ n : Nat, i = .int .i64 ((n : Int) + 1) ∧ n ≤ 1 ∧ c = .int .i64 (accU (ints s) p c0 n) ∧ Hid (∀ k, k < n → contAt (ints s) (p + (k + 1)) = true) ∧ wr = w) (fun c i _ => 1 + 1 - (intOf i).toNat)
 case atStart => exact ⟨0, rfl, by omega, rfl, fun k hk => absurd hk (by omega), rfl⟩
 case round =>
  obtain ⟨n, rfl, hn, rfl, HC, rfl⟩ := hrel
  have hab := acc_bd (ints s) p c0 hcb n (by omega)
  have hab2 : 0 ≤ accU (ints s) p c0 n ∧ accU (ints s) p c0 n ≤ 10000000 := by
   refine ⟨hab.1, ?_⟩
   have : (64 : Int) ^ n ≤ 64 ^ 3 := by
    have := Nat.pow_le_pow_right (n := 64) (by decide) (show n ≤ 3 by omega)
    exact_mod_cast this
   omega
  obtain ⟨A, hA⟩ : ∃ A, accU (ints s) p c0 n = A := ⟨_, rfl⟩
  rw [hA] at hab2 ⊢
  have HA : Hid (accU (ints s) p c0 n = A) := hA
  clear hab hA
  by_cases hnM : n < 1
  · have hsmall : A ≤ 131071 := by
      have h1 := acc_bd (ints s) p c0 hcb n (by omega)
      rw [HA.out] at h1
      have : (64 : Int) ^ n ≤ 64 ^ 2 := by
       have := Nat.pow_le_pow_right (n := 64) (by decide) (show n ≤ 2 by omega)
       exact_mod_cast this
      omega
    have hM1 : (n : Int) + 1 ≤ 1 := by omega
    have HNM : Hid (n < 1) := hnM
    clear hnM
    by_cases hin : p + (n + 1) < s.size
    · have hini : (p : Int) + ((n : Int) + 1) < s.size := by omega
      have e2 := s_at s (p + (n + 1)) hin
      obtain ⟨b1, hb1⟩ : ∃ b1, byteAt (ints s) (p + (n + 1)) = b1 := ⟨_, rfl⟩
      have hbb := HB.out (p + (n + 1))
      rw [hb1] at e2 hbb
      have a1 := and_192 b1 hbb.1 hbb.2
      have a2 := and_63 b1 hbb.1 hbb.2
      have a3 := or_64 A (b1 % 64) hab2.1 (by omega) (by omega) (by omega)
      by_cases hcont : b1 / 64 * 64 = 128
      · have HC1 : Hid (contAt (ints s) (p + (n + 1)) = true) := by show _ = _; unfold contAt; rw [hb1]; exact decide_eq_true (by omega)
        go_wp2
        go_roundw
        case rel =>
         refine ⟨n + 1, by go_num, by omega, ?_, fun k hk => ?_, trivial⟩
         · rw [accU, HA.out, hb1]
         · rcases Nat.lt_or_ge k n with h | h
           · exact HC.out k h
           · obtain rfl : k = n := by omega
             exact HC1.out
        case measure => simp [intOf]; omega
      · have HR : Hid (runeM (ints s) p 1 128 c0 = (0, 0)) := by
          show _ = _
          unfold runeM
          refine if_neg fun h => ?_
          have := h.1 n HNM.out
          unfold contAt at this
          rw [hb1] at this
          have := of_decide_eq_true this
          omega
        have hne : (b1 / 64 * 64 != 128) = true := by simp [hcont]
        go_wp2
        go_ret2
        rw [HR.out]
        exact ⟨rfl, rfl⟩
    · have hini : ¬ ((p : Int) + ((n : Int) + 1) < s.size) := by omega
      have HR : Hid (runeM (ints s) p 1 128 c0 = (0, 0)) := by
       show _ = _
       unfold runeM
       refine if_neg fun h => ?_
       have h1 := h.1 n HNM.out
       have h2 : byteAt (ints s) (p + (n + 1)) = 0 := byte_past s (p + (n + 1)) (by omega)
       unfold contAt at h1
       rw [h2] at h1
       exact absurd (of_decide_eq_true h1) (by decide)
      go_wp2
      go_ret2
      rw [HR.out]
      exact ⟨rfl, rfl⟩
  · obtain rfl : n = 1 := by omega
    have hLt := letter_any A hab2.1
    by_cases hl : 128 ≤ A
    · cases hlet : letterOk A with
      | true =>
       have HR : Hid (runeM (ints s) p 1 128 c0 = (A, 1 + 1)) := by
        show _ = _
        unfold runeM
        rw [HA.out, if_pos ⟨HC.out, hl, hlet⟩]
       rw [hlet] at hLt
       go_wp2_with (go_at_call 70; refine (hLt _).mono ?_; rintro x w' ⟨rfl, rfl⟩)
       go_ret2
       rw [HR.out]
       exact ⟨rfl, rfl⟩
      | false =>
       have HR : Hid (runeM (ints s) p 1 128 c0 = (0, 0)) := by
        show _ = _
        unfold runeM
        rw [HA.out, if_neg (fun h => by rw [hlet] at h; cases h.2.2)]
       rw [hlet] at hLt
       go_wp2_with (go_at_call 70; refine (hLt _).mono ?_; rintro x w' ⟨rfl, rfl⟩)
       go_ret2
       rw [HR.out]
       exact ⟨rfl, rfl⟩
    · have HR : Hid (runeM (ints s) p 1 128 c0 = (0, 0)) := by
        show _ = _
        unfold runeM
        rw [HA.out, if_neg (fun h => hl h.2.1)]
      go_wp2
      go_ret2
      rw [HR.out]
      exact ⟨rfl, rfl⟩
theorem rune_more2 (s : ByteArray) (p : Nat) (w : World) (hp : p < s.size) (hs : s.size ≤ 1000000000) (b : Int) (hb : byteAt (ints s) p = b) (h0 : 0 ≤ b ∧ b ≤ 255) (hlo : 224 ≤ b) (hhi : b < 240) :
    Calls Tryz.prog 55 #[.string s, .int .i64 p] w fun x w' => x = .returned (.tuple #[.int .i64 (runeM (ints s) p 2 2048 (b % 16)).1, .int .i64 ((runeM (ints s) p 2 2048 (b % 16)).2 : Nat)]) ∧ w = w' := by
 have e0 := s_at s p hp
 rw [hb] at e0
 have e1 := byte_wrap h0
 have hpi : (p : Int) < s.size := by omega
 have em : bits .and .i64 b 15 = b % 16 := and_15 b h0.1 h0.2
 have hbd : ∀ i, 0 ≤ byteAt (ints s) i ∧ byteAt (ints s) i ≤ 255 := byte_bd s
 have HB : Hid (∀ i, 0 ≤ byteAt (ints s) i ∧ byteAt (ints s) i ≤ 255) := hbd
 clear hbd
 obtain ⟨c0, hc0⟩ : ∃ c, b % 16 = c := ⟨_, rfl⟩
 have hcb : 0 ≤ c0 ∧ c0 ≤ 31 := by omega
 rw [hc0] at em ⊢
 go_enter Tryz.func55, Tryz.ntmps55
 go_wp2
 go_loopw [6, 9] (fun c i wr => ∃ n : Nat, i = .int .i64 ((n : Int) + 1) ∧ n ≤ 2 ∧ c = .int .i64 (accU (ints s) p c0 n) ∧ Hid (∀ k, k < n → contAt (ints s) (p + (k + 1)) = true) ∧ wr = w) (fun c i _ => 2 + 1 - (intOf i).toNat)
 case atStart => exact ⟨0, rfl, by omega, rfl, fun k hk => absurd hk (by omega), rfl⟩
 case round =>
  obtain ⟨n, rfl, hn, rfl, HC, rfl⟩ := hrel
  have hab := acc_bd (ints s) p c0 hcb n (by omega)
  have hab2 : 0 ≤ accU (ints s) p c0 n ∧ accU (ints s) p c0 n ≤ 10000000 := by
   refine ⟨hab.1, ?_⟩
   have : (64 : Int) ^ n ≤ 64 ^ 3 := by
    have := Nat.pow_le_pow_right (n := 64) (by decide) (show n ≤ 3 by omega)
    exact_mod_cast this
   omega
  obtain ⟨A, hA⟩ : ∃ A, accU (ints s) p c0 n = A := ⟨_, rfl⟩
  rw [hA] at hab2 ⊢
  have HA : Hid (accU (ints s) p c0 n = A) := hA
  clear hab hA
  by_cases hnM : n < 2
  · have hsmall : A ≤ 131071 := by
      have h1 := acc_bd (ints s) p c0 hcb n (by omega)
      rw [HA.out] at h1
      have : (64 : Int) ^ n ≤ 64 ^ 2 := by
       have := Nat.pow_le_pow_right (n := 64) (by decide) (show n ≤ 2 by omega)
       exact_mod_cast this
      omega
    have hM1 : (n : Int) + 1 ≤ 2 := by omega
    have HNM : Hid (n < 2) := hnM
    clear hnM
    by_cases hin : p + (n + 1) < s.size
    · have hini : (p : Int) + ((n : Int) + 1) < s.size := by omega
      have e2 := s_at s (p + (n + 1)) hin
      obtain ⟨b1, hb1⟩ : ∃ b1, byteAt (ints s) (p + (n + 1)) = b1 := ⟨_, rfl⟩
      have hbb := HB.out (p + (n + 1))
      rw [hb1] at e2 hbb
      have a1 := and_192 b1 hbb.1 hbb.2
      have a2 := and_63 b1 hbb.1 hbb.2
      have a3 := or_64 A (b1 % 64) hab2.1 (by omega) (by omega) (by omega)
      by_cases hcont : b1 / 64 * 64 = 128
      · have HC1 : Hid (contAt (ints s) (p + (n + 1)) = true) := by show _ = _; unfold contAt; rw [hb1]; exact decide_eq_true (by omega)
        go_wp2
        go_roundw
        case rel =>
         refine ⟨n + 1, by go_num, by omega, ?_, fun k hk => ?_, trivial⟩
         · rw [accU, HA.out, hb1]
         · rcases Nat.lt_or_ge k n with h | h
           · exact HC.out k h
           · obtain rfl : k = n := by omega
             exact HC1.out
        case measure => simp [intOf]; omega
      · have HR : Hid (runeM (ints s) p 2 2048 c0 = (0, 0)) := by
          show _ = _
          unfold runeM
          refine if_neg fun h => ?_
          have := h.1 n HNM.out
          unfold contAt at this
          rw [hb1] at this
          have := of_decide_eq_true this
          omega
        have hne : (b1 / 64 * 64 != 128) = true := by simp [hcont]
        go_wp2
        go_ret2
        rw [HR.out]
        exact ⟨rfl, rfl⟩
    · have hini : ¬ ((p : Int) + ((n : Int) + 1) < s.size) := by omega
      have HR : Hid (runeM (ints s) p 2 2048 c0 = (0, 0)) := by
       show _ = _
       unfold runeM
       refine if_neg fun h => ?_
       have h1 := h.1 n HNM.out
       have h2 : byteAt (ints s) (p + (n + 1)) = 0 := byte_past s (p + (n + 1)) (by omega)
       unfold contAt at h1
       rw [h2] at h1
       exact absurd (of_decide_eq_true h1) (by decide)
      go_wp2
      go_ret2
      rw [HR.out]
      exact ⟨rfl, rfl⟩
  · obtain rfl : n = 2 := by omega
    have hLt := letter_any A hab2.1
    by_cases hl : 2048 ≤ A
    · cases hlet : letterOk A with
      | true =>
       have HR : Hid (runeM (ints s) p 2 2048 c0 = (A, 2 + 1)) := by
        show _ = _
        unfold runeM
        rw [HA.out, if_pos ⟨HC.out, hl, hlet⟩]
       rw [hlet] at hLt
       go_wp2_with (go_at_call 70; refine (hLt _).mono ?_; rintro x w' ⟨rfl, rfl⟩)
       go_ret2
       rw [HR.out]
       exact ⟨rfl, rfl⟩
      | false =>
       have HR : Hid (runeM (ints s) p 2 2048 c0 = (0, 0)) := by
        show _ = _
        unfold runeM
        rw [HA.out, if_neg (fun h => by rw [hlet] at h; cases h.2.2)]
       rw [hlet] at hLt
       go_wp2_with (go_at_call 70; refine (hLt _).mono ?_; rintro x w' ⟨rfl, rfl⟩)
       go_ret2
       rw [HR.out]
       exact ⟨rfl, rfl⟩
    · have HR : Hid (runeM (ints s) p 2 2048 c0 = (0, 0)) := by
        show _ = _
        unfold runeM
        rw [HA.out, if_neg (fun h => hl h.2.1)]
      go_wp2
      go_ret2
      rw [HR.out]
      exact ⟨rfl, rfl⟩
theorem rune_more3 (s : ByteArray) (p : Nat) (w : World) (hp : p < s.size) (hs : s.size ≤ 1000000000) (b : Int) (hb : byteAt (ints s) p = b) (h0 : 0 ≤ b ∧ b ≤ 255) (hlo : 240 ≤ b) (hhi : b < 248) :
    Calls Tryz.prog 55 #[.string s, .int .i64 p] w fun x w' => x = .returned (.tuple #[.int .i64 (runeM (ints s) p 3 65536 (b % 8)).1, .int .i64 ((runeM (ints s) p 3 65536 (b % 8)).2 : Nat)]) ∧ w = w' := by
 have e0 := s_at s p hp
 rw [hb] at e0
 have e1 := byte_wrap h0
 have hpi : (p : Int) < s.size := by omega
 have em : bits .and .i64 b 7 = b % 8 := and_7 b h0.1 h0.2
 have hbd : ∀ i, 0 ≤ byteAt (ints s) i ∧ byteAt (ints s) i ≤ 255 := byte_bd s
 have HB : Hid (∀ i, 0 ≤ byteAt (ints s) i ∧ byteAt (ints s) i ≤ 255) := hbd
 clear hbd
 obtain ⟨c0, hc0⟩ : ∃ c, b % 8 = c := ⟨_, rfl⟩
 have hcb : 0 ≤ c0 ∧ c0 ≤ 31 := by omega
 rw [hc0] at em ⊢
 go_enter Tryz.func55, Tryz.ntmps55
 go_wp2
 go_loopw [6, 9] (fun c i wr => ∃ n : Nat, i = .int .i64 ((n : Int) + 1) ∧ n ≤ 3 ∧ c = .int .i64 (accU (ints s) p c0 n) ∧ Hid (∀ k, k < n → contAt (ints s) (p + (k + 1)) = true) ∧ wr = w) (fun c i _ => 3 + 1 - (intOf i).toNat)
 case atStart => exact ⟨0, rfl, by omega, rfl, fun k hk => absurd hk (by omega), rfl⟩
 case round =>
  obtain ⟨n, rfl, hn, rfl, HC, rfl⟩ := hrel
  have hab := acc_bd (ints s) p c0 hcb n (by omega)
  have hab2 : 0 ≤ accU (ints s) p c0 n ∧ accU (ints s) p c0 n ≤ 10000000 := by
   refine ⟨hab.1, ?_⟩
   have : (64 : Int) ^ n ≤ 64 ^ 3 := by
    have := Nat.pow_le_pow_right (n := 64) (by decide) (show n ≤ 3 by omega)
    exact_mod_cast this
   omega
  obtain ⟨A, hA⟩ : ∃ A, accU (ints s) p c0 n = A := ⟨_, rfl⟩
  rw [hA] at hab2 ⊢
  have HA : Hid (accU (ints s) p c0 n = A) := hA
  clear hab hA
  by_cases hnM : n < 3
  · have hsmall : A ≤ 131071 := by
      have h1 := acc_bd (ints s) p c0 hcb n (by omega)
      rw [HA.out] at h1
      have : (64 : Int) ^ n ≤ 64 ^ 2 := by
       have := Nat.pow_le_pow_right (n := 64) (by decide) (show n ≤ 2 by omega)
       exact_mod_cast this
      omega
    have hM1 : (n : Int) + 1 ≤ 3 := by omega
    have HNM : Hid (n < 3) := hnM
    clear hnM
    by_cases hin : p + (n + 1) < s.size
    · have hini : (p : Int) + ((n : Int) + 1) < s.size := by omega
      have e2 := s_at s (p + (n + 1)) hin
      obtain ⟨b1, hb1⟩ : ∃ b1, byteAt (ints s) (p + (n + 1)) = b1 := ⟨_, rfl⟩
      have hbb := HB.out (p + (n + 1))
      rw [hb1] at e2 hbb
      have a1 := and_192 b1 hbb.1 hbb.2
      have a2 := and_63 b1 hbb.1 hbb.2
      have a3 := or_64 A (b1 % 64) hab2.1 (by omega) (by omega) (by omega)
      by_cases hcont : b1 / 64 * 64 = 128
      · have HC1 : Hid (contAt (ints s) (p + (n + 1)) = true) := by show _ = _; unfold contAt; rw [hb1]; exact decide_eq_true (by omega)
        go_wp2
        go_roundw
        case rel =>
         refine ⟨n + 1, by go_num, by omega, ?_, fun k hk => ?_, trivial⟩
         · rw [accU, HA.out, hb1]
         · rcases Nat.lt_or_ge k n with h | h
           · exact HC.out k h
           · obtain rfl : k = n := by omega
             exact HC1.out
        case measure => simp [intOf]; omega
      · have HR : Hid (runeM (ints s) p 3 65536 c0 = (0, 0)) := by
          show _ = _
          unfold runeM
          refine if_neg fun h => ?_
          have := h.1 n HNM.out
          unfold contAt at this
          rw [hb1] at this
          have := of_decide_eq_true this
          omega
        have hne : (b1 / 64 * 64 != 128) = true := by simp [hcont]
        go_wp2
        go_ret2
        rw [HR.out]
        exact ⟨rfl, rfl⟩
    · have hini : ¬ ((p : Int) + ((n : Int) + 1) < s.size) := by omega
      have HR : Hid (runeM (ints s) p 3 65536 c0 = (0, 0)) := by
       show _ = _
       unfold runeM
       refine if_neg fun h => ?_
       have h1 := h.1 n HNM.out
       have h2 : byteAt (ints s) (p + (n + 1)) = 0 := byte_past s (p + (n + 1)) (by omega)
       unfold contAt at h1
       rw [h2] at h1
       exact absurd (of_decide_eq_true h1) (by decide)
      go_wp2
      go_ret2
      rw [HR.out]
      exact ⟨rfl, rfl⟩
  · obtain rfl : n = 3 := by omega
    have hLt := letter_any A hab2.1
    by_cases hl : 65536 ≤ A
    · cases hlet : letterOk A with
      | true =>
       have HR : Hid (runeM (ints s) p 3 65536 c0 = (A, 3 + 1)) := by
        show _ = _
        unfold runeM
        rw [HA.out, if_pos ⟨HC.out, hl, hlet⟩]
       rw [hlet] at hLt
       go_wp2_with (go_at_call 70; refine (hLt _).mono ?_; rintro x w' ⟨rfl, rfl⟩)
       go_ret2
       rw [HR.out]
       exact ⟨rfl, rfl⟩
      | false =>
       have HR : Hid (runeM (ints s) p 3 65536 c0 = (0, 0)) := by
        show _ = _
        unfold runeM
        rw [HA.out, if_neg (fun h => by rw [hlet] at h; cases h.2.2)]
       rw [hlet] at hLt
       go_wp2_with (go_at_call 70; refine (hLt _).mono ?_; rintro x w' ⟨rfl, rfl⟩)
       go_ret2
       rw [HR.out]
       exact ⟨rfl, rfl⟩
    · have HR : Hid (runeM (ints s) p 3 65536 c0 = (0, 0)) := by
        show _ = _
        unfold runeM
        rw [HA.out, if_neg (fun h => hl h.2.1)]
      go_wp2
      go_ret2
      rw [HR.out]
      exact ⟨rfl, rfl⟩
theorem runeM_1 {t : List Int} {p : Nat} (hb : ∀ i, 0 ≤ byteAt t i ∧ byteAt t i ≤ 255) (h1 : 192 ≤ byteAt t p) (h2 : byteAt t p < 224) : runeAt t p = runeM t p 1 128 (byteAt t p % 32) := by
 have e1 : accU t p (byteAt t p % 32) 1 = byteAt t p % 32 * 64 + byteAt t (p + 1) % 64 := rfl
 have q1 := hb (p + 1)
 unfold runeAt runeM
 rw [e1, if_neg (by omega)]
 by_cases c1 : contAt t (p + 1) = true
 · rw [if_pos (by rw [c1, decide_eq_true (show byteAt t p / 32 = 6 by omega)]; rfl)]
   split
   · rename_i hl
     have hlet : letterOk (byteAt t p % 32 * 64 + byteAt t (p + 1) % 64) = true := by
      unfold letterOk
      simp only [Bool.and_eq_true, Bool.or_eq_true, decide_eq_true_eq]
      omega
     rw [if_pos ⟨fun k hk => (by obtain rfl : k = 0 := (by omega); exact c1), hl, hlet⟩]
   · rename_i hl
     rw [if_neg fun h => hl h.2.1]
 · rw [if_neg (fun h => c1 (Bool.and_eq_true _ _ ▸ h : _ ∧ _).2), decide_eq_false (show ¬ byteAt t p / 16 = 14 by omega), decide_eq_false (show ¬ byteAt t p / 8 = 30 by omega)]
   rw [if_neg (by simp), if_neg (by simp), if_neg fun h => c1 (h.1 0 (by omega))]
theorem runeM_2 {t : List Int} {p : Nat} (h1 : 224 ≤ byteAt t p) (h2 : byteAt t p < 240) : runeAt t p = runeM t p 2 2048 (byteAt t p % 16) := by
 have e1 : accU t p (byteAt t p % 16) 2 = byteAt t p % 16 * 4096 + byteAt t (p + 1) % 64 * 64 + byteAt t (p + 2) % 64 := by
  show (byteAt t p % 16 * 64 + byteAt t (p + 1) % 64) * 64 + byteAt t (p + 2) % 64 = _
  omega
 unfold runeAt runeM
 rw [e1, if_neg (by omega), decide_eq_false (show ¬ byteAt t p / 32 = 6 by omega), decide_eq_true (show byteAt t p / 16 = 14 by omega), decide_eq_false (show ¬ byteAt t p / 8 = 30 by omega), if_neg (by simp)]
 generalize byteAt t p % 16 * 4096 + byteAt t (p + 1) % 64 * 64 + byteAt t (p + 2) % 64 = A
 by_cases c1 : contAt t (p + 1) = true ∧ contAt t (p + 2) = true
 · rw [if_pos (by rw [c1.1, c1.2]; rfl)]
   by_cases hl : 2048 ≤ A ∧ letterOk A = true
   · rw [if_pos (by rw [hl.2, decide_eq_true hl.1]; rfl), if_pos ⟨fun k hk => by
       match k, hk with
       | 0, _ => exact c1.1
       | 1, _ => exact c1.2, hl.1, hl.2⟩]
   · rw [if_neg (fun h => hl (by simpa using h)), if_neg fun h => hl h.2]
 · rw [if_neg (fun h => c1 (by simpa using h)), if_neg (by simp), if_neg fun h => c1 ⟨h.1 0 (by omega), h.1 1 (by omega)⟩]
theorem runeM_3 {t : List Int} {p : Nat} (h1 : 240 ≤ byteAt t p) (h2 : byteAt t p < 248) : runeAt t p = runeM t p 3 65536 (byteAt t p % 8) := by
 have e1 : accU t p (byteAt t p % 8) 3 = byteAt t p % 8 * 262144 + byteAt t (p + 1) % 64 * 4096 + byteAt t (p + 2) % 64 * 64 + byteAt t (p + 3) % 64 := by
  show ((byteAt t p % 8 * 64 + byteAt t (p + 1) % 64) * 64 + byteAt t (p + 2) % 64) * 64 + byteAt t (p + 3) % 64 = _
  omega
 unfold runeAt runeM
 rw [e1, if_neg (by omega), decide_eq_false (show ¬ byteAt t p / 32 = 6 by omega), decide_eq_false (show ¬ byteAt t p / 16 = 14 by omega), decide_eq_true (show byteAt t p / 8 = 30 by omega), if_neg (by simp), if_neg (by simp)]
 generalize byteAt t p % 8 * 262144 + byteAt t (p + 1) % 64 * 4096 + byteAt t (p + 2) % 64 * 64 + byteAt t (p + 3) % 64 = A
 by_cases c1 : contAt t (p + 1) = true ∧ contAt t (p + 2) = true ∧ contAt t (p + 3) = true
 · rw [if_pos (by rw [c1.1, c1.2.1, c1.2.2]; rfl)]
   by_cases hl : 65536 ≤ A ∧ letterOk A = true
   · rw [if_pos (by rw [hl.2, decide_eq_true hl.1]; rfl), if_pos ⟨fun k hk => by
       match k, hk with
       | 0, _ => exact c1.1
       | 1, _ => exact c1.2.1
       | 2, _ => exact c1.2.2, hl.1, hl.2⟩]
   · rw [if_neg (fun h => hl (by simpa using h)), if_neg fun h => hl h.2]
 · rw [if_neg (fun h => c1 (by simp at h; exact ⟨h.1.1, h.1.2, h.2⟩)), if_neg fun h => c1 ⟨h.1 0 (by omega), h.1 1 (by omega), h.1 2 (by omega)⟩]
theorem rune_none {t : List Int} {p : Nat} (h1 : 128 ≤ byteAt t p) (h2 : byteAt t p < 192 ∨ 248 ≤ byteAt t p) : runeAt t p = (0, 0) := by
 unfold runeAt
 rw [if_neg (by omega), decide_eq_false (show ¬ byteAt t p / 32 = 6 by omega), decide_eq_false (show ¬ byteAt t p / 16 = 14 by omega), decide_eq_false (show ¬ byteAt t p / 8 = 30 by omega), if_neg (by simp), if_neg (by simp), if_neg (by simp)]
theorem runes : Runes := fun s p w hp hs => by
 have hbd := byte_bd s
 have h0 := hbd p
 by_cases c1 : byteAt (ints s) p < 128
 · have e : runeAt (ints s) p = (byteAt (ints s) p, 1) := by unfold runeAt; rw [if_pos c1]
   rw [e]
   exact rune_low1 s p w hp _ rfl h0 c1
 by_cases c2 : byteAt (ints s) p < 192 ∨ 248 ≤ byteAt (ints s) p
 · rw [rune_none (by omega) c2]
   exact rune_bad1 s p w hp _ rfl h0 (by omega) c2
 by_cases c3 : byteAt (ints s) p < 224
 · rw [runeM_1 hbd (by omega) c3]
   exact rune_more1 s p w hp hs _ rfl h0 (by omega) c3
 by_cases c4 : byteAt (ints s) p < 240
 · rw [runeM_2 (by omega) c4]
   exact rune_more2 s p w hp hs _ rfl h0 (by omega) c4
 · rw [runeM_3 (by omega) (by omega)]
   exact rune_more3 s p w hp hs _ rfl h0 (by omega) (by omega)
end Go.Proofs.YtcaknajjkfiaoaaGreat

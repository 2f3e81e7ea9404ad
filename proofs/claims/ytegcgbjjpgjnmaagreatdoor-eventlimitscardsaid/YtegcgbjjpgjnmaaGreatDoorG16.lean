/-
  Names taken apart: the program's own apart, User, Room and Home, by contracts.
  Servers' names, local names and types, as the document answers: by contracts.
  Names taken apart as the document answers, by contracts; and where a name is at home.
  spread and gather of base, by their contracts.
  spare and fault of base, by their contracts.
  A slice of bytes as it is read, and what a cut of it is.
  A copy out of a text into a row that the call itself made.
  base.Decode, by its contract: the bytes of letters, or the first error and its place.
  Letters and bytes are one thing: enc and dec are each other's inverse, and enc goes along with rows of threes.
  The statements of layer 2 that need no answer of the document's, walked: each returns true, and turns nothing that was there.
  The document's answer, bit by bit, as plain functions on lists, and that it tells the same letters and bytes.
  The document's answer of layer 2, walked: bits, letter, Encode.
  The document's answer of layer 2, walked: number, Decode.
  Events' names: the program's own answer and the document's, by contracts.
-/
import Derived.Test.YtegcgbjjpgjnmaaGreatDoorG15
import Derived.BigRegion
import Derived.RegionTactic
import Derived.Laws.CopyOwn
import Derived.Laws.BytesArg
import Derived.Laws.AppendOwnNone
namespace Go.Proofs.YtegcgbjjpgjnmaaGreatDoor.Id
open Go.RowKit
/-- The three answers as one value. -/
def told (p : ByteArray × ByteArray × Bool) : Value := .tuple #[.string p.1, .string p.2.1, .bool p.2.2]
theorem ret_told {a b : ByteArray} {t : Bool} {p : ByteArray × ByteArray × Bool} (h : p = (a, b, t)) : Ending.returned (.tuple #[.string a, .string b, .bool t]) = .returned (told p) := by rw [h]; rfl
theorem u8_int (a c : UInt8) : (a.toNat : Int) = (c.toNat : Int) ↔ a = c := by
  constructor
  · intro h; exact UInt8.toNat_inj.1 (by omega)
  · intro h; rw [h]

set_option maxHeartbeats 1000000 in
theorem apart_any (s : ByteArray) (c : UInt8) (w : World) (hs : s.size ≤ 140737488351232) :
    Calls Tryz.prog 121 #[.string s, .string ⟨#[c]⟩] w fun e w' => e = .returned (told (parts (c.toNat : Int) s)) ∧ Below w.heap.size w w' := by
  by_cases hp : ∀ h : 0 < s.size, s[0] ≠ c
  · have HP : Hid (parts (c.toNat : Int) s = (nix, nix, false)) := by
      refine parts_other _ _ ?_
      by_cases h0 : s.size = 0
      · exact .inl h0
      · refine .inr (.inl ?_)
        rw [ints_getD s 0 (by omega), ne_eq, u8_int]
        exact hp (by omega)
    go_enter Tryz.func121, Tryz.ntmps121
    go_wp2_with (go_at_call 125; refine (cutPrefix_no s c _ hs hp).mono ?_; rintro e w' ⟨rfl, rfl⟩)
    go_ret3
    exact ⟨ret_told HP.out, Below.refl _ _⟩
  · obtain ⟨h0, hc⟩ : ∃ h : 0 < s.size, s[0] = c := by simpa using hp
    clear hp
    have hg : (ints s).getD 0 0 = (c.toNat : Int) := by rw [ints_getD s 0 h0, hc]
    have hsz : (s.extract 1 s.size).size ≤ 140737488351232 := by simp; omega
    have hii : (s.extract 1 s.size).data.toList.map (fun c => (c.toNat : Int)) = (ints s).drop 1 := ints_extract s 1
    rcases colon_cases s with ⟨k, h1, hk, hkc, hka⟩ | hno
    · have hi : Lib.indexByte (s.extract 1 s.size).data.toList 58 = ((k - 1 : Nat) : Int) := by
        refine idx_hit _ _ ?_ ?_ fun j hj => ?_
        · rw [← Lib.size_eq]; simp; omega
        · rw [hii, getD_drop1, Nat.sub_add_cancel h1]; exact hkc
        · rw [hii, getD_drop1]; exact hka (j + 1) (by omega) (by omega)
      have hcut := fun wx : World => cut_yes (s.extract 1 s.size) (k - 1) wx hsz (by simp; omega) hi
      rw [cut_name s k h1 (by omega), Nat.sub_add_cancel h1, cut_server s k] at hcut
      have HP : Hid (parts (c.toNat : Int) s = if loc (s.extract 1 k) = true ∧ srv (s.extract (k + 1) s.size) = true then (s.extract 1 k, s.extract (k + 1) s.size, true) else (nix, nix, false)) := parts_hit _ s k hg h1 hk hkc hka
      have hl1 : (s.extract 1 k).size ≤ 140737488351232 := by simp; omega
      have hl2 : (s.extract (k + 1) s.size).size ≤ 140737488351232 := by simp; omega
      obtain ⟨t1, ht1⟩ : ∃ t, t = s.extract 1 k := ⟨_, rfl⟩
      obtain ⟨t2, ht2⟩ : ∃ t, t = s.extract (k + 1) s.size := ⟨_, rfl⟩
      rw [← ht1, ← ht2] at HP hcut
      rw [← ht1] at hl1
      rw [← ht2] at hl2
      clear ht1 ht2 hi hii hka hkc
      by_cases hL : loc t1 = true
      · by_cases hS : srv t2 = true
        · go_enter Tryz.func121, Tryz.ntmps121
          go_wp2_with (first
            | (go_at_call 125; refine (cutPrefix_yes s c _ hs h0 hc).mono ?_; rintro e w' ⟨rfl, rfl⟩)
            | (go_at_call 147; refine (hcut _).mono ?_; rintro e w1 ⟨rfl, hb1⟩)
            | (go_at_call 148; refine (local_any t1 _ hl1).mono ?_; rintro e w2 ⟨rfl, hb2⟩)
            | (go_at_call 102; refine (server_any t2 _ hl2).mono ?_; rintro e w3 ⟨rfl, hb3⟩))
          go_ret3
          have c2 := hb1.trans (hb2.mono hb1.size)
          exact ⟨ret_told (by rw [HP.out, if_pos ⟨hL, hS⟩]), c2.trans (hb3.mono c2.size)⟩
        · have hS' : srv t2 = false := by simpa using hS
          go_enter Tryz.func121, Tryz.ntmps121
          go_wp2_with (first
            | (go_at_call 125; refine (cutPrefix_yes s c _ hs h0 hc).mono ?_; rintro e w' ⟨rfl, rfl⟩)
            | (go_at_call 147; refine (hcut _).mono ?_; rintro e w1 ⟨rfl, hb1⟩)
            | (go_at_call 148; refine (local_any t1 _ hl1).mono ?_; rintro e w2 ⟨rfl, hb2⟩)
            | (go_at_call 102; refine (server_any t2 _ hl2).mono ?_; rintro e w3 ⟨rfl, hb3⟩))
          go_ret3
          have c2 := hb1.trans (hb2.mono hb1.size)
          exact ⟨ret_told (by rw [HP.out, if_neg (by simp [hS'])]; rfl), c2.trans (hb3.mono c2.size)⟩
      · have hL' : loc t1 = false := by simpa using hL
        clear hL
        go_enter Tryz.func121, Tryz.ntmps121
        go_wp2_with (first
          | (go_at_call 125; refine (cutPrefix_yes s c _ hs h0 hc).mono ?_; rintro e w' ⟨rfl, rfl⟩)
          | (go_at_call 147; refine (hcut _).mono ?_; rintro e w1 ⟨rfl, hb1⟩)
          | (go_at_call 148; refine (local_any t1 _ hl1).mono ?_; rintro e w2 ⟨rfl, hb2⟩))
        go_ret3
        exact ⟨ret_told (by rw [HP.out, if_neg (by simp [hL'])]; rfl), hb1.trans (hb2.mono hb1.size)⟩
    · have hi : Lib.indexByte (s.extract 1 s.size).data.toList 58 = -1 := by
        refine idx_miss _ fun j hj => ?_
        rw [← Lib.size_eq] at hj
        simp at hj
        rw [hii, getD_drop1]; exact hno (j + 1) (by omega) (by omega)
      have HP : Hid (parts (c.toNat : Int) s = (nix, nix, false)) := parts_other _ _ (.inr (.inr hno))
      have hcut := fun wx : World => cut_no (s.extract 1 s.size) wx hi
      go_enter Tryz.func121, Tryz.ntmps121
      go_wp2_with (first
        | (go_at_call 125; refine (cutPrefix_yes s c _ hs h0 hc).mono ?_; rintro e w' ⟨rfl, rfl⟩)
        | (go_at_call 147; refine (hcut _).mono ?_; rintro e w1 ⟨rfl, hb1⟩))
      go_ret3
      exact ⟨ret_told HP.out, hb1⟩

set_option maxHeartbeats 1000000 in
theorem user_any (s : ByteArray) (w : World) (hs : s.size ≤ 140737488351232) :
    Calls Tryz.prog 97 #[.string s] w fun e w' => e = .returned (told (parts 64 s)) ∧ Below w.heap.size w w' := by
  go_enter Tryz.func97, Tryz.ntmps97
  go_wp2_with (go_at_call 121; refine (apart_any s 64 _ hs).mono ?_; rintro e w1 ⟨rfl, hb1⟩; unfold told)
  go_ret3
  exact ⟨rfl, hb1⟩
set_option maxHeartbeats 1000000 in
theorem room_any (s : ByteArray) (w : World) (hs : s.size ≤ 140737488351232) :
    Calls Tryz.prog 96 #[.string s] w fun e w' => e = .returned (told (parts 33 s)) ∧ Below w.heap.size w w' := by
  go_enter Tryz.func96, Tryz.ntmps96
  go_wp2_with (go_at_call 121; refine (apart_any s 33 _ hs).mono ?_; rintro e w1 ⟨rfl, hb1⟩; unfold told)
  go_ret3
  exact ⟨rfl, hb1⟩
end Go.Proofs.YtegcgbjjpgjnmaaGreatDoor.Id
namespace Go.Proofs.YtegcgbjjpgjnmaaGreatDoor.Id
open Go.RowKit
theorem wraps_u32 (n : Int) (h₀ : 0 ≤ n) (h₁ : n < 2 ^ 32) : IntKind.u32.wrap n = n := by rw [IntKind.wrap_u32]; omega
theorem or_join (i : Nat) (x y : Int) (hx₀ : 0 ≤ x) (hx : x % 2 ^ i = 0) (hx₁ : x < 4294967296) (hy₀ : 0 ≤ y) (hy : y < 2 ^ i) (hy₁ : y < 4294967296) : bits .or .u32 x y = x + y :=
  bits_join .u32 32 (by decide) wraps_u32 i x y hx₀ hx (by omega) hy₀ hy (by omega)
set_option maxHeartbeats 1000000 in
theorem gather_any (a b c d : Int) (w : World) (ha0 : 0 ≤ a) (ha : a ≤ 255) (hb0 : 0 ≤ b) (hb : b ≤ 255) (hc0 : 0 ≤ c) (hc : c ≤ 255) (hd0 : 0 ≤ d) (hd : d ≤ 255) :
    Calls Tryz.prog 154 #[.agg #[.int .u8 a, .int .u8 b, .int .u8 c, .int .u8 d]] w fun e w' => e = .returned (.agg #[.int .u8 (num0 a * 4 + num0 b / 16), .int .u8 (num0 b % 16 * 16 + num0 c / 4), .int .u8 (num0 c % 4 * 64 + num0 d)]) ∧ Below w.heap.size w w' := by
  have na := num0_hi a
  have nb := num0_hi b
  have nc := num0_hi c
  have nd := num0_hi d
  have ma := num0_lo a
  have mb := num0_lo b
  have mc := num0_lo c
  have md := num0_lo d
  have o0 : bits .or .u32 0 (num0 a) = num0 a := by rw [or_join 6 _ _ (by omega) (by omega) (by omega) (by omega) (by omega) (by omega)]; omega
  have o1 : bits .or .u32 (num0 a * 64) (num0 b) = num0 a * 64 + num0 b := or_join 6 _ _ (by omega) (by omega) (by omega) (by omega) (by omega) (by omega)
  have o2 : bits .or .u32 ((num0 a * 64 + num0 b) * 64) (num0 c) = (num0 a * 64 + num0 b) * 64 + num0 c := or_join 6 _ _ (by omega) (by omega) (by omega) (by omega) (by omega) (by omega)
  have o3 : bits .or .u32 (((num0 a * 64 + num0 b) * 64 + num0 c) * 64) (num0 d) = ((num0 a * 64 + num0 b) * 64 + num0 c) * 64 + num0 d := or_join 6 _ _ (by omega) (by omega) (by omega) (by omega) (by omega) (by omega)
  have r1 : (((num0 a * 64 + num0 b) * 64 + num0 c) * 64 + num0 d) / 65536 = num0 a * 4 + num0 b / 16 := by omega
  have r2 : (((num0 a * 64 + num0 b) * 64 + num0 c) * 64 + num0 d) / 256 % 256 = num0 b % 16 * 16 + num0 c / 4 := by omega
  have r3 : (((num0 a * 64 + num0 b) * 64 + num0 c) * 64 + num0 d) % 256 = num0 c % 4 * 64 + num0 d := by omega
  have i0 : ∀ w, (Instr.index 153 (.agg #[.int .u8 a, .int .u8 b, .int .u8 c, .int .u8 d]) (.int .i64 0)).run Tryz.prog w = .ok (.int .u8 a) w := fun _ => by kernel_rfl
  have i1 : ∀ w, (Instr.index 153 (.agg #[.int .u8 a, .int .u8 b, .int .u8 c, .int .u8 d]) (.int .i64 1)).run Tryz.prog w = .ok (.int .u8 b) w := fun _ => by kernel_rfl
  have i2 : ∀ w, (Instr.index 153 (.agg #[.int .u8 a, .int .u8 b, .int .u8 c, .int .u8 d]) (.int .i64 2)).run Tryz.prog w = .ok (.int .u8 c) w := fun _ => by kernel_rfl
  have i3 : ∀ w, (Instr.index 153 (.agg #[.int .u8 a, .int .u8 b, .int .u8 c, .int .u8 d]) (.int .i64 3)).run Tryz.prog w = .ok (.int .u8 d) w := fun _ => by kernel_rfl
  go_enter Tryz.func154, Tryz.ntmps154
  go_wp2
  refine wp_loop_rounds 5 ?_
  iterate 5 (rw [rounds_succ]; go_wp2_with (go_at_call 172; refine (number_any _ _ (by omega) (by omega)).mono ?_; rintro e w' ⟨rfl, rfl⟩))
  exact bodyPost_ret (v := .agg #[.int .u8 (num0 a * 4 + num0 b / 16), .int .u8 (num0 b % 16 * 16 + num0 c / 4), .int .u8 (num0 c % 4 * 64 + num0 d)]) (by simp [results, Tryz.results154, go_sem]) rfl ⟨rfl, ((Below.refl _ _).alloc (Nat.le_refl _) _).alloc (by simp) _⟩
end Go.Proofs.YtegcgbjjpgjnmaaGreatDoor.Id
namespace Go.Proofs.YtegcgbjjpgjnmaaGreatDoor.Id
open Go.RowKit
theorem and15 (x : Int) (h₀ : 0 ≤ x) (h₁ : x < 4294967296) : bits .and .u32 x 15 = x % 16 :=
  bits_mask .u32 32 (by decide) wraps_u32 4 (by decide) x h₀ (by omega)
theorem and3 (x : Int) (h₀ : 0 ≤ x) (h₁ : x < 4294967296) : bits .and .u32 x 3 = x % 4 :=
  bits_mask .u32 32 (by decide) wraps_u32 2 (by decide) x h₀ (by omega)

set_option maxHeartbeats 1000000 in
theorem spare_any (s : ByteArray) (w : World) (hs : s.size ≤ 140737488351232) (h4 : s.size % 4 ≠ 1) :
    Calls Tryz.prog 173 #[.string s] w fun e w' => e = .returned (.int .u32 (spar (ints s))) ∧ w = w' := by
  have HL : Hid ((ints s).length = s.size) := ints_length s
  by_cases h0 : s.size % 4 = 0
  · have h0' : (s.size : Int) % 4 = 0 := by omega
    go_enter Tryz.func173, Tryz.ntmps173
    go_wp2
    go_ret
    exact ⟨ret_int (by unfold spar; rw [HL.out, if_neg (by omega), if_neg (by omega)]), rfl⟩
  have hg := ints_getD s (s.size - 1) (by omega)
  have hb0 : (0 : Int) ≤ (s[s.size - 1].toNat : Int) := by omega
  have hb1 : (s[s.size - 1].toNat : Int) ≤ 255 := by have := s[s.size - 1].toNat_lt; omega
  have n0 := num0_lo (s[s.size - 1].toNat : Int)
  have n1 := num0_hi (s[s.size - 1].toNat : Int)
  have HG : Hid ((ints s).getD (s.size - 1) 0 = (s[s.size - 1].toNat : Int)) := hg
  clear hg
  by_cases h2 : s.size % 4 = 2
  · have h2' : (s.size : Int) % 4 = 2 := by omega
    go_enter Tryz.func173, Tryz.ntmps173
    go_wp2_with (go_at_call 172; refine (number_any _ _ (by omega) (by omega)).mono ?_; rintro e w' ⟨rfl, rfl⟩)
    go_ret
    exact ⟨ret_int (by unfold spar; rw [HL.out, if_pos h2, HG.out]; exact and15 _ n0 (by omega)), rfl⟩
  · have h2' : (s.size : Int) % 4 = 3 := by omega
    go_enter Tryz.func173, Tryz.ntmps173
    go_wp2_with (go_at_call 172; refine (number_any _ _ (by omega) (by omega)).mono ?_; rintro e w' ⟨rfl, rfl⟩)
    go_ret
    exact ⟨ret_int (by unfold spar; rw [HL.out, if_neg h2, if_pos (by omega), HG.out]; exact and3 _ n0 (by omega)), rfl⟩

theorem ret_two {a b c d : Int} (h : a = c) (hp : b = d) : Ending.returned (.tuple #[.int .i64 a, .int .i64 b]) = .returned (.tuple #[.int .i64 c, .int .i64 d]) := by rw [h, hp]

set_option maxHeartbeats 1000000 in
theorem fault_any (s : ByteArray) (w : World) (hs : s.size ≤ 140737488351232) :
    Calls Tryz.prog 152 #[.string s] w fun e w' => e = .returned (.tuple #[.int .i64 (flt (ints s)).1, .int .i64 (flt (ints s)).2]) ∧ w = w' := by
  have HL : Hid ((ints s).length = s.size) := ints_length s
  go_enter Tryz.func152, Tryz.ntmps152
  go_wp2
  go_loop [9] (fun i => ∃ k : Nat, k ≤ s.size ∧ i = .int .i64 k ∧ ∀ j, j < k → isLet ((ints s).getD j 0) = true) (fun i => s.size - (intOf i).toNat)
  case atStart => exact ⟨0, Nat.zero_le _, rfl, fun j hj => by omega⟩
  case round =>
    obtain ⟨k, hk, rfl, hall⟩ := hrel
    have HA : Hid (∀ j, j < k → isLet ((ints s).getD j 0) = true) := hall
    clear hall
    by_cases hlt : k < s.size
    · have HG : Hid ((ints s).getD k 0 = (s[k].toNat : Int)) := ints_getD s k hlt
      have hb1 : (s[k].toNat : Int) ≤ 255 := by have := s[k].toNat_lt; omega
      by_cases hb : isLet (s[k].toNat : Int) = true
      · go_wp2_with (go_at_call 172; refine (number_any _ _ (by omega) (by omega)).mono ?_; rintro e w' ⟨rfl, rfl⟩)
        go_round
        case rel => exact ⟨k + 1, by omega, by go_num, fun j hj => by
                              by_cases e : j = k
                              · rw [e, HG.out]; exact hb
                              · exact HA.out j (by omega)⟩
        case measure => simp [intOf]; omega
      · have hb' : isLet (s[k].toNat : Int) = false := by simpa using hb
        clear hb
        go_wp2_with (go_at_call 172; refine (number_any _ _ (by omega) (by omega)).mono ?_; rintro e w' ⟨rfl, rfl⟩)
        go_ret2
        have hgood := good_at (ints s) k (by rw [HL.out]; exact hlt) HA.out (by rw [HG.out]; exact hb')
        exact ⟨ret_two (by unfold flt; rw [hgood, HL.out, if_pos hlt]) (by unfold flt; rw [hgood, HL.out, if_pos hlt]), rfl⟩
    · obtain rfl : k = s.size := by omega
      have hgood : Hid (good (ints s) = s.size) := (good_all (ints s) (by rw [HL.out]; exact HA.out)).trans HL.out
      by_cases h1 : s.size % 4 = 1
      · have h1' : (s.size : Int) % 4 = 1 := by omega
        go_wp2
        go_ret2
        exact ⟨ret_two (by unfold flt; rw [hgood.out, HL.out, if_neg (by omega), if_pos h1]) (by unfold flt; rw [hgood.out, HL.out, if_neg (by omega), if_pos h1]), rfl⟩
      · have h1' : ¬ (s.size : Int) % 4 = 1 := by omega
        by_cases hsp : spar (ints s) = 0
        · have hp : Hid (spar (ints s) = 0) := hsp
          go_wp2_with (go_at_call 173; refine (spare_any s _ hs (by omega)).mono ?_; rintro e w' ⟨rfl, rfl⟩)
          go_ret2
          exact ⟨ret_two (by unfold flt; rw [hgood.out, HL.out, if_neg (by omega), if_neg h1, if_neg (by simp [hp.out])]) (by unfold flt; rw [hgood.out, HL.out, if_neg (by omega), if_neg h1, if_neg (by simp [hp.out])]), rfl⟩
        · go_wp2_with (go_at_call 173; refine (spare_any s _ hs (by omega)).mono ?_; rintro e w' ⟨rfl, rfl⟩)
          go_ret2
          exact ⟨ret_two (by unfold flt; rw [hgood.out, HL.out, if_neg (by omega), if_neg h1, if_pos hsp]) (by unfold flt; rw [hgood.out, HL.out, if_neg (by omega), if_neg h1, if_pos hsp]), rfl⟩
end Go.Proofs.YtegcgbjjpgjnmaaGreatDoor.Id
namespace Go.Proofs.YtegcgbjjpgjnmaaGreatDoor.Id
open Go.RowKit
theorem Tryz.info5 : (Tryz.prog.info? 5).map (fun i => (i.zero, i.size, i.bytes)) = some (some (.int .u8 0), 1, 1) := by kernel_rfl
theorem Tryz.size5 : (Tryz.prog.info? 5).map (·.size) = some 1 := by kernel_rfl
/-- At p, with room for c, the bytes rs are read; they lie below block B. -/
def Rd (B : Nat) (w : World) (p : Option Addr) (c : Nat) (rs : List Int) : Prop :=
  rs.length ≤ c ∧ (∀ x ∈ rs, 0 ≤ x ∧ x ≤ 255) ∧ ∀ j, j < rs.length → ∃ a, p = some a ∧ a.block < B ∧ w.cell? (a.add j) = some (.int .u8 (rs.getD j 0))

theorem add_add (a : Addr) (m j : Nat) : (a.add m).add j = a.add (m + j) := by
  unfold Addr.add
  by_cases hm : m = 0
  · subst hm; simp
  · by_cases hj : j = 0
    · subst hj; simp [hm]
    · simp [hm, hj, Nat.add_assoc]
theorem add_block (a : Addr) (m : Nat) : (a.add m).block = a.block := by unfold Addr.add; split <;> rfl

theorem Rd.cut {B : Nat} {w : World} {p : Option Addr} {c : Nat} {rs : List Int} (h : Rd B w p c rs) (m : Nat) (hm : m ≤ rs.length) :
    ∃ p', sliced p m rs.length c 1 = .slice p' (rs.drop m).length (c - m) ∧ Rd B w p' (c - m) (rs.drop m) := by
  refine ⟨if c = m then p else p.map (·.add (m * 1)), by simp [sliced], by have := h.1; simp; omega, fun x hx => h.2.1 x (List.mem_of_mem_drop hx), fun j hj => ?_⟩
  simp only [List.length_drop] at hj
  obtain ⟨a, rfl, hb, hc⟩ := h.2.2 (m + j) (by omega)
  have h1 := h.1
  rw [if_neg (by omega)]
  refine ⟨a.add m, by simp, by rw [add_block]; exact hb, ?_⟩
  rw [add_add, hc]
  simp [List.getD_eq_getElem?_getD, List.getElem?_drop]

theorem Rd.carry {B : Nat} {w w' : World} {p : Option Addr} {c : Nat} {rs : List Int} (h : Rd B w p c rs) (hb : Below B w w') : Rd B w' p c rs :=
  ⟨h.1, h.2.1, fun j hj => by
    obtain ⟨a, ha, hB, hc⟩ := h.2.2 j hj
    exact ⟨a, ha, hB, (hb.cell (by rw [add_block]; exact hB)).trans hc⟩⟩

theorem u8_oneCell (l : List Int) : ∀ v ∈ l.map (Value.int .u8), v.oneCell' = true := by
  intro v hv
  simp only [List.mem_map] at hv
  obtain ⟨x, _, rfl⟩ := hv
  rfl
theorem splice4z (rs : List Int) : splice [Value.int .u8 0, .int .u8 0, .int .u8 0, .int .u8 0] 0 ((rs.take 4).map (Value.int .u8)) = [.int .u8 (rs.getD 0 0), .int .u8 (rs.getD 1 0), .int .u8 (rs.getD 2 0), .int .u8 (rs.getD 3 0)] := by
  match rs with
  | [] => rfl
  | [_] => rfl
  | [_, _] => rfl
  | [_, _, _] => rfl
  | _ :: _ :: _ :: _ :: _ => simp [splice]
theorem getD_bd {rs : List Int} (h : ∀ x ∈ rs, 0 ≤ x ∧ x ≤ 255) (j : Nat) : 0 ≤ rs.getD j 0 ∧ rs.getD j 0 ≤ 255 := by
  rw [List.getD_eq_getElem?_getD]
  rcases Nat.lt_or_ge j rs.length with hj | hj
  · rw [List.getElem?_eq_getElem hj]; exact h _ (List.getElem_mem hj)
  · rw [List.getElem?_eq_none hj]; simp
theorem cell_row {w : World} {g t : Nat} {fr : Nat × Nat} {cur : List Value} (h : w.heap[g]? = some (.cells cur.toArray t fr)) (j : Nat) (v : Value) (hj : cur[j]? = some v) : w.cell? ⟨g, j, none⟩ = some v := by
  simp [World.cell?, h, hj]
theorem sizeOf5 (w : World) : (sizeOf 5).run Tryz.prog w = .ok 1 w := by kernel_rfl
theorem elem40 : Tryz.prog.elem 40 = 5 := by kernel_rfl

theorem len154 : Tryz.prog.arrayLen 154 = 3 := by kernel_rfl
theorem elem154 : Tryz.prog.elem 154 = 5 := by kernel_rfl
theorem run_cut154 (m : Nat) (hm : m ≤ 3) (a : Addr) (wx : World) : (Instr.sliceAt 154 (.pointer (some a)) none (some (.int .i64 (m : Int))) none).run Tryz.prog wx = .ok (.slice (some a) m 3) wx := by
  rw [run_sliceAt_array_h wx 154 a (by rw [len154, elem154]; exact Tryz.underlying154) .i64 (m : Int) (by omega) (by rw [len154]; omega), elem154, sizeOf5, len154]
  simp [Result.andThen, slicedAt, Addr.add]

theorem own_base {w : World} {B e size n : Nat} {v : Value} {xs : List Value} (h : w.ownsRow B e size v n xs) : ∀ k, v.ownBlock = some k → B ≤ k := by
  intro k hk
  rcases h.2 with ⟨rfl, _⟩ | ⟨g, cap, cur, rfl, hg, _⟩
  · cases hk
  · cases hk; exact hg
theorem own_string {w : World} {B : Nat} {v : Value} {xs : List Int} (h : w.ownsRow B 5 1 v xs.length (xs.map (Value.int .u8))) :
    (convert 40 9 v).run Tryz.prog w = .ok (.string (strOfNums xs)) w := by
  rcases h.2 with ⟨rfl, hn⟩ | ⟨g, cap, cur, rfl, hg, _⟩
  · obtain rfl : xs = [] := List.eq_nil_of_length_eq_zero hn
    exact run_convert_bytes_nil w 40 5 Tryz.underlying40 Tryz.underlying5 0 0 9 Tryz.underlying9
  · refine run_convert_bytes_arg w 40 5 Tryz.underlying40 Tryz.underlying5 g 0 xs.length cap xs rfl (fun i hi => ?_) 9 Tryz.underlying9
    rw [Nat.zero_add, h.cellAt i (by omega), List.getElem?_map, List.getElem?_eq_getElem hi, List.getD_eq_getElem?_getD, List.getElem?_eq_getElem hi]
    rfl
theorem cells_new (w : World) (L : List Int) (t n j : Nat) (u : Value) (h : ((L.take n).map (Value.int .u8))[j]? = some u) :
    (w.alloc (.cells (L.map (Value.int .u8)).toArray t)).cell? ((⟨w.heap.size, 0, none⟩ : Addr).add j) = some u := by
  have e : (⟨w.heap.size, 0, none⟩ : Addr).add j = ⟨w.heap.size, j, none⟩ := by unfold Addr.add; split <;> simp_all
  rw [e]
  refine cell_row (heap_alloc_new _ _) j u ?_
  rw [List.getElem?_map, List.getElem?_take] at h
  split at h
  · rw [List.getElem?_map]; exact h
  · cases h

/-- The length of a slice. -/
def lenOf : Value → Nat
  | .slice _ n _ => n
  | _ => 0
end Go.Proofs.YtegcgbjjpgjnmaaGreatDoor.Id
namespace Go.Proofs.YtegcgbjjpgjnmaaGreatDoor.Id
open Go.RowKit
theorem run_copy_str (w : World) (ty g dLen dCap : Nat) (s : ByteArray) (cur : List Value) (t n : Nat) (hg : w.heap[g]? = some (.cells cur.toArray t (0, 0))) (hn : n = min s.size dLen) (hfit : n ≤ cur.length) :
    (Builtin.copy_ #[40, 9] ty #[.slice (some ⟨g, 0, none⟩) dLen dCap, .string s]).run Tryz.prog w =
      .ok (goInt n) (w.setRow g (splice cur 0 (((ints s).take n).map (Value.int .u8))).toArray) := by
  have hlen : (((ints s).take n).map (Value.int .u8)).length = n := by simp [ints_length]; omega
  have hst := run_storeCells_at Tryz.prog g 0 t (((ints s).take n).map (Value.int .u8)) 0 cur.toArray w hg (by rw [hlen]; simpa using hfit) (u8_oneCell _)
  have hmin : Nat.min s.size dLen = n := hn.symm
  have htk : List.take n (List.map (fun b : UInt8 => Value.int IntKind.u8 (b.toNat : Int)) s.data.toList) = ((ints s).take n).map (Value.int .u8) := by
    simp [ints, List.map_take]
    rfl
  rw [hlen] at hst
  simp only [Nat.add_zero] at hst
  cases hq : Tryz.prog.info? 5 with
  | none => have := Tryz.size5; simp [hq] at this
  | some i =>
    simp [Builtin.copy_, run_underlying Tryz.underlying40, Builtin.lenOf, Builtin.firstCells, sizeOf, typeInfo, hq, hmin]
    rw [htk, hst]
    have hm : min n (ints s).length = n := by rw [ints_length]; omega
    simp [Result.andThen, splice, hm]

theorem wpList_copy_str {w : World} {ops : Array Oper} {rest : List Oper} {o : Oper} {a : Act} {Q : Exit → Act → World → Prop} (hgd : o.guard = none) (d s : Operand)
    (ho : o.op = .call { callee := .builtin .copy, args := #[d, s], argTypes := #[40, 9] })
    (g dLen dCap : Nat) (x : ByteArray) (hd : a.eval d = .slice (some ⟨g, 0, none⟩) dLen dCap) (hs : a.eval s = .string x)
    (cur : List Value) (t : Nat) (hg : w.heap[g]? = some (.cells cur.toArray t (0, 0))) (n : Nat) (hn : n = min x.size dLen) (hfit : n ≤ cur.length) (B : Nat) (w0 : World) (hb : Below B w0 w) (hBg : B ≤ g)
    (h : ∀ w', Hid (w'.heap[g]? = some (.cells (splice cur 0 (((ints x).take n).map (Value.int .u8))).toArray t (0, 0))) → Below B w0 w' → wpList Tryz.prog ops Q rest (a.put o.dst (goInt n)) w') :
    wpList Tryz.prog ops Q (o :: rest) a w := by
  refine wpList_plain hgd fun K hK => ?_
  have hrun := run_copy_str w o.type g dLen dCap x cur t n hg hn hfit
  unfold Oper.wp
  simp [execOp, ho, resolve, invoke, builtin, hd, hs, hrun, Result.andThen]
  exact hK _ _ (h _ (show _ = _ by rw [List.map_take]; exact setRow_heap w g _ _ t _ hg) (below_setRow hb hBg _))
end Go.Proofs.YtegcgbjjpgjnmaaGreatDoor.Id
namespace Go.Proofs.YtegcgbjjpgjnmaaGreatDoor.Id
open Go.RowKit
theorem ret_three {a b c d : Int} {v : Value} (h : a = c) (hp : b = d) : Ending.returned (.tuple #[v, .int .i64 a, .int .i64 b]) = .returned (.tuple #[v, .int .i64 c, .int .i64 d]) := by rw [h, hp]

set_option maxHeartbeats 1000000 in
theorem decode_bad (s : ByteArray) (w : World) (hs : s.size ≤ 140737488351232) (hf : (flt (ints s)).1 ≠ 0) :
    Calls Tryz.prog 126 #[.string s] w fun e w' => e = .returned (.tuple #[.slice none 0 0, .int .i64 (flt (ints s)).1, .int .i64 (flt (ints s)).2]) ∧ Below w.heap.size w w' := by
  go_enter Tryz.func126, Tryz.ntmps126
  go_wp2_with (go_at_call 152; refine (fault_any s _ hs).mono ?_; rintro e w' ⟨rfl, rfl⟩)
  go_ret3
  exact ⟨ret_three rfl rfl, Below.refl _ _⟩

theorem Rest.cut (q : Option Addr) (l m g d : Nat) (hm : m ≤ l) (hq : 0 < l → q = some ⟨g, d, none⟩) :
    ∃ q', (∀ wx, (Instr.slice 40 (.slice q l l) (some (.int .i64 (m : Int))) none none).run Tryz.prog wx = .ok (.slice q' (l - m) (l - m)) wx) ∧ (0 < l - m → q' = some ⟨g, d + m, none⟩) := by
  refine ⟨if l = m then q else q.map (·.add (m * 1)), fun wx => ?_, fun h => ?_⟩
  · rw [run_slice_l wx 40 q l l (by rw [elem40]; exact Tryz.underlying40) .i64 (m : Int) (by omega) (by omega), elem40, sizeOf5]
    simp only [Result.andThen, Int.toNat_natCast, sliced]
  · rw [if_neg (by omega), hq (by omega)]
    simp [Addr.add]

theorem row_own {w : World} {B g n : Nat} {xs : List Value} (h : w.ownsRow B 5 1 (.slice (some ⟨g, 0, none⟩) n n) n xs) : w.heap[g]? = some (.cells xs.toArray 5 (0, 0)) := by
  rcases h.2 with ⟨h', _⟩ | ⟨g', cap, cur, he, hg, hgg, h1, h2, h3, h4⟩
  · cases h'
  · cases he
    rw [hgg]
    have e : xs = cur.toList := by rw [← h4, List.take_of_length_le (by simp; omega)]
    rw [e]
theorem made_zero (n : Nat) : (madeCells #[Value.int .u8 0] n).toList = (List.replicate n (0 : Int)).map (Value.int .u8) := by
  rw [toList_madeCells_one]; simp
theorem splice_zero (done news : List Int) (l : Nat) :
    splice ((done ++ List.replicate l (0 : Int)).map (Value.int .u8)) done.length (news.map (Value.int .u8)) = ((done ++ news) ++ List.replicate (l - news.length) (0 : Int)).map (Value.int .u8) := by
  simp only [splice, List.map_append, List.length_map, List.append_assoc]
  rw [List.take_append_of_le_length (by simp), List.take_of_length_le (by simp), List.drop_append, List.drop_eq_nil_of_le (by simp), List.map_replicate, List.drop_replicate]
  simp
set_option maxHeartbeats 1000000 in
theorem decode_good (s : ByteArray) (w : World) (hs : s.size ≤ 140737488351232) (hf : (flt (ints s)).1 = 0) :
    Calls Tryz.prog 126 #[.string s] w fun e w' => e = .returned (.tuple #[.slice (some ⟨w.heap.size, 0, none⟩) (dec (ints s)).length (dec (ints s)).length, .int .i64 0, .int .i64 0]) ∧
      w'.heap[w.heap.size]? = some (.cells ((dec (ints s)).map (Value.int .u8)).toArray 5 (0, 0)) ∧ Below w.heap.size w w' := by
  obtain ⟨i0, hi, hz0, hz1, hz2⟩ := info_parts Tryz.info5
  have h4 : s.size % 4 ≠ 1 := by have := (flt_ok _ hf).2.1; rw [ints_length] at this; exact this
  obtain ⟨L, hL⟩ : ∃ L, L = (dec (ints s)).length := ⟨_, rfl⟩
  have hl : ((L : Nat) : Int) = (s.size : Int) / 4 * 3 + byts ((s.size : Int) % 4) := by rw [hL, dec_length, ints_length]
  have hby := byts_bd ((s.size : Int) % 4) (by omega)
  have HL : Hid (L = (dec (ints s)).length) := hL
  have HL' : Hid (((L : Nat) : Int) = (s.size : Int) / 4 * 3 + byts ((s.size : Int) % 4)) := hl
  have hle : L ≤ 140737488351232 := by omega
  rw [← hL]
  clear hl hL
  go_enter Tryz.func126, Tryz.ntmps126
  go_wp2_with (first
    | (go_at_call 152; refine (fault_any s _ hs).mono ?_; rintro e w' ⟨rfl, rfl⟩)
    | (go_at_call 153; refine (bytesOf_any _ _ (by omega) (by omega)).mono ?_; rintro e w' ⟨rfl, rfl⟩)
    | (at_make; refine wpList_make_full _ rfl _ _ 40 rfl w.heap.size 5 i0 (.int .u8 0) 1 Tryz.underlying40 hi hz0 hz1 _ _ _ _ L rfl rfl ?b0 ?b1 ?b2 ?b3 (Nat.le_refl _) ?_))
  case b0 => exact HL'.out.symm
  case b1 => exact HL'.out.symm
  case b2 => rw [hz2]; omega
  case b3 => unfold maxLen; omega
  intro w1 hown hgrow
  have hb1 : Below w.heap.size w w1 := (Below.refl _ _).grown hgrow (Nat.le_refl _) (by simp)
  have HR1 : Hid (w1.heap[w.heap.size]? = some (.cells ((([] : List Int) ++ List.replicate L (0 : Int)).map (Value.int .u8)).toArray 5 (0, 0))) := by
    have := row_own hown
    rw [made_zero] at this
    exact this
  clear hown hgrow
  go_wp2
  go_loopw [0, 8] (fun sv rv wr => ∃ (t : ByteArray) (done : List Int) (q : Option Addr) (l : Nat), sv = .string t ∧ t.size ≤ s.size ∧ t.size % 4 ≠ 1 ∧ dec (ints s) = done ++ dec (ints t) ∧ l = (dec (ints t)).length ∧
      rv = .slice q l l ∧ (0 < l → q = some ⟨w.heap.size, done.length, none⟩) ∧ wr.heap[w.heap.size]? = some (.cells ((done ++ List.replicate l (0 : Int)).map (Value.int .u8)).toArray 5 (0, 0)) ∧ Below w.heap.size w wr)
    (fun _ rv _ => lenOf rv)
  case atStart => exact ⟨s, [], _, L, rfl, Nat.le_refl _, h4, rfl, HL.out, rfl, fun _ => rfl, HR1.out, hb1⟩
  case round =>
    clear HR1 hb1
    obtain ⟨t, done, q, l, rfl, ht, ht4, hdec, hl, rfl, hq, hrow, hb⟩ := hrel
    have HD : Hid (dec (ints s) = done ++ dec (ints t)) := hdec
    have HLL : Hid (l = (dec (ints t)).length) := hl
    have HROW : Hid (wr.heap[w.heap.size]? = some (.cells ((done ++ List.replicate l (0 : Int)).map (Value.int .u8)).toArray 5 (0, 0))) := hrow
    have HQ : Hid (0 < l → q = some ⟨w.heap.size, done.length, none⟩) := hq
    have hpos : 0 < l ↔ 0 < t.size := by rw [hl, ← ints_length]; exact dec_pos _ (by rw [ints_length]; exact ht4)
    clear hdec hl hrow hq
    by_cases hlt : 0 < l
    · have ht0 : 0 < t.size := hpos.1 hlt
      obtain ⟨m, hm⟩ : ∃ m, m + 1 = min t.size 4 := ⟨min t.size 4 - 1, by omega⟩
      have hm1 : 1 ≤ m := by omega
      have hm3 : m ≤ 3 := by omega
      obtain ⟨a0, ha0⟩ : ∃ a, (ints t).getD 0 0 = a := ⟨_, rfl⟩
      obtain ⟨a1, ha1⟩ : ∃ a, (ints t).getD 1 0 = a := ⟨_, rfl⟩
      obtain ⟨a2, ha2⟩ : ∃ a, (ints t).getD 2 0 = a := ⟨_, rfl⟩
      obtain ⟨a3, ha3⟩ : ∃ a, (ints t).getD 3 0 = a := ⟨_, rfl⟩
      have b0 : 0 ≤ a0 ∧ a0 ≤ 255 := ha0 ▸ getD_bd (ints_bd t) 0
      have b1 : 0 ≤ a1 ∧ a1 ≤ 255 := ha1 ▸ getD_bd (ints_bd t) 1
      have b2 : 0 ≤ a2 ∧ a2 ≤ 255 := ha2 ▸ getD_bd (ints_bd t) 2
      have b3 : 0 ≤ a3 ∧ a3 ≤ 255 := ha3 ▸ getD_bd (ints_bd t) 3
      have hstep := dec_step (ints t) m a0 a1 a2 a3 hm1 (by rw [ints_length]; exact hm) ha0 ha1 ha2 ha3
      obtain ⟨news, hnews⟩ : ∃ news, news = [num0 a0 * 4 + num0 a1 / 16, num0 a1 % 16 * 16 + num0 a2 / 4, num0 a2 % 4 * 64 + num0 a3].take m := ⟨_, rfl⟩
      have hnl : news.length = m := by rw [hnews]; simp; omega
      rw [← hnews] at hstep
      have hll : l = m + (dec ((ints t).drop (m + 1))).length := by rw [HLL.out, hstep]; simp [hnl]
      have hml : m ≤ l := by omega
      have hS : splice [Value.int .u8 0, .int .u8 0, .int .u8 0, .int .u8 0] 0 (((ints t).take (m + 1)).map (Value.int .u8)) = [.int .u8 a0, .int .u8 a1, .int .u8 a2, .int .u8 a3] := by
        have e3 : (ints t).take (m + 1) = (ints t).take 4 := by rw [hm]; exact (List.take_eq_take_iff.2 (by rw [ints_length]; omega))
        rw [e3, splice4z, ha0, ha1, ha2, ha3]
      have HS : Hid (splice [Value.int .u8 0, .int .u8 0, .int .u8 0, .int .u8 0] 0 (((ints t).take (m + 1)).map (Value.int .u8)) = [.int .u8 a0, .int .u8 a1, .int .u8 a2, .int .u8 a3]) := hS
      have HST : Hid (dec (ints t) = news ++ dec ((ints t).drop (m + 1))) := hstep
      have HN : Hid (news = [num0 a0 * 4 + num0 a1 / 16, num0 a1 % 16 * 16 + num0 a2 / 4, num0 a2 % 4 * 64 + num0 a3].take m) := hnews
      have HNL : Hid (news.length = m) := hnl
      have HM : Hid (m + 1 = min t.size 4) := hm
      have HLM : Hid (l = m + (dec ((ints t).drop (m + 1))).length) := hll
      obtain ⟨t', ht'⟩ : ∃ t', t' = t.extract (m + 1) t.size := ⟨_, rfl⟩
      have hst : ∀ wx, (Instr.slice 9 (.string t) (some (.int .i64 ((m : Int) + 1))) none none).run Tryz.prog wx = .ok (.string t') wx := by
        intro wx
        rw [run_slice_string_l wx 9 t Tryz.underlying9 .i64 ((m : Int) + 1) (by omega) (by omega), ht']
        rfl
      have HT : Hid (ints t' = (ints t).drop (m + 1)) := by
        have := ints_extract t (m + 1)
        rw [← ht'] at this
        exact this
      have hts : t'.size = t.size - (m + 1) := by rw [← ints_length, HT.out, List.length_drop, ints_length]
      have HTS : Hid (t'.size = t.size - (m + 1)) := hts
      obtain ⟨q', hsl, hq'⟩ := Rest.cut q l m w.heap.size done.length hml HQ.out
      have HQ' : Hid (0 < l - m → q' = some ⟨w.heap.size, done.length + m, none⟩) := hq'
      have hc33 := run_cut154 m hm3
      clear hm ha0 ha1 ha2 ha3 hstep hnews hnl hll hS ht' hts hq'
      have hwb : Below wr.heap.size wr (wr.alloc (.cells #[.int .u8 0, .int .u8 0, .int .u8 0, .int .u8 0] 153)) := (Below.refl _ _).alloc (Nat.le_refl _) _
      go_wp2_with (refine wpList_copy_str rfl (.tmp 35) (.tmp 36) rfl wr.heap.size _ _ t rfl rfl [.int .u8 0, .int .u8 0, .int .u8 0, .int .u8 0] 153 ?c1 (m + 1) ?c2 ?c3 wr.heap.size wr ?c4 ?c5 ?_)
      case c1 => exact heap_alloc_new _ _
      case c2 => exact HM.out
      case c3 => simp; omega
      case c4 => exact hwb
      case c5 => exact Nat.le_refl _
      intro w2 HG hB2
      have hrow := HG.out
      rw [← List.map_take, HS.out] at hrow
      have hz0' := cell_row hrow 0 _ rfl
      have hz1' := cell_row hrow 1 _ rfl
      have hz2' := cell_row hrow 2 _ rfl
      have hz3' := cell_row hrow 3 _ rfl
      clear hrow HG
      obtain ⟨cs, hcs⟩ : ∃ cs, cs = news.map (Value.int .u8) := ⟨_, rfl⟩
      have hcl : cs.length = m := by rw [hcs, List.length_map, HNL.out]
      have HCS : Hid (cs = news.map (Value.int .u8)) := hcs
      clear hcs
      obtain ⟨cur, hcur⟩ : ∃ cur, cur = (done ++ List.replicate l (0 : Int)).map (Value.int .u8) := ⟨_, rfl⟩
      have HCUR : Hid (cur = (done ++ List.replicate l (0 : Int)).map (Value.int .u8)) := hcur
      clear hcur
      have hcl' : Hid (cs.length = m) := hcl
      go_wp2_with (first
        | (go_at_call 154; refine (gather_any a0 a1 a2 a3 _ b0.1 b0.2 b1.1 b1.2 b2.1 b2.2 b3.1 b3.2).mono ?_; rintro e w3 ⟨rfl, hB3⟩)
        | (go_at_call 153; refine (bytesOf_pos _ _ (by omega) (by omega)).mono ?_; rintro e w4 ⟨rfl, rfl⟩)
        | (refine wpList_copy_splice rfl (.tmp 41) (.tmp 44) 40 40 rfl 5 Tryz.underlying40 Tryz.size5 _ _ _ _ _ _ rfl rfl w.heap.size done.length cur 5 ?d1 cs ?d2 ?d3 ?d4 ?d5 w.heap.size w ?d6 ?d7 ?_))
      case d1 =>
        have hlr : w.heap.size < wr.heap.size := (Array.getElem?_eq_some_iff.1 HROW.out).1
        have hbr : Below wr.heap.size wr w3 := hB2.trans (hB3.mono hB2.size)
        rw [heap_alloc_old _ _ (by have := hbr.size; omega), hbr.block _ hlr, HROW.out, HCUR.out]
      case d2 => rw [hcl'.out]; exact (Nat.min_eq_left hml).symm
      case d3 =>
        intro _
        refine ⟨HQ.out hlt, _, rfl, ?_⟩
        rw [HCS.out, HN.out]
        exact cells_new w3 [num0 a0 * 4 + num0 a1 / 16, num0 a1 % 16 * 16 + num0 a2 / 4, num0 a2 % 4 * 64 + num0 a3] 154 m
      case d4 => rw [hcl'.out, HCUR.out]; simp; omega
      case d5 => rw [HCS.out]; exact u8_oneCell _
      case d6 =>
        have hb3 : Below w.heap.size w w3 := hb.trans ((hB2.trans (hB3.mono hB2.size)).mono hb.size)
        exact hb3.alloc hb3.size _
      case d7 => exact Nat.le_refl _
      intro w5 HG5 hb5
      clear hB2 hB3
      go_wp2
      go_roundw
      case rel =>
        refine ⟨t', done ++ news, q', l - m, rfl, by rw [HTS.out]; omega, by rw [HTS.out]; have := HM.out; omega, ?_, ?_, rfl, ?_, ?_, hb5⟩
        · rw [HD.out, HST.out, HT.out]; simp
        · rw [HT.out]; have := HLM.out; omega
        · intro h; rw [HQ'.out h, List.length_append, HNL.out]
        · rw [HG5.out, HCUR.out, HCS.out, splice_zero, HNL.out]
      case measure => simp [lenOf]; omega
    · obtain rfl : l = 0 := by omega
      have hd0 : dec (ints t) = [] := List.eq_nil_of_length_eq_zero HLL.out.symm
      have HDD : Hid (dec (ints s) = done) := by
        have := HD.out
        rw [hd0, List.append_nil] at this
        exact this
      clear hd0
      go_wp2
      go_ret3
      refine ⟨rfl, ?_, hb⟩
      have := HROW.out
      rw [HDD.out]
      simpa using this
end Go.Proofs.YtegcgbjjpgjnmaaGreatDoor.Id
namespace Go.Proofs.YtegcgbjjpgjnmaaGreatDoor.Id
theorem ints_str (l : List Int) (h : ∀ x ∈ l, 0 ≤ x ∧ x ≤ 255) : ints (strOfNums l) = l := by
  simp only [ints, strOfNums, List.map_map]
  conv => rhs; rw [← List.map_id l]
  refine List.map_congr_left fun x hx => ?_
  have := h x hx
  simp only [Function.comp, id_eq]
  have hx : x.toNat < 256 := by omega
  rw [UInt8.toNat_ofNat_of_lt' hx]
  omega
theorem str_ints (s : ByteArray) : strOfNums (ints s) = s := by
  cases s with
  | mk d =>
    simp only [ints, strOfNums, List.map_map]
    have e : ((fun n : Int => UInt8.ofNat n.toNat) ∘ fun c : UInt8 => (c.toNat : Int)) = id := by
      funext c
      simp
    rw [e, List.map_id]
theorem str_size (l : List Int) : (strOfNums l).size = l.length := by
  show (strOfNums l).data.size = _
  simp [strOfNums]
theorem num0_ltr (n : Int) (h0 : 0 ≤ n) (h1 : n ≤ 63) : num0 (ltr n) = n := by
  unfold num0; rw [num_ltr n h0 h1, if_pos h0]
theorem isLet_ltr (n : Int) (h0 : 0 ≤ n) (h1 : n ≤ 63) : isLet (ltr n) = true := by
  unfold isLet; rw [num_ltr n h0 h1]; simp [h0]
theorem dec_enc (zs : List Int) (h : ∀ x ∈ zs, 0 ≤ x ∧ x ≤ 255) : dec (enc zs) = zs := by
  induction zs using enc.induct with
  | case1 => rfl
  | case2 a =>
    have ha := h a (by simp)
    simp only [enc, dec]
    rw [num0_ltr _ (by omega) (by omega), num0_ltr _ (by omega) (by omega)]
    congr 1; omega
  | case3 a b =>
    have ha := h a (by simp)
    have hb := h b (by simp)
    simp only [enc, dec]
    rw [num0_ltr _ (by omega) (by omega), num0_ltr _ (by omega) (by omega), num0_ltr _ (by omega) (by omega)]
    congr 1
    · omega
    · congr 1; omega
  | case4 a b c r ih =>
    have ha := h a (by simp)
    have hb := h b (by simp)
    have hc := h c (by simp)
    simp only [enc, dec]
    rw [num0_ltr _ (by omega) (by omega), num0_ltr _ (by omega) (by omega), num0_ltr _ (by omega) (by omega), num0_ltr _ (by omega) (by omega), ih (fun y hy => h y (by simp [hy]))]
    congr 1
    · omega
    · congr 1
      · omega
      · congr 1; omega
theorem good_enc (zs : List Int) (h : ∀ x ∈ zs, 0 ≤ x ∧ x ≤ 255) : good (enc zs) = (enc zs).length := by
  induction zs using enc.induct with
  | case1 => rfl
  | case2 a =>
    have ha := h a (by simp)
    simp only [enc, good, List.takeWhile_cons]
    rw [isLet_ltr _ (by omega) (by omega), isLet_ltr _ (by omega) (by omega)]
    simp
  | case3 a b =>
    have ha := h a (by simp)
    have hb := h b (by simp)
    simp only [enc, good, List.takeWhile_cons]
    rw [isLet_ltr _ (by omega) (by omega), isLet_ltr _ (by omega) (by omega), isLet_ltr _ (by omega) (by omega)]
    simp
  | case4 a b c r ih =>
    have ha := h a (by simp)
    have hb := h b (by simp)
    have hc := h c (by simp)
    have := ih (fun y hy => h y (by simp [hy]))
    simp only [enc, good, List.takeWhile_cons] at this ⊢
    rw [isLet_ltr _ (by omega) (by omega), isLet_ltr _ (by omega) (by omega), isLet_ltr _ (by omega) (by omega), isLet_ltr _ (by omega) (by omega)]
    simp [this]
theorem spar_cons4 (a b c d : Int) (r : List Int) : spar (a :: b :: c :: d :: r) = spar r := by
  unfold spar
  cases r with
  | nil => simp
  | cons x y =>
    have e : (a :: b :: c :: d :: x :: y).length % 4 = (x :: y).length % 4 := by simp only [List.length_cons]; omega
    have e2 : (a :: b :: c :: d :: x :: y).getD ((a :: b :: c :: d :: x :: y).length - 1) 0 = (x :: y).getD ((x :: y).length - 1) 0 := by simp [List.getD_eq_getElem?_getD]
    rw [e, e2]
theorem spar_enc (zs : List Int) (h : ∀ x ∈ zs, 0 ≤ x ∧ x ≤ 255) : spar (enc zs) = 0 := by
  induction zs using enc.induct with
  | case1 => rfl
  | case2 a =>
    have ha := h a (by simp)
    simp only [enc, spar, List.length_cons, List.length_nil]
    simp
    rw [num0_ltr _ (by omega) (by omega)]
    omega
  | case3 a b =>
    have hb := h b (by simp)
    simp only [enc, spar, List.length_cons, List.length_nil]
    simp
    rw [num0_ltr _ (by omega) (by omega)]
    omega
  | case4 a b c r ih =>
    simp only [enc]
    rw [spar_cons4]
    exact ih (fun y hy => h y (by simp [hy]))
theorem enc_mod4 (zs : List Int) : (enc zs).length % 4 ≠ 1 := by
  have := enc_length zs
  unfold siz lets at this
  repeat' split at this
  all_goals omega
theorem flt_enc (zs : List Int) (h : ∀ x ∈ zs, 0 ≤ x ∧ x ≤ 255) : flt (enc zs) = (0, 0) := by
  unfold flt
  rw [good_enc zs h, if_neg (by omega), if_neg (enc_mod4 zs), if_neg (by simp [spar_enc zs h])]
end Go.Proofs.YtegcgbjjpgjnmaaGreatDoor.Id
namespace Go.Proofs.YtegcgbjjpgjnmaaGreatDoor.Id
open Go.RowKit
theorem rd_string {B : Nat} {w : World} {p : Option Addr} {c : Nat} {rs : List Int} (h : Rd B w p c rs) :
    (convert 40 9 (.slice p rs.length c)).run Tryz.prog w = .ok (.string (strOfNums rs)) w := by
  cases p with
  | none =>
    have h0 : rs = [] := by
      cases rs with
      | nil => rfl
      | cons x r => obtain ⟨a, ha, _⟩ := h.2.2 0 (by simp); cases ha
    subst h0
    exact run_convert_bytes_nil w 40 5 Tryz.underlying40 Tryz.underlying5 0 c 9 Tryz.underlying9
  | some a =>
    have := run_convert_bytes_back (P := Tryz.prog) w 40 9 5 a c (rs.map fun n => UInt8.ofNat n.toNat) Tryz.underlying40 Tryz.underlying5 Tryz.underlying9 (fun j hj => by
      have hj' : j < rs.length := by simpa using hj
      obtain ⟨a', ha, _, hc⟩ := h.2.2 j hj'
      cases ha
      rw [hc, List.getElem_map]
      have hb := h.2.1 rs[j] (List.getElem_mem hj')
      have hx : rs[j].toNat < 256 := by omega
      rw [UInt8.toNat_ofNat_of_lt' hx, List.getD_eq_getElem?_getD, List.getElem?_eq_getElem hj']
      congr 2
      simp
      omega)
    rw [List.length_map] at this
    exact this

theorem decode_enc (zs : List Int) (w : World) (hz : zs.length ≤ 1000000) (hb : ∀ x ∈ zs, 0 ≤ x ∧ x ≤ 255) :
    Calls Tryz.prog 126 #[.string (strOfNums (enc zs))] w fun e w' => e = .returned (.tuple #[.slice (some ⟨w.heap.size, 0, none⟩) zs.length zs.length, .int .i64 0, .int .i64 0]) ∧
      w'.heap[w.heap.size]? = some (.cells (zs.map (Value.int .u8)).toArray 5 (0, 0)) ∧ Below w.heap.size w w' := by
  have e1 : ints (strOfNums (enc zs)) = enc zs := ints_str _ (enc_bd zs hb)
  have h := decode_good (strOfNums (enc zs)) w (by rw [← ints_length, e1]; have := enc_le zs; omega) (by rw [e1, flt_enc zs hb])
  rw [e1, dec_enc zs hb] at h
  exact h



theorem own_rd {w : World} {B : Nat} {v : Value} {L : List Int} (h : w.ownsRow B 5 1 v L.length (L.map (Value.int .u8))) (hL : ∀ x ∈ L, 0 ≤ x ∧ x ≤ 255) : ∃ q cq, v = .slice q L.length cq ∧ Rd w.heap.size w q cq L := by
  rcases h.2 with ⟨rfl, hn⟩ | ⟨g, cap, cur, rfl, hg, hgg, h1, h2, h3, h4⟩
  · obtain rfl : L = [] := List.eq_nil_of_length_eq_zero hn
    exact ⟨none, 0, rfl, Nat.le_refl _, hL, fun j hj => by simp at hj⟩
  · refine ⟨_, cap, rfl, h1, hL, fun j hj => ⟨_, rfl, (Array.getElem?_eq_some_iff.1 hgg).1, ?_⟩⟩
    have e : (⟨g, 0, none⟩ : Addr).add j = ⟨g, j, none⟩ := by unfold Addr.add; split <;> simp_all
    rw [e, h.cellAt j (by omega), List.getElem?_map, List.getElem?_eq_getElem hj, List.getD_eq_getElem?_getD, List.getElem?_eq_getElem hj]
    rfl
theorem Rd.all {B : Nat} {w : World} {q : Option Addr} {cq : Nat} {R : List Int} (h : Rd B w q cq R) (ad : Addr) (hq : q = some ad) : ∀ j u, (R.map (Value.int .u8))[j]? = some u → w.cell? (ad.add j) = some u := by
  intro j u hj
  have hjl : j < R.length := by
    rcases Nat.lt_or_ge j R.length with h' | h'
    · exact h'
    · rw [List.getElem?_eq_none (by simpa using h')] at hj; cases hj
  obtain ⟨a, ha, _, hc⟩ := h.2.2 j hjl
  obtain rfl : ad = a := by rw [hq] at ha; exact Option.some.inj ha
  rw [hc, ← hj, List.getElem?_map, List.getElem?_eq_getElem hjl, List.getD_eq_getElem?_getD, List.getElem?_eq_getElem hjl]
  rfl
theorem Rd.take {B : Nat} {w : World} {p : Option Addr} {c : Nat} {rs : List Int} (h : Rd B w p c rs) (m : Nat) : Rd B w p c (rs.take m) := by
  refine ⟨by have := h.1; simp; omega, fun x hx => h.2.1 x (List.mem_of_mem_take hx), fun j hj => ?_⟩
  simp only [List.length_take] at hj
  obtain ⟨a, ha, hb, hc⟩ := h.2.2 j (by omega)
  refine ⟨a, ha, hb, ?_⟩
  rw [hc, List.getD_eq_getElem?_getD, List.getD_eq_getElem?_getD, List.getElem?_take, if_pos (by omega)]
end Go.Proofs.YtegcgbjjpgjnmaaGreatDoor.Id
namespace Go.Proofs.YtegcgbjjpgjnmaaGreatDoor.Id
/-- The bits of a byte, the highest first. -/
def b8 (n : Int) : List Int := [n / 128 % 2, n / 64 % 2, n / 32 % 2, n / 16 % 2, n / 8 % 2, n / 4 % 2, n / 2 % 2, n % 2]
/-- The bits of a letter's number, the highest first. -/
def b6 (n : Int) : List Int := [n / 32 % 2, n / 16 % 2, n / 8 % 2, n / 4 % 2, n / 2 % 2, n % 2]
theorem take_snoc (zs : List Int) (k : Nat) (h : k < zs.length) : zs.take (k + 1) = zs.take k ++ [zs.getD k 0] := by
  rw [List.take_succ_eq_append_getElem h, List.getD_eq_getElem?_getD, List.getElem?_eq_getElem h]
  rfl
end Go.Proofs.YtegcgbjjpgjnmaaGreatDoor.Id
namespace Go.Proofs.YtegcgbjjpgjnmaaGreatDoor.Id
open Go.RowKit
theorem Tryz.info3 : (Tryz.prog.info? 3).map (fun i => (i.zero, i.size, i.bytes)) = some (some (.int .i64 0), 1, 8) := by kernel_rfl

theorem ret_str {a b : ByteArray} (h : a = b) : Ending.returned (.string a) = .returned (.string b) := by rw [h]

/-- One integer more at the end of a row of the call's own. -/
theorem wpList_push {w : World} {ops : Array Oper} {rest : List Oper} {o : Oper} {a : Act} {Q : Exit → Act → World → Prop} (hgd : o.guard = none) (s x : Operand) (t e : TypeId) (k : IntKind) (bytes : Nat)
    (ho : o.op = .call { callee := .builtin .append, args := #[s, x], argTypes := #[t, t] }) (ht : Tryz.prog.underlying t = some (.slice e))
    (hinfo : (Tryz.prog.info? e).map (fun i => (i.zero, i.size, i.bytes)) = some (some (.int k 0), 1, bytes)) (hby : bytes ≤ 8)
    (base : Nat) (v : Value) (L : List Int) (hs : a.eval s = v) (hown : w.ownsRow base e 1 v L.length (L.map (Value.int k)))
    (ad : Addr) (y : Int) (hx : a.eval x = .slice (some ad) 1 1) (hc : w.cell? ad = some (.int k y)) (hlen : L.length ≤ 1000000000) (hbase : base ≤ w.heap.size)
    (h : ∀ v' w', w'.ownsRow base e 1 v' (L ++ [y]).length ((L ++ [y]).map (Value.int k)) → Below base w w' → wpList Tryz.prog ops Q rest (a.put o.dst v') w') : wpList Tryz.prog ops Q (o :: rest) a w := by
  obtain ⟨i0, hi, hz0, hz1, hz2⟩ := info_parts hinfo
  refine wpList_append_own w hgd s x t ho base e i0 (.int k 0) 1 bytes ht hi hz0 hz1 hz2 rfl (by decide) v L.length (L.map (Value.int k)) hs hown ad 1 1 [.int k y] hx rfl (fun j u hj => ?_) (fun u hu => ?_) (by unfold maxLen; omega) ?_ hbase ?_
  · match j, hj with
    | 0, hj => simp at hj; subst hj; simpa [Addr.add] using hc
  · simp at hu; subst hu; rfl
  · have : (L.length + 1) * bytes ≤ (L.length + 1) * 8 := Nat.mul_le_mul_left _ hby
    omega
  · intro v' w' hown' hgrow _
    exact h v' w' (by rw [List.length_append, List.map_append]; exact hown') ((Below.refl _ _).grown hgrow hbase (own_base hown))

/-- Integers that are read at p. -/
def RdI (w : World) (p : Option Addr) (P : List Int) : Prop := ∀ j, j < P.length → ∃ g, p = some ⟨g, 0, none⟩ ∧ g < w.heap.size ∧ w.cell? ⟨g, j, none⟩ = some (.int .i64 (P.getD j 0))
theorem RdI.at {w w' : World} {q : Option Addr} {P : List Int} (h : RdI w q P) (hb : Below w.heap.size w w') (m : Nat) (hm : m < P.length) : ∃ g, q = some ⟨g, 0, none⟩ ∧ ∀ j x, m + j < P.length → P.getD (m + j) 0 = x → w'.cell? ⟨g, m + j, none⟩ = some (.int .i64 x) := by
  obtain ⟨g, ha, _, _⟩ := h m hm
  refine ⟨g, ha, fun j x hj hx => ?_⟩
  obtain ⟨g', ha', hB, hc⟩ := h (m + j) hj
  obtain rfl : g = g' := by rw [ha] at ha'; cases ha'; rfl
  rw [hb.cell (by exact hB), hc, hx]

end Go.Proofs.YtegcgbjjpgjnmaaGreatDoor.Id
namespace Go.Proofs.YtegcgbjjpgjnmaaGreatDoor.Id
open Go.RowKit
/-- An event's name: a sign and eleven letters that are bytes. -/
def evt (s : ByteArray) : Bool := decide (s.size = 12) && decide ((ints s).getD 0 0 = 36) && decide ((flt (ints (s.extract 1 s.size))).1 = 0)
theorem evt_size (s : ByteArray) (h : s.size ≠ 12) : evt s = false := by unfold evt; simp [h]
theorem evt_sign (s : ByteArray) (h : (ints s).getD 0 0 ≠ 36) : evt s = false := by
  unfold evt
  have : decide ((ints s).getD 0 0 = 36) = false := decide_eq_false h
  rw [this]; simp
theorem evt_bad (s : ByteArray) (h : (flt (ints (s.extract 1 s.size))).1 ≠ 0) : evt s = false := by
  unfold evt
  rw [decide_eq_false h]; simp
theorem evt_good (s : ByteArray) (h1 : s.size = 12) (h2 : (ints s).getD 0 0 = 36) (h3 : (flt (ints (s.extract 1 s.size))).1 = 0) : evt s = true := by
  unfold evt
  rw [decide_eq_true h1, decide_eq_true h2, decide_eq_true h3]; rfl
set_option maxHeartbeats 1000000 in
theorem event_any (s : ByteArray) (w : World) (hs : s.size ≤ 140737488351232) :
    Calls Tryz.prog 101 #[.string s] w fun e w' => e = .returned (.bool (evt s)) ∧ Below w.heap.size w w' := by
  by_cases hp : ∀ h : 0 < s.size, s[0] ≠ 36
  · have HE : Hid (evt s = false) := by
      by_cases h0 : s.size = 0
      · exact evt_size s (by omega)
      · refine evt_sign s ?_
        rw [ints_getD s 0 (by omega)]
        intro h
        exact hp (by omega) ((u8_int s[0] 36).1 h)
    go_enter Tryz.func101, Tryz.ntmps101
    go_wp2_with (go_at_call 125; refine (cutPrefix_no s 36 _ hs hp).mono ?_; rintro e w' ⟨rfl, rfl⟩)
    go_ret
    exact ⟨ret_bool HE.out.symm, Below.refl _ _⟩
  · obtain ⟨h0, hc⟩ : ∃ h : 0 < s.size, s[0] = 36 := by simpa using hp
    clear hp
    have HG : Hid ((ints s).getD 0 0 = 36) := by rw [ints_getD s 0 h0, hc]; rfl
    have hz : (s.extract 1 s.size).size = s.size - 1 := by simp
    obtain ⟨t, ht⟩ : ∃ t, t = s.extract 1 s.size := ⟨_, rfl⟩
    have hcut := fun wx : World => cutPrefix_yes s 36 wx hs h0 hc
    rw [← ht] at hz hcut
    have HT : Hid (t = s.extract 1 s.size) := ht
    clear ht
    by_cases h12 : s.size = 12
    · have hz11 : t.size = 11 := by omega
      have hz11' : (t.size : Int) = 11 := by omega
      by_cases hf : (flt (ints t)).1 = 0
      · have HE : Hid (evt s = true) := evt_good s h12 HG.out (by rw [← HT.out]; exact hf)
        go_enter Tryz.func101, Tryz.ntmps101
        go_wp2_with (first
          | (go_at_call 125; refine (hcut _).mono ?_; rintro e w' ⟨rfl, rfl⟩)
          | (go_at_call 126; refine (decode_good t _ (by omega) hf).mono ?_; rintro e w1 ⟨rfl, _, hb1⟩))
        go_ret
        exact ⟨ret_bool HE.out.symm, hb1⟩
      · have HE : Hid (evt s = false) := evt_bad s (by rw [← HT.out]; exact hf)
        have hfb : ((flt (ints t)).1 == 0) = false := by simp [hf]
        go_enter Tryz.func101, Tryz.ntmps101
        go_wp2_with (first
          | (go_at_call 125; refine (hcut _).mono ?_; rintro e w' ⟨rfl, rfl⟩)
          | (go_at_call 126; refine (decode_bad t _ (by omega) hf).mono ?_; rintro e w1 ⟨rfl, hb1⟩))
        go_ret
        exact ⟨ret_bool HE.out.symm, hb1⟩
    · have HE : Hid (evt s = false) := evt_size s h12
      have hn : ¬ (t.size : Int) = 11 := by omega
      have hnb : ((t.size : Int) != 11) = true := by simp [hn]
      go_enter Tryz.func101, Tryz.ntmps101
      go_wp2_with (go_at_call 125; refine (hcut _).mono ?_; rintro e w' ⟨rfl, rfl⟩)
      go_ret
      exact ⟨ret_bool HE.out.symm, Below.refl _ _⟩

end Go.Proofs.YtegcgbjjpgjnmaaGreatDoor.Id

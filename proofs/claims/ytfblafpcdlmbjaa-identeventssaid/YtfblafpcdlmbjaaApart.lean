/-
  Names taken apart: the program's own apart, User, Room and Home, by contracts.
-/
import Derived.Test.YtfblafpcdlmbjaaCut
namespace Go.Proofs.Ytfblafpcdlmbjaa
open Go.RowKit

/-- The three answers as one value. -/
def told (p : ByteArray × ByteArray × Bool) : Value := .tuple #[.string p.1, .string p.2.1, .bool p.2.2]
theorem ret_told {a b : ByteArray} {t : Bool} {p : ByteArray × ByteArray × Bool} (h : p = (a, b, t)) : Ending.returned (.tuple #[.string a, .string b, .bool t]) = .returned (told p) := by rw [h]; rfl
theorem u8_int (a c : UInt8) : (a.toNat : Int) = (c.toNat : Int) ↔ a = c := by
  constructor
  · intro h; exact UInt8.toNat_inj.1 (by omega)
  · intro h; rw [h]

set_option maxHeartbeats 1000000 in
theorem apart_any (s : ByteArray) (c : UInt8) (w : World) (hs : s.size ≤ 140737488351232) :
    Calls Try.prog 26 #[.string s, .string ⟨#[c]⟩] w fun e w' => e = .returned (told (parts (c.toNat : Int) s)) ∧ Below w.heap.size w w' := by
  by_cases hp : ∀ h : 0 < s.size, s[0] ≠ c
  · have HP : Hid (parts (c.toNat : Int) s = (nix, nix, false)) := by
      refine parts_other _ _ ?_
      by_cases h0 : s.size = 0
      · exact .inl h0
      · refine .inr (.inl ?_)
        rw [ints_getD s 0 (by omega), ne_eq, u8_int]
        exact hp (by omega)
    go_enter Try.func26, Try.ntmps26
    go_wp2_with (go_at_call 31; refine (cutPrefix_no s c _ hs hp).mono ?_; rintro e w' ⟨rfl, rfl⟩)
    go_ret3
    exact ⟨ret_told HP.out, Below.refl _ _⟩
  · obtain ⟨h0, hc⟩ : ∃ h : 0 < s.size, s[0] = c := by simpa using hp
    clear hp
    have hg : (ints s).getD 0 0 = (c.toNat : Int) := by rw [ints_getD s 0 h0, hc]
    have hsz : (s.extract 1 s.size).size ≤ 140737488351232 := by simp; omega
    have hii : (s.extract 1 s.size).data.toList.map (fun c => (c.toNat : Int)) = (ints s).drop 1 := ints_extract s 1
    rcases colon_cases s with ⟨k, h1, hk, hkc, hka⟩ | hno
    · have hi : Lib.indexByte (s.extract 1 s.size).data.toList 58 = ((k - 1 : Nat) : Int) := by
        refine idx_hit _ _ ?_ ?_ fun j hj => ?_
        · rw [← Lib.size_eq]; simp; omega
        · rw [hii, getD_drop1, Nat.sub_add_cancel h1]; exact hkc
        · rw [hii, getD_drop1]; exact hka (j + 1) (by omega) (by omega)
      have hcut := fun wx : World => cut_yes (s.extract 1 s.size) (k - 1) wx hsz (by simp; omega) hi
      rw [cut_name s k h1 (by omega), Nat.sub_add_cancel h1, cut_server s k] at hcut
      have HP : Hid (parts (c.toNat : Int) s = if loc (s.extract 1 k) = true ∧ srv (s.extract (k + 1) s.size) = true then (s.extract 1 k, s.extract (k + 1) s.size, true) else (nix, nix, false)) := parts_hit _ s k hg h1 hk hkc hka
      have hl1 : (s.extract 1 k).size ≤ 140737488351232 := by simp; omega
      have hl2 : (s.extract (k + 1) s.size).size ≤ 140737488351232 := by simp; omega
      obtain ⟨t1, ht1⟩ : ∃ t, t = s.extract 1 k := ⟨_, rfl⟩
      obtain ⟨t2, ht2⟩ : ∃ t, t = s.extract (k + 1) s.size := ⟨_, rfl⟩
      rw [← ht1, ← ht2] at HP hcut
      rw [← ht1] at hl1
      rw [← ht2] at hl2
      clear ht1 ht2 hi hii hka hkc
      by_cases hL : loc t1 = true
      · by_cases hS : srv t2 = true
        · go_enter Try.func26, Try.ntmps26
          go_wp2_with (first
            | (go_at_call 31; refine (cutPrefix_yes s c _ hs h0 hc).mono ?_; rintro e w' ⟨rfl, rfl⟩)
            | (go_at_call 37; refine (hcut _).mono ?_; rintro e w1 ⟨rfl, hb1⟩)
            | (go_at_call 38; refine (local_any t1 _ hl1).mono ?_; rintro e w2 ⟨rfl, hb2⟩)
            | (go_at_call 14; refine (server_any t2 _ hl2).mono ?_; rintro e w3 ⟨rfl, hb3⟩))
          go_ret3
          have c2 := hb1.trans (hb2.mono hb1.size)
          exact ⟨ret_told (by rw [HP.out, if_pos ⟨hL, hS⟩]), c2.trans (hb3.mono c2.size)⟩
        · have hS' : srv t2 = false := by simpa using hS
          go_enter Try.func26, Try.ntmps26
          go_wp2_with (first
            | (go_at_call 31; refine (cutPrefix_yes s c _ hs h0 hc).mono ?_; rintro e w' ⟨rfl, rfl⟩)
            | (go_at_call 37; refine (hcut _).mono ?_; rintro e w1 ⟨rfl, hb1⟩)
            | (go_at_call 38; refine (local_any t1 _ hl1).mono ?_; rintro e w2 ⟨rfl, hb2⟩)
            | (go_at_call 14; refine (server_any t2 _ hl2).mono ?_; rintro e w3 ⟨rfl, hb3⟩))
          go_ret3
          have c2 := hb1.trans (hb2.mono hb1.size)
          exact ⟨ret_told (by rw [HP.out, if_neg (by simp [hS'])]; rfl), c2.trans (hb3.mono c2.size)⟩
      · have hL' : loc t1 = false := by simpa using hL
        clear hL
        go_enter Try.func26, Try.ntmps26
        go_wp2_with (first
          | (go_at_call 31; refine (cutPrefix_yes s c _ hs h0 hc).mono ?_; rintro e w' ⟨rfl, rfl⟩)
          | (go_at_call 37; refine (hcut _).mono ?_; rintro e w1 ⟨rfl, hb1⟩)
          | (go_at_call 38; refine (local_any t1 _ hl1).mono ?_; rintro e w2 ⟨rfl, hb2⟩))
        go_ret3
        exact ⟨ret_told (by rw [HP.out, if_neg (by simp [hL'])]; rfl), hb1.trans (hb2.mono hb1.size)⟩
    · have hi : Lib.indexByte (s.extract 1 s.size).data.toList 58 = -1 := by
        refine idx_miss _ fun j hj => ?_
        rw [← Lib.size_eq] at hj
        simp at hj
        rw [hii, getD_drop1]; exact hno (j + 1) (by omega) (by omega)
      have HP : Hid (parts (c.toNat : Int) s = (nix, nix, false)) := parts_other _ _ (.inr (.inr hno))
      have hcut := fun wx : World => cut_no (s.extract 1 s.size) wx hi
      go_enter Try.func26, Try.ntmps26
      go_wp2_with (first
        | (go_at_call 31; refine (cutPrefix_yes s c _ hs h0 hc).mono ?_; rintro e w' ⟨rfl, rfl⟩)
        | (go_at_call 37; refine (hcut _).mono ?_; rintro e w1 ⟨rfl, hb1⟩))
      go_ret3
      exact ⟨ret_told HP.out, hb1⟩

set_option maxHeartbeats 1000000 in
theorem user_any (s : ByteArray) (w : World) (hs : s.size ≤ 140737488351232) :
    Calls Try.prog 9 #[.string s] w fun e w' => e = .returned (told (parts 64 s)) ∧ Below w.heap.size w w' := by
  go_enter Try.func9, Try.ntmps9
  go_wp2_with (go_at_call 26; refine (apart_any s 64 _ hs).mono ?_; rintro e w1 ⟨rfl, hb1⟩; unfold told)
  go_ret3
  exact ⟨rfl, hb1⟩
set_option maxHeartbeats 1000000 in
theorem room_any (s : ByteArray) (w : World) (hs : s.size ≤ 140737488351232) :
    Calls Try.prog 11 #[.string s] w fun e w' => e = .returned (told (parts 33 s)) ∧ Below w.heap.size w w' := by
  go_enter Try.func11, Try.ntmps11
  go_wp2_with (go_at_call 26; refine (apart_any s 33 _ hs).mono ?_; rintro e w1 ⟨rfl, hb1⟩; unfold told)
  go_ret3
  exact ⟨rfl, hb1⟩
end Go.Proofs.Ytfblafpcdlmbjaa

/-
  strings.CutPrefix and strings.Cut at one sign, by contracts.
  Names taken apart: the program's own apart, User, Room and Home, by contracts.
  Servers' names, local names and types, as the document answers: by contracts.
  Names taken apart as the document answers, by contracts; and where a name is at home.
  spread and gather of base, by their contracts.
  spare and fault of base, by their contracts.
  A slice of bytes as it is read, and what a cut of it is.
  A copy out of a text into a row that the call itself made.
  base.Decode, by its contract: the bytes of letters, or the first error and its place.
  Letters and bytes are one thing: enc and dec are each other's inverse, and enc goes along with rows of threes.
  The statements of layer 2 that need no answer of the document's, walked: each returns true, and turns nothing that was there.
  The document's answer, bit by bit, as plain functions on lists, and that it tells the same letters and bytes.
  The document's answer of layer 2, walked: bits, letter, Encode.
  The document's answer of layer 2, walked: number, Decode.
  Events' names: the program's own answer and the document's, by contracts.
  Events: what they have, how they lie in memory, and what is told of them.
  A value written, by a contract: to the depth that may be.
-/
import Derived.Test.YtnngalkdjgjmbaaGreatPR04
import Derived.BigRegion
import Derived.RegionTactic
import Derived.Laws.CopyOwn
import Derived.Lib.ValidU
import Derived.Lib.ItoaLen
set_option maxRecDepth 100000
set_option maxHeartbeats 16000000
namespace Go.Proofs.YtnngalkdjgjmbaaGreat.Id
open Go.RowKit
theorem below_drewN (w : World) : ∀ n, Below w.heap.size w (w.drewN n)
 | 0 => by rw [World.drewN_zero]; exact Below.refl _ _
 | n + 1 => by rw [← World.drew_drewN]; exact (below_drewN w n).drew
theorem take_one' (l : List UInt8) (h : 0 < l.length) : l.take 1 = [l[0]] := by
 cases l with
 | nil => simp at h
 | cons a l => simp
theorem one_head (s : ByteArray) (h : 0 < s.size) : (s.extract 0 1).toList = [s[0]] := by
 rw [Lib.toList_data, ByteArray.data_extract, Array.toList_extract]
 simp only [List.extract_eq_take_drop, List.drop_zero, Nat.sub_zero]
 rw [take_one' _ (by simpa using h)]
 simp [ByteArray.getElem_eq_getElem_data]
theorem hasPrefix_yes (s : ByteArray) (c : UInt8) (w : World) (hs : s.size ≤ 140737488351232) (h : 0 < s.size) (hc : s[0] = c) :
    Calls Tryz.prog 94 #[.string s, .string ⟨#[c]⟩] w fun e w' => e = .returned (.bool true) ∧ w = w' := by
 have h1 : ((s.extract 0 1).toList == [c]) = true := by rw [one_head s h, hc]; simp
 go_enter Tryz.func94, Tryz.ntmps94
 go_wp2
 go_ret
 exact ⟨rfl, rfl⟩
theorem hasPrefix_no (s : ByteArray) (c : UInt8) (w : World) (hs : s.size ≤ 140737488351232) (h : ∀ h : 0 < s.size, s[0] ≠ c) :
    Calls Tryz.prog 94 #[.string s, .string ⟨#[c]⟩] w fun e w' => e = .returned (.bool false) ∧ w = w' := by
 by_cases h0 : 0 < s.size
 · have h1 : ((s.extract 0 1).toList == [c]) = false := by rw [one_head s h0]; simp [h h0]
   go_enter Tryz.func94, Tryz.ntmps94
   go_wp2
   go_ret
   exact ⟨rfl, rfl⟩
 · go_enter Tryz.func94, Tryz.ntmps94
   go_wp2
   go_ret
   exact ⟨rfl, rfl⟩
theorem liteCutPrefix_yes (s : ByteArray) (c : UInt8) (w : World) (hs : s.size ≤ 140737488351232) (h : 0 < s.size) (hc : s[0] = c) :
    Calls Tryz.prog 87 #[.string s, .string ⟨#[c]⟩] w fun e w' => e = .returned (.tuple #[.string (s.extract 1 s.size), .bool true]) ∧ w = w' := by
 go_enter Tryz.func87, Tryz.ntmps87
 go_wp2_with (go_at_call 94; refine (hasPrefix_yes s c _ hs h hc).mono ?_; rintro e w' ⟨rfl, rfl⟩)
 go_ret2
 exact ⟨rfl, rfl⟩
theorem liteCutPrefix_no (s : ByteArray) (c : UInt8) (w : World) (hs : s.size ≤ 140737488351232) (h : ∀ h : 0 < s.size, s[0] ≠ c) :
    Calls Tryz.prog 87 #[.string s, .string ⟨#[c]⟩] w fun e w' => e = .returned (.tuple #[.string s, .bool false]) ∧ w = w' := by
 go_enter Tryz.func87, Tryz.ntmps87
 go_wp2_with (go_at_call 94; refine (hasPrefix_no s c _ hs h).mono ?_; rintro e w' ⟨rfl, rfl⟩)
 go_ret2
 exact ⟨rfl, rfl⟩
theorem cutPrefix_yes (s : ByteArray) (c : UInt8) (w : World) (hs : s.size ≤ 140737488351232) (h : 0 < s.size) (hc : s[0] = c) :
    Calls Tryz.prog 77 #[.string s, .string ⟨#[c]⟩] w fun e w' => e = .returned (.tuple #[.string (s.extract 1 s.size), .bool true]) ∧ w = w' := by
 go_enter Tryz.func77, Tryz.ntmps77
 go_wp2_with (go_at_call 87; refine (liteCutPrefix_yes s c _ hs h hc).mono ?_; rintro e w' ⟨rfl, rfl⟩)
 go_ret2
 exact ⟨rfl, rfl⟩
theorem cutPrefix_no (s : ByteArray) (c : UInt8) (w : World) (hs : s.size ≤ 140737488351232) (h : ∀ h : 0 < s.size, s[0] ≠ c) :
    Calls Tryz.prog 77 #[.string s, .string ⟨#[c]⟩] w fun e w' => e = .returned (.tuple #[.string s, .bool false]) ∧ w = w' := by
 go_enter Tryz.func77, Tryz.ntmps77
 go_wp2_with (go_at_call 87; refine (liteCutPrefix_no s c _ hs h).mono ?_; rintro e w' ⟨rfl, rfl⟩)
 go_ret2
 exact ⟨rfl, rfl⟩
theorem index_one (s : ByteArray) (w : World) :
    Calls Tryz.prog 95 #[.string s, .string ⟨#[58]⟩] w fun e w' => e = .returned (.int .i64 (Lib.indexByte s.data.toList 58)) ∧ w = w' := by
 go_enter Tryz.func95, Tryz.ntmps95
 go_wp2_with (go_at_call 81; refine (liteIndexByte_any _ _ _).mono ?_; rintro e w' ⟨rfl, rfl⟩)
 · have h : ([58] == s.toList) = true := by assumption
   go_ret
   refine ⟨?_, rfl⟩
   have e : s.data.toList = [58] := by rw [← Lib.toList_data]; exact (beq_iff_eq.1 h).symm
   rw [e]
   simp [Lib.indexByte]
 · go_ret
   exact ⟨rfl, rfl⟩
theorem liteCut_no (t : ByteArray) (w : World) (hi : Lib.indexByte t.data.toList 58 = -1) :
    Calls Tryz.prog 88 #[.string t, .string ⟨#[58]⟩] w fun e w' => e = .returned (.tuple #[.string t, .string ⟨#[]⟩, .bool false]) ∧ Below w.heap.size w w' := by
 go_enter Tryz.func88, Tryz.ntmps88
 go_wp2_with (go_at_call 95; refine (index_one t _).mono ?_; rw [hi]; rintro e w' ⟨rfl, rfl⟩)
 go_ret3
 exact ⟨rfl, Below.refl _ _⟩
theorem cut_no (t : ByteArray) (w : World) (hi : Lib.indexByte t.data.toList 58 = -1) :
    Calls Tryz.prog 78 #[.string t, .string ⟨#[58]⟩] w fun e w' => e = .returned (.tuple #[.string t, .string ⟨#[]⟩, .bool false]) ∧ Below w.heap.size w w' := by
 go_enter Tryz.func78, Tryz.ntmps78
 go_wp2_with (go_at_call 88; refine (liteCut_no t _ hi).mono ?_; rintro e w' ⟨rfl, hb⟩)
 go_ret3
 exact ⟨rfl, hb⟩
theorem liteCut_yes (t : ByteArray) (k : Nat) (w : World) (hs : t.size ≤ 140737488351232) (hk : k < t.size) (hi : Lib.indexByte t.data.toList 58 = k) :
    Calls Tryz.prog 88 #[.string t, .string ⟨#[58]⟩] w fun e w' => e = .returned (.tuple #[.string (t.extract 0 k), .string (t.extract (k + 1) t.size), .bool true]) ∧ Below w.heap.size w w' := by
 go_enter Tryz.func88, Tryz.ntmps88
 go_wp2_with (go_at_call 95; refine (index_one t _).mono ?_; rw [hi]; rintro e w' ⟨rfl, rfl⟩)
 go_quiet (fail)
 go_wp2
 go_ret3
 exact ⟨rfl, below_drewN _ _⟩
theorem cut_yes (t : ByteArray) (k : Nat) (w : World) (hs : t.size ≤ 140737488351232) (hk : k < t.size) (hi : Lib.indexByte t.data.toList 58 = k) :
    Calls Tryz.prog 78 #[.string t, .string ⟨#[58]⟩] w fun e w' => e = .returned (.tuple #[.string (t.extract 0 k), .string (t.extract (k + 1) t.size), .bool true]) ∧ Below w.heap.size w w' := by
 go_enter Tryz.func78, Tryz.ntmps78
 go_wp2_with (go_at_call 88; refine (liteCut_yes t k _ hs hk hi).mono ?_; rintro e w' ⟨rfl, hb⟩)
 go_ret3
 exact ⟨rfl, hb⟩
def told (p : ByteArray × ByteArray × Bool) : Value := .tuple #[.string p.1, .string p.2.1, .bool p.2.2]
theorem ret_told {a b : ByteArray} {t : Bool} {p : ByteArray × ByteArray × Bool} (h : p = (a, b, t)) : Ending.returned (.tuple #[.string a, .string b, .bool t]) = .returned (told p) := by rw [h]; rfl
theorem u8_int (a c : UInt8) : (a.toNat : Int) = (c.toNat : Int) ↔ a = c := by
 constructor
 · intro h; exact UInt8.toNat_inj.1 (by omega)
 · intro h; rw [h]
theorem apart_any (s : ByteArray) (c : UInt8) (w : World) (hs : s.size ≤ 140737488351232) :
    Calls Tryz.prog 64 #[.string s, .string ⟨#[c]⟩] w fun e w' => e = .returned (told (parts (c.toNat : Int) s)) ∧ Below w.heap.size w w' := by
 by_cases hp : ∀ h : 0 < s.size, s[0] ≠ c
 · have HP : Hid (parts (c.toNat : Int) s = (nix, nix, false)) := by
     refine parts_other _ _ ?_
     by_cases h0 : s.size = 0
     · exact .inl h0
     · refine .inr (.inl ?_)
       rw [ints_getD s 0 (by omega), ne_eq, u8_int]
       exact hp (by omega)
   go_enter Tryz.func64, Tryz.ntmps64
   go_wp2_with (go_at_call 77; refine (cutPrefix_no s c _ hs hp).mono ?_; rintro e w' ⟨rfl, rfl⟩)
   go_ret3
   exact ⟨ret_told HP.out, Below.refl _ _⟩
 · obtain ⟨h0, hc⟩ : ∃ h : 0 < s.size, s[0] = c := by simpa using hp
   clear hp
   have hg : (ints s).getD 0 0 = (c.toNat : Int) := by rw [ints_getD s 0 h0, hc]
   have hsz : (s.extract 1 s.size).size ≤ 140737488351232 := by simp; omega
   have hii : (s.extract 1 s.size).data.toList.map (fun c => (c.toNat : Int)) = (ints s).drop 1 := ints_extract s 1
   rcases colon_cases s with ⟨k, h1, hk, hkc, hka⟩ | hno
   · have hi : Lib.indexByte (s.extract 1 s.size).data.toList 58 = ((k - 1 : Nat) : Int) := by
       refine idx_hit _ _ ?_ ?_ fun j hj => ?_
       · rw [← Lib.size_eq]; simp; omega
       · rw [hii, getD_drop1, Nat.sub_add_cancel h1]; exact hkc
       · rw [hii, getD_drop1]; exact hka (j + 1) (by omega) (by omega)
     have hcut := fun wx : World => cut_yes (s.extract 1 s.size) (k - 1) wx hsz (by simp; omega) hi
     rw [cut_name s k h1 (by omega), Nat.sub_add_cancel h1, cut_server s k] at hcut
     have HP : Hid (parts (c.toNat : Int) s = if loc (s.extract 1 k) = true ∧ srv (s.extract (k + 1) s.size) = true then (s.extract 1 k, s.extract (k + 1) s.size, true) else (nix, nix, false)) := parts_hit _ s k hg h1 hk hkc hka
     have hl1 : (s.extract 1 k).size ≤ 140737488351232 := by simp; omega
     have hl2 : (s.extract (k + 1) s.size).size ≤ 140737488351232 := by simp; omega
     obtain ⟨t1, ht1⟩ : ∃ t, t = s.extract 1 k := ⟨_, rfl⟩
     obtain ⟨t2, ht2⟩ : ∃ t, t = s.extract (k + 1) s.size := ⟨_, rfl⟩
     rw [← ht1, ← ht2] at HP hcut
     rw [← ht1] at hl1
     rw [← ht2] at hl2
     clear ht1 ht2 hi hii hka hkc
     by_cases hL : loc t1 = true
     · by_cases hS : srv t2 = true
       · go_enter Tryz.func64, Tryz.ntmps64
         go_wp2_with (first
          | (go_at_call 77; refine (cutPrefix_yes s c _ hs h0 hc).mono ?_; rintro e w' ⟨rfl, rfl⟩)
          | (go_at_call 78; refine (hcut _).mono ?_; rintro e w1 ⟨rfl, hb1⟩)
          | (go_at_call 79; refine (local_any t1 _ hl1).mono ?_; rintro e w2 ⟨rfl, hb2⟩)
          | (go_at_call 80; refine (server_any t2 _ hl2).mono ?_; rintro e w3 ⟨rfl, hb3⟩))
         go_ret3
         have c2 := hb1.trans (hb2.mono hb1.size)
         exact ⟨ret_told (by rw [HP.out, if_pos ⟨hL, hS⟩]), c2.trans (hb3.mono c2.size)⟩
       · have hS' : srv t2 = false := by simpa using hS
         go_enter Tryz.func64, Tryz.ntmps64
         go_wp2_with (first
          | (go_at_call 77; refine (cutPrefix_yes s c _ hs h0 hc).mono ?_; rintro e w' ⟨rfl, rfl⟩)
          | (go_at_call 78; refine (hcut _).mono ?_; rintro e w1 ⟨rfl, hb1⟩)
          | (go_at_call 79; refine (local_any t1 _ hl1).mono ?_; rintro e w2 ⟨rfl, hb2⟩)
          | (go_at_call 80; refine (server_any t2 _ hl2).mono ?_; rintro e w3 ⟨rfl, hb3⟩))
         go_ret3
         have c2 := hb1.trans (hb2.mono hb1.size)
         exact ⟨ret_told (by rw [HP.out, if_neg (by simp [hS'])]; rfl), c2.trans (hb3.mono c2.size)⟩
     · have hL' : loc t1 = false := by simpa using hL
       clear hL
       go_enter Tryz.func64, Tryz.ntmps64
       go_wp2_with (first
        | (go_at_call 77; refine (cutPrefix_yes s c _ hs h0 hc).mono ?_; rintro e w' ⟨rfl, rfl⟩)
        | (go_at_call 78; refine (hcut _).mono ?_; rintro e w1 ⟨rfl, hb1⟩)
        | (go_at_call 79; refine (local_any t1 _ hl1).mono ?_; rintro e w2 ⟨rfl, hb2⟩))
       go_ret3
       exact ⟨ret_told (by rw [HP.out, if_neg (by simp [hL'])]; rfl), hb1.trans (hb2.mono hb1.size)⟩
   · have hi : Lib.indexByte (s.extract 1 s.size).data.toList 58 = -1 := by
       refine idx_miss _ fun j hj => ?_
       rw [← Lib.size_eq] at hj
       simp at hj
       rw [hii, getD_drop1]; exact hno (j + 1) (by omega) (by omega)
     have HP : Hid (parts (c.toNat : Int) s = (nix, nix, false)) := parts_other _ _ (.inr (.inr hno))
     have hcut := fun wx : World => cut_no (s.extract 1 s.size) wx hi
     go_enter Tryz.func64, Tryz.ntmps64
     go_wp2_with (first
      | (go_at_call 77; refine (cutPrefix_yes s c _ hs h0 hc).mono ?_; rintro e w' ⟨rfl, rfl⟩)
      | (go_at_call 78; refine (hcut _).mono ?_; rintro e w1 ⟨rfl, hb1⟩))
     go_ret3
     exact ⟨ret_told HP.out, hb1⟩
theorem user_any (s : ByteArray) (w : World) (hs : s.size ≤ 140737488351232) :
    Calls Tryz.prog 50 #[.string s] w fun e w' => e = .returned (told (parts 64 s)) ∧ Below w.heap.size w w' := by
 go_enter Tryz.func50, Tryz.ntmps50
 go_wp2_with (go_at_call 64; refine (apart_any s 64 _ hs).mono ?_; rintro e w1 ⟨rfl, hb1⟩; unfold told)
 go_ret3
 exact ⟨rfl, hb1⟩
theorem refServer_any (s : ByteArray) (w : World) (hs : s.size ≤ 140737488351232) :
    Calls Tryz.prog 39 #[.string s] w fun e w' => e = .returned (.bool (srv s)) ∧ w = w' := by
 unfold srv
 by_cases he : s.size = 0
 · have he' : (s.size : Int) = 0 := by omega
   go_enter Tryz.func39, Tryz.ntmps39
   go_wp2
   go_ret
   exact ⟨ret_bool (okText_none _ _ _ he).symm, rfl⟩
 by_cases hm : 32 < (s.size : Int)
 · go_enter Tryz.func39, Tryz.ntmps39
   go_wp2
   go_ret
   exact ⟨ret_bool (okText_long _ _ _ hm).symm, rfl⟩
 go_enter Tryz.func39, Tryz.ntmps39
 go_wp2
 go_loop [3] (fun i => ∃ k : Nat, k ≤ s.size ∧ i = .int .i64 k ∧ ∀ j, j < k → kSrv ((ints s).getD j 0) = true) (fun i => s.size - (intOf i).toNat)
 case atStart => exact ⟨0, Nat.zero_le _, rfl, fun j hj => by omega⟩
 case round =>
  obtain ⟨k, hk, rfl, hall⟩ := hrel
  have HA : Hid (∀ j, j < k → kSrv ((ints s).getD j 0) = true) := hall
  clear hall
  by_cases hlt : k < s.size
  · have HG : Hid ((ints s).getD k 0 = (s[k].toNat : Int)) := ints_getD s k hlt
    have hb1 : (s[k].toNat : Int) ≤ 255 := by have := s[k].toNat_lt; omega
    by_cases h0 : small (s[k].toNat : Int) = true
    · have HB : Hid (kSrv ((ints s).getD k 0) = true) := by rw [HG.out]; unfold kSrv; simp [h0]; exact trivial
      go_wp2_with (go_at_call 35; refine (small_any _ _).mono ?_; rintro e w' ⟨rfl, rfl⟩)
      go_round
      case rel => exact ⟨k + 1, by omega, by go_num, fun j hj => by
                            by_cases e : j = k
                            · rw [e]; exact HB.out
                            · exact HA.out j (by omega)⟩
      case measure => simp [intOf]; omega
    have h0' : small (s[k].toNat : Int) = false := by simpa using h0
    clear h0
    by_cases h45 : (s[k].toNat : Int) = 45
    · have HB : Hid (kSrv ((ints s).getD k 0) = true) := by rw [HG.out]; unfold kSrv; simp [h45]; exact trivial
      go_wp2_with (go_at_call 35; refine (small_any _ _).mono ?_; rintro e w' ⟨rfl, rfl⟩)
      go_round
      case rel => exact ⟨k + 1, by omega, by go_num, fun j hj => by
                            by_cases e : j = k
                            · rw [e]; exact HB.out
                            · exact HA.out j (by omega)⟩
      case measure => simp [intOf]; omega
    have HB : Hid (kSrv ((ints s).getD k 0) = false) := by rw [HG.out]; unfold kSrv; simp [h0', h45]; exact trivial
    go_wp2_with (go_at_call 35; refine (small_any _ _).mono ?_; rintro e w' ⟨rfl, rfl⟩)
    go_ret
    exact ⟨ret_bool (okText_bad _ _ _ k hlt HB.out).symm, rfl⟩
  · obtain rfl : k = s.size := by omega
    go_wp2
    go_ret
    exact ⟨ret_bool (okText_all _ _ _ (by omega) (by omega) HA.out).symm, rfl⟩
theorem refLocal_any (s : ByteArray) (w : World) (hs : s.size ≤ 140737488351232) :
    Calls Tryz.prog 54 #[.string s] w fun e w' => e = .returned (.bool (loc s)) ∧ w = w' := by
 unfold loc
 by_cases he : s.size = 0
 · have he' : (s.size : Int) = 0 := by omega
   go_enter Tryz.func54, Tryz.ntmps54
   go_wp2
   go_ret
   exact ⟨ret_bool (okText_none _ _ _ he).symm, rfl⟩
 by_cases hm : 32 < (s.size : Int)
 · go_enter Tryz.func54, Tryz.ntmps54
   go_wp2
   go_ret
   exact ⟨ret_bool (okText_long _ _ _ hm).symm, rfl⟩
 go_enter Tryz.func54, Tryz.ntmps54
 go_wp2
 go_loop [3] (fun i => ∃ k : Nat, k ≤ s.size ∧ i = .int .i64 k ∧ ∀ j, j < k → kLoc ((ints s).getD j 0) = true) (fun i => s.size - (intOf i).toNat)
 case atStart => exact ⟨0, Nat.zero_le _, rfl, fun j hj => by omega⟩
 case round =>
  obtain ⟨k, hk, rfl, hall⟩ := hrel
  have HA : Hid (∀ j, j < k → kLoc ((ints s).getD j 0) = true) := hall
  clear hall
  by_cases hlt : k < s.size
  · have HG : Hid ((ints s).getD k 0 = (s[k].toNat : Int)) := ints_getD s k hlt
    have hb1 : (s[k].toNat : Int) ≤ 255 := by have := s[k].toNat_lt; omega
    by_cases h0 : small (s[k].toNat : Int) = true
    · have HB : Hid (kLoc ((ints s).getD k 0) = true) := by rw [HG.out]; unfold kLoc; simp [h0]; exact trivial
      go_wp2_with (go_at_call 35; refine (small_any _ _).mono ?_; rintro e w' ⟨rfl, rfl⟩)
      go_round
      case rel => exact ⟨k + 1, by omega, by go_num, fun j hj => by
                            by_cases e : j = k
                            · rw [e]; exact HB.out
                            · exact HA.out j (by omega)⟩
      case measure => simp [intOf]; omega
    have h0' : small (s[k].toNat : Int) = false := by simpa using h0
    clear h0
    by_cases h45 : (s[k].toNat : Int) = 45
    · have HB : Hid (kLoc ((ints s).getD k 0) = true) := by rw [HG.out]; unfold kLoc; simp [h45]; exact trivial
      go_wp2_with (go_at_call 35; refine (small_any _ _).mono ?_; rintro e w' ⟨rfl, rfl⟩)
      go_round
      case rel => exact ⟨k + 1, by omega, by go_num, fun j hj => by
                            by_cases e : j = k
                            · rw [e]; exact HB.out
                            · exact HA.out j (by omega)⟩
      case measure => simp [intOf]; omega
    by_cases h95 : (s[k].toNat : Int) = 95
    · have HB : Hid (kLoc ((ints s).getD k 0) = true) := by rw [HG.out]; unfold kLoc; simp [h95]; exact trivial
      go_wp2_with (go_at_call 35; refine (small_any _ _).mono ?_; rintro e w' ⟨rfl, rfl⟩)
      go_round
      case rel => exact ⟨k + 1, by omega, by go_num, fun j hj => by
                            by_cases e : j = k
                            · rw [e]; exact HB.out
                            · exact HA.out j (by omega)⟩
      case measure => simp [intOf]; omega
    have HB : Hid (kLoc ((ints s).getD k 0) = false) := by rw [HG.out]; unfold kLoc; simp [h0', h45, h95]; exact trivial
    have b45 : ((s[k].toNat : Int) != 45) = true := by simp [h45]
    have b95 : ((s[k].toNat : Int) != 95) = true := by simp [h95]
    go_wp2_with (go_at_call 35; refine (small_any _ _).mono ?_; rintro e w' ⟨rfl, rfl⟩)
    go_ret
    exact ⟨ret_bool (okText_bad _ _ _ k hlt HB.out).symm, rfl⟩
  · obtain rfl : k = s.size := by omega
    go_wp2
    go_ret
    exact ⟨ret_bool (okText_all _ _ _ (by omega) (by omega) HA.out).symm, rfl⟩
theorem refType_any (s : ByteArray) (w : World) (hs : s.size ≤ 140737488351232) :
    Calls Tryz.prog 12 #[.string s] w fun e w' => e = .returned (.bool (typ s)) ∧ w = w' := by
 unfold typ
 by_cases he : s.size = 0
 · have he' : (s.size : Int) = 0 := by omega
   go_enter Tryz.func12, Tryz.ntmps12
   go_wp2
   go_ret
   exact ⟨ret_bool (okText_none _ _ _ he).symm, rfl⟩
 by_cases hm : 64 < (s.size : Int)
 · go_enter Tryz.func12, Tryz.ntmps12
   go_wp2
   go_ret
   exact ⟨ret_bool (okText_long _ _ _ hm).symm, rfl⟩
 go_enter Tryz.func12, Tryz.ntmps12
 go_wp2
 go_loop [3] (fun i => ∃ k : Nat, k ≤ s.size ∧ i = .int .i64 k ∧ ∀ j, j < k → kTyp ((ints s).getD j 0) = true) (fun i => s.size - (intOf i).toNat)
 case atStart => exact ⟨0, Nat.zero_le _, rfl, fun j hj => by omega⟩
 case round =>
  obtain ⟨k, hk, rfl, hall⟩ := hrel
  have HA : Hid (∀ j, j < k → kTyp ((ints s).getD j 0) = true) := hall
  clear hall
  by_cases hlt : k < s.size
  · have HG : Hid ((ints s).getD k 0 = (s[k].toNat : Int)) := ints_getD s k hlt
    have hb1 : (s[k].toNat : Int) ≤ 255 := by have := s[k].toNat_lt; omega
    by_cases h0 : small (s[k].toNat : Int) = true
    · have HB : Hid (kTyp ((ints s).getD k 0) = true) := by rw [HG.out]; unfold kTyp; simp [h0]; exact trivial
      go_wp2_with (go_at_call 35; refine (small_any _ _).mono ?_; rintro e w' ⟨rfl, rfl⟩)
      go_round
      case rel => exact ⟨k + 1, by omega, by go_num, fun j hj => by
                            by_cases e : j = k
                            · rw [e]; exact HB.out
                            · exact HA.out j (by omega)⟩
      case measure => simp [intOf]; omega
    have h0' : small (s[k].toNat : Int) = false := by simpa using h0
    clear h0
    by_cases h95 : (s[k].toNat : Int) = 95
    · have HB : Hid (kTyp ((ints s).getD k 0) = true) := by rw [HG.out]; unfold kTyp; simp [h95]; exact trivial
      go_wp2_with (go_at_call 35; refine (small_any _ _).mono ?_; rintro e w' ⟨rfl, rfl⟩)
      go_round
      case rel => exact ⟨k + 1, by omega, by go_num, fun j hj => by
                            by_cases e : j = k
                            · rw [e]; exact HB.out
                            · exact HA.out j (by omega)⟩
      case measure => simp [intOf]; omega
    have HB : Hid (kTyp ((ints s).getD k 0) = false) := by rw [HG.out]; unfold kTyp; simp [h0', h95]; exact trivial
    go_wp2_with (go_at_call 35; refine (small_any _ _).mono ?_; rintro e w' ⟨rfl, rfl⟩)
    go_ret
    exact ⟨ret_bool (okText_bad _ _ _ k hlt HB.out).symm, rfl⟩
  · obtain rfl : k = s.size := by omega
    go_wp2
    go_ret
    exact ⟨ret_bool (okText_all _ _ _ (by omega) (by omega) HA.out).symm, rfl⟩
theorem refParts_any (s : ByteArray) (c : Int) (w : World) (hs : s.size ≤ 1000000000) :
    Calls Tryz.prog 34 #[.int .u8 c, .string s] w fun e w' => e = .returned (told (parts c s)) ∧ Below w.heap.size w w' := by
 go_enter Tryz.func34, Tryz.ntmps34
 go_wp2
 go_loop [7] (fun i => ∃ k : Nat, 1 ≤ k ∧ (k ≤ s.size ∨ k = 1) ∧ i = .int .i64 k ∧ ∀ j, 1 ≤ j → j < k → (ints s).getD j 0 ≠ 58) (fun i => s.size - (intOf i).toNat)
 case atStart => exact ⟨1, Nat.le_refl _, .inr rfl, rfl, fun j h1 h2 => by omega⟩
 case round =>
  obtain ⟨k, h1, hk, rfl, hall⟩ := hrel
  have HA : Hid (∀ j, 1 ≤ j → j < k → (ints s).getD j 0 ≠ 58) := hall
  clear hall
  by_cases hlt : k < s.size
  · have h0 : 0 < s.size := by omega
    have HG0 : Hid ((ints s).getD 0 0 = (s[0].toNat : Int)) := ints_getD s 0 h0
    by_cases hc : (s[0].toNat : Int) = c
    · have HG : Hid ((ints s).getD k 0 = (s[k].toNat : Int)) := ints_getD s k hlt
      by_cases h58 : (s[k].toNat : Int) = 58
      · have HP : Hid (parts c s = if loc (s.extract 1 k) = true ∧ srv (s.extract (k + 1) s.size) = true then (s.extract 1 k, s.extract (k + 1) s.size, true) else (nix, nix, false)) :=
          parts_hit c s k (by rw [HG0.out]; exact hc) h1 hlt (by rw [HG.out]; exact h58) HA.out
        have hl1 : (s.extract 1 k).size ≤ 140737488351232 := by simp; omega
        have hl2 : (s.extract (k + 1) s.size).size ≤ 140737488351232 := by simp; omega
        by_cases hL : loc (s.extract 1 k) = true
        · by_cases hS : srv (s.extract (k + 1) s.size) = true
          · go_wp2_with (first
              | (go_at_call 54; refine (refLocal_any _ _ hl1).mono ?_; rintro e w' ⟨rfl, rfl⟩)
              | (go_at_call 39; refine (refServer_any _ _ hl2).mono ?_; rintro e w' ⟨rfl, rfl⟩))
            go_quiet (fail)
            go_wp2
            go_ret3
            exact ⟨ret_told (by rw [HP.out, if_pos ⟨hL, hS⟩]), below_drewN _ _⟩
          · have hS' : srv (s.extract (k + 1) s.size) = false := by simpa using hS
            go_wp2_with (first
             | (go_at_call 54; refine (refLocal_any _ _ hl1).mono ?_; rintro e w' ⟨rfl, rfl⟩)
             | (go_at_call 39; refine (refServer_any _ _ hl2).mono ?_; rintro e w' ⟨rfl, rfl⟩))
            go_ret3
            exact ⟨ret_told (by rw [HP.out, if_neg (by simp [hS'])]; rfl), Below.refl _ _⟩
        · have hL' : loc (s.extract 1 k) = false := by simpa using hL
          go_wp2_with (go_at_call 54; refine (refLocal_any _ _ hl1).mono ?_; rintro e w' ⟨rfl, rfl⟩)
          go_ret3
          exact ⟨ret_told (by rw [HP.out, if_neg (by simp [hL'])]; rfl), Below.refl _ _⟩
      · go_wp2
        go_round
        case rel => exact ⟨k + 1, by omega, .inl (by omega), by go_num, fun j hj hj' => by
                              by_cases e : j = k
                              · rw [e, HG.out]; exact h58
                              · exact HA.out j hj (by omega)⟩
        case measure => simp [intOf]; omega
    · go_wp2
      go_ret3
      exact ⟨ret_told (parts_other c s (.inr (.inl (by rw [HG0.out]; exact hc)))), Below.refl _ _⟩
  · go_wp2
    go_ret3
    refine ⟨ret_told (parts_other c s ?_), Below.refl _ _⟩
    exact .inr (.inr fun j hj hj' => HA.out j hj (by omega))
theorem refUser_any (s : ByteArray) (w : World) (hs : s.size ≤ 1000000000) :
    Calls Tryz.prog 36 #[.string s] w fun e w' => e = .returned (told (parts 64 s)) ∧ Below w.heap.size w w' := by
 go_enter Tryz.func36, Tryz.ntmps36
 go_wp2_with (go_at_call 34; refine (refParts_any s 64 _ hs).mono ?_; rintro e w1 ⟨rfl, hb1⟩; unfold told)
 go_ret3
 exact ⟨rfl, hb1⟩
theorem refRoom_any (s : ByteArray) (w : World) (hs : s.size ≤ 1000000000) :
    Calls Tryz.prog 11 #[.string s] w fun e w' => e = .returned (told (parts 33 s)) ∧ Below w.heap.size w w' := by
 go_enter Tryz.func11, Tryz.ntmps11
 go_wp2_with (go_at_call 34; refine (refParts_any s 33 _ hs).mono ?_; rintro e w1 ⟨rfl, hb1⟩; unfold told)
 go_ret3
 exact ⟨rfl, hb1⟩
theorem abc_at : ∀ i : Fin 64, (((⟨#[65, 66, 67, 68, 69, 70, 71, 72, 73, 74, 75, 76, 77, 78, 79, 80, 81, 82, 83, 84, 85, 86, 87, 88, 89, 90, 97, 98, 99, 100, 101, 102, 103, 104, 105, 106, 107, 108, 109, 110, 111, 112, 113, 114, 115, 116, 117, 118, 119, 120, 121, 122, 48, 49, 50, 51, 52, 53, 54, 55, 56, 57, 43, 47]⟩ : ByteArray)[i.val]'(by exact i.isLt)).toNat : Int) = ltr i.val := by decide
theorem abc_run (k : IntKind) (i : Int) (h0 : 0 ≤ i) (h1 : i ≤ 63) (w : World) :
    (Instr.index 9 (.string ⟨#[65, 66, 67, 68, 69, 70, 71, 72, 73, 74, 75, 76, 77, 78, 79, 80, 81, 82, 83, 84, 85, 86, 87, 88, 89, 90, 97, 98, 99, 100, 101, 102, 103, 104, 105, 106, 107, 108, 109, 110, 111, 112, 113, 114, 115, 116, 117, 118, 119, 120, 121, 122, 48, 49, 50, 51, 52, 53, 54, 55, 56, 57, 43, 47]⟩) (.int k i)).run Tryz.prog w = .ok (.int .u8 (ltr i)) w := by
 obtain ⟨n, rfl⟩ := Int.eq_ofNat_of_zero_le h0
 rw [run_index_string w 9 _ k (n : Int) Tryz.underlying9, dif_pos ⟨by omega, by show (n : Int) < ((64 : Nat) : Int); omega⟩]
 rw [← abc_at ⟨n, by omega⟩]
 rfl
theorem Tryz.info5 : (Tryz.prog.info? 5).map (fun i => (i.zero, i.size, i.bytes)) = some (some (.int .u8 0), 1, 1) := by kernel_rfl
def Rd (B : Nat) (w : World) (p : Option Addr) (c : Nat) (rs : List Int) : Prop :=
 rs.length ≤ c ∧ (∀ x ∈ rs, 0 ≤ x ∧ x ≤ 255) ∧ ∀ j, j < rs.length → ∃ a, p = some a ∧ a.block < B ∧ w.cell? (a.add j) = some (.int .u8 (rs.getD j 0))
theorem cell_row {w : World} {g t : Nat} {fr : Nat × Nat} {cur : List Value} (h : w.heap[g]? = some (.cells cur.toArray t fr)) (j : Nat) (v : Value) (hj : cur[j]? = some v) : w.cell? ⟨g, j, none⟩ = some v := by
 simp [World.cell?, h, hj]
theorem own_base {w : World} {B e size n : Nat} {v : Value} {xs : List Value} (h : w.ownsRow B e size v n xs) : ∀ k, v.ownBlock = some k → B ≤ k := by
 intro k hk
 rcases h.2 with ⟨rfl, _⟩ | ⟨g, cap, cur, rfl, hg, _⟩
 · cases hk
 · cases hk; exact hg
theorem ret_three {a b c d : Int} {v : Value} (h : a = c) (hp : b = d) : Ending.returned (.tuple #[v, .int .i64 a, .int .i64 b]) = .returned (.tuple #[v, .int .i64 c, .int .i64 d]) := by rw [h, hp]
end Go.Proofs.YtnngalkdjgjmbaaGreat.Id
namespace Go.Proofs.YtnngalkdjgjmbaaGreat.Id
theorem spar_cons4 (a b c d : Int) (r : List Int) : spar (a :: b :: c :: d :: r) = spar r := by
 unfold spar
 cases r with
 | nil => simp
 | cons x y =>
  have e : (a :: b :: c :: d :: x :: y).length % 4 = (x :: y).length % 4 := by simp only [List.length_cons]; omega
  have e2 : (a :: b :: c :: d :: x :: y).getD ((a :: b :: c :: d :: x :: y).length - 1) 0 = (x :: y).getD ((x :: y).length - 1) 0 := by simp [List.getD_eq_getElem?_getD]
  rw [e, e2]
end Go.Proofs.YtnngalkdjgjmbaaGreat.Id
namespace Go.Proofs.YtnngalkdjgjmbaaGreat.Id
open Go.RowKit
theorem own_rd {w : World} {B : Nat} {v : Value} {L : List Int} (h : w.ownsRow B 5 1 v L.length (L.map (Value.int .u8))) (hL : ∀ x ∈ L, 0 ≤ x ∧ x ≤ 255) : ∃ q cq, v = .slice q L.length cq ∧ Rd w.heap.size w q cq L := by
 rcases h.2 with ⟨rfl, hn⟩ | ⟨g, cap, cur, rfl, hg, hgg, h1, h2, h3, h4⟩
 · obtain rfl : L = [] := List.eq_nil_of_length_eq_zero hn
   exact ⟨none, 0, rfl, Nat.le_refl _, hL, fun j hj => by simp at hj⟩
 · refine ⟨_, cap, rfl, h1, hL, fun j hj => ⟨_, rfl, (Array.getElem?_eq_some_iff.1 hgg).1, ?_⟩⟩
   have e : (⟨g, 0, none⟩ : Addr).add j = ⟨g, j, none⟩ := by unfold Addr.add; split <;> simp_all
   rw [e, h.cellAt j (by omega), List.getElem?_map, List.getElem?_eq_getElem hj, List.getD_eq_getElem?_getD, List.getElem?_eq_getElem hj]
   rfl
end Go.Proofs.YtnngalkdjgjmbaaGreat.Id
namespace Go.Proofs.YtnngalkdjgjmbaaGreat.Id
def bitAt (n : Int) (k : Nat) : Int := n / 2 ^ k % 2
def b6 (n : Int) : List Int := [n / 32 % 2, n / 16 % 2, n / 8 % 2, n / 4 % 2, n / 2 % 2, n % 2]
theorem bitAt_bd (n : Int) (k : Nat) : 0 ≤ bitAt n k ∧ bitAt n k ≤ 1 := by unfold bitAt; omega
theorem div_bd (z : Int) (u : Nat) (h : 0 ≤ z) : 0 ≤ z / 2 ^ u ∧ z / 2 ^ u ≤ z := by
 have hp : (0 : Int) < 2 ^ u := Int.pow_pos (by decide)
 exact ⟨Int.ediv_nonneg h (by omega), Int.ediv_le_self _ h⟩
theorem wraps_i64 (n : Int) (h₀ : 0 ≤ n) (h₁ : n < 2 ^ 63) : IntKind.i64.wrap n = n := by rw [IntKind.wrap_i64]; omega
theorem bit_i64 (z : Int) (u : Nat) (h0 : 0 ≤ z) (h1 : z ≤ 255) : bits .and .i64 (z / 2 ^ u) 1 = bitAt z u := by
 have h := div_bd z u h0
 exact bits_mask .i64 63 (by decide) wraps_i64 1 (by decide) (z / 2 ^ u) h.1 (by omega)
theorem take_b6 (z : Int) (j : Nat) (h : j < 6) : (b6 z).take (j + 1) = (b6 z).take j ++ [bitAt z (5 - j)] := by
 match j, h with
 | 0, _ => simp [b6, bitAt]
 | 1, _ => simp [b6, bitAt]
 | 2, _ => simp [b6, bitAt]
 | 3, _ => simp [b6, bitAt]
 | 4, _ => simp [b6, bitAt]
 | 5, _ => simp [b6, bitAt]
theorem take_snoc (zs : List Int) (k : Nat) (h : k < zs.length) : zs.take (k + 1) = zs.take k ++ [zs.getD k 0] := by
 rw [List.take_succ_eq_append_getElem h, List.getD_eq_getElem?_getD, List.getElem?_eq_getElem h]
 rfl
theorem getD_bit {P : List Int} (h : ∀ x ∈ P, 0 ≤ x ∧ x ≤ 1) (j : Nat) : 0 ≤ P.getD j 0 ∧ P.getD j 0 ≤ 1 := by
 rw [List.getD_eq_getElem?_getD]
 rcases Nat.lt_or_ge j P.length with hj | hj
 · rw [List.getElem?_eq_getElem hj]; exact h _ (List.getElem_mem hj)
 · rw [List.getElem?_eq_none hj]; simp
def eight : List Int → List Int
 | x0 :: x1 :: x2 :: x3 :: x4 :: x5 :: x6 :: x7 :: r => (2 * (2 * (2 * (2 * (2 * (2 * (2 * x0 + x1) + x2) + x3) + x4) + x5) + x6) + x7) :: eight r
 | _ => []
def allB6 (zs : List Int) : List Int := zs.flatMap fun z => b6 (num0 z)
theorem allB6_length (zs : List Int) : (allB6 zs).length = 6 * zs.length := by
 induction zs with
 | nil => rfl
 | cons z r ih => simp only [allB6, List.flatMap_cons, List.length_append, List.length_cons] at ih ⊢; rw [ih]; simp [b6]; omega
theorem allB6_snoc (l : List Int) (z : Int) : allB6 (l ++ [z]) = allB6 l ++ b6 (num0 z) := by simp [allB6]
theorem allB6_bd (zs : List Int) : ∀ x ∈ allB6 zs, 0 ≤ x ∧ x ≤ 1 := by
 intro x hx
 simp only [allB6, List.mem_flatMap] at hx
 obtain ⟨z, _, hz⟩ := hx
 simp only [b6, List.mem_cons, List.not_mem_nil, or_false] at hz
 omega
theorem eight_step (P : List Int) (m : Nat) (x0 x1 x2 x3 x4 x5 x6 x7 : Int) (h : m + 8 ≤ P.length) (h0 : P.getD m 0 = x0) (h1 : P.getD (m + 1) 0 = x1) (h2 : P.getD (m + 2) 0 = x2) (h3 : P.getD (m + 3) 0 = x3) (h4 : P.getD (m + 4) 0 = x4) (h5 : P.getD (m + 5) 0 = x5) (h6 : P.getD (m + 6) 0 = x6) (h7 : P.getD (m + 7) 0 = x7) :
    eight (P.drop m) = (2 * (2 * (2 * (2 * (2 * (2 * (2 * x0 + x1) + x2) + x3) + x4) + x5) + x6) + x7) :: eight (P.drop (m + 8)) := by
 have e : P.drop m = x0 :: x1 :: x2 :: x3 :: x4 :: x5 :: x6 :: x7 :: P.drop (m + 8) := by
  rw [List.drop_eq_getElem_cons (by omega), List.drop_eq_getElem_cons (by omega), List.drop_eq_getElem_cons (by omega), List.drop_eq_getElem_cons (by omega), List.drop_eq_getElem_cons (by omega), List.drop_eq_getElem_cons (by omega), List.drop_eq_getElem_cons (by omega), List.drop_eq_getElem_cons (by omega)]
  rw [List.getD_eq_getElem?_getD, List.getElem?_eq_getElem (by omega)] at h0 h1 h2 h3 h4 h5 h6 h7
  simp only [Option.getD_some] at h0 h1 h2 h3 h4 h5 h6 h7
  rw [h0, h1, h2, h3, h4, h5, h6, h7]
 rw [e, eight]
theorem eight_short (P : List Int) (h : P.length < 8) : eight P = [] := by
 unfold eight
 split
 · simp at h; omega
 · rfl
theorem eight_dec (zs : List Int) (h4 : zs.length % 4 ≠ 1) : eight (allB6 zs) = dec zs := by
 induction zs using dec.induct with
 | case1 => rfl
 | case2 a => simp at h4
 | case3 a b =>
  have := num0_lo a; have := num0_hi a; have := num0_lo b; have := num0_hi b
  simp only [allB6, List.flatMap_cons, List.flatMap_nil, b6, List.append_nil, List.cons_append, List.nil_append, eight, dec]
  congr 1; omega
 | case4 a b c =>
  have := num0_lo a; have := num0_hi a; have := num0_lo b; have := num0_hi b; have := num0_lo c; have := num0_hi c
  simp only [allB6, List.flatMap_cons, List.flatMap_nil, b6, List.append_nil, List.cons_append, List.nil_append, eight, dec]
  congr 1
  · omega
  · congr 1; omega
 | case5 a b c d r ih =>
  have := num0_lo a; have := num0_hi a; have := num0_lo b; have := num0_hi b; have := num0_lo c; have := num0_hi c; have := num0_lo d; have := num0_hi d
  have ih' := ih (by simp only [List.length_cons] at h4; omega)
  simp only [allB6, List.flatMap_cons, b6, dec] at ih' ⊢
  simp only [List.cons_append, List.nil_append, eight]
  rw [ih']
  congr 1
  · omega
  · congr 1
    · omega
    · congr 1; omega
theorem tail_spar (zs : List Int) (h4 : zs.length % 4 ≠ 1) : (∀ x ∈ (allB6 zs).drop (8 * (dec zs).length), x = 0) ↔ spar zs = 0 := by
 induction zs using dec.induct with
 | case1 => simp [allB6, spar]
 | case2 a => simp at h4
 | case3 a b =>
  have := num0_lo b; have := num0_hi b
  simp only [allB6, List.flatMap_cons, List.flatMap_nil, b6, List.append_nil, List.cons_append, List.nil_append, dec, List.length_cons, List.length_nil, Nat.zero_add, Nat.mul_one, List.drop_succ_cons, List.drop_zero]
  simp [spar]
  omega
 | case4 a b c =>
  have := num0_lo c; have := num0_hi c
  simp only [allB6, List.flatMap_cons, List.flatMap_nil, b6, List.append_nil, List.cons_append, List.nil_append, dec, List.length_cons, List.length_nil, Nat.zero_add, Nat.reduceAdd, Nat.reduceMul, List.drop_succ_cons, List.drop_zero]
  simp [spar]
  omega
 | case5 a b c d r ih =>
  have ih' := ih (by simp only [List.length_cons] at h4; omega)
  rw [spar_cons4, ← ih']
  have e : (allB6 (a :: b :: c :: d :: r)).drop (8 * (dec (a :: b :: c :: d :: r)).length) = (allB6 r).drop (8 * (dec r).length) := by
   simp only [allB6, List.flatMap_cons, b6, dec, List.length_cons, List.cons_append, List.nil_append]
   rw [show 8 * ((dec r).length + 1 + 1 + 1) = 8 * (dec r).length + 24 by omega]
   simp only [List.drop_succ_cons]
  rw [e]
end Go.Proofs.YtnngalkdjgjmbaaGreat.Id
namespace Go.Proofs.YtnngalkdjgjmbaaGreat.Id
open Go.RowKit
theorem Tryz.info3 : (Tryz.prog.info? 3).map (fun i => (i.zero, i.size, i.bytes)) = some (some (.int .i64 0), 1, 8) := by kernel_rfl
theorem letter_any (n : Int) (w : World) (h0 : 0 ≤ n) (h1 : n ≤ 63) :
    Calls Tryz.prog 68 #[.int .i64 n] w fun e w' => e = .returned (.int .u8 (ltr n)) ∧ w = w' := by
 have x1 := abc_run .i64 n h0 h1
 go_enter Tryz.func68, Tryz.ntmps68
 go_wp2
 go_ret
 exact ⟨rfl, rfl⟩
theorem wpList_push {w : World} {ops : Array Oper} {rest : List Oper} {o : Oper} {a : Act} {Q : Exit → Act → World → Prop} (hgd : o.guard = none) (s x : Operand) (t e : TypeId) (k : IntKind) (bytes : Nat)
    (ho : o.op = .call { callee := .builtin .append, args := #[s, x], argTypes := #[t, t] }) (ht : Tryz.prog.underlying t = some (.slice e))
    (hinfo : (Tryz.prog.info? e).map (fun i => (i.zero, i.size, i.bytes)) = some (some (.int k 0), 1, bytes)) (hby : bytes ≤ 8)
    (base : Nat) (v : Value) (L : List Int) (hs : a.eval s = v) (hown : w.ownsRow base e 1 v L.length (L.map (Value.int k)))
    (ad : Addr) (y : Int) (hx : a.eval x = .slice (some ad) 1 1) (hc : w.cell? ad = some (.int k y)) (hlen : L.length ≤ 1000000000) (hbase : base ≤ w.heap.size)
    (h : ∀ v' w', w'.ownsRow base e 1 v' (L ++ [y]).length ((L ++ [y]).map (Value.int k)) → Below base w w' → wpList Tryz.prog ops Q rest (a.put o.dst v') w') : wpList Tryz.prog ops Q (o :: rest) a w := by
 obtain ⟨i0, hi, hz0, hz1, hz2⟩ := info_parts hinfo
 refine wpList_append_own w hgd s x t ho base e i0 (.int k 0) 1 bytes ht hi hz0 hz1 hz2 rfl (by decide) v L.length (L.map (Value.int k)) hs hown ad 1 1 [.int k y] hx rfl (fun j u hj => ?_) (fun u hu => ?_) (by unfold maxLen; omega) ?_ hbase ?_
 · match j, hj with
   | 0, hj => simp at hj; subst hj; simpa [Addr.add] using hc
 · simp at hu; subst hu; rfl
 · have : (L.length + 1) * bytes ≤ (L.length + 1) * 8 := Nat.mul_le_mul_left _ hby
   omega
 · intro v' w' hown' hgrow _
   exact h v' w' (by rw [List.length_append, List.map_append]; exact hown') ((Below.refl _ _).grown hgrow hbase (own_base hown))
def RdI (w : World) (p : Option Addr) (P : List Int) : Prop := ∀ j, j < P.length → ∃ g, p = some ⟨g, 0, none⟩ ∧ g < w.heap.size ∧ w.cell? ⟨g, j, none⟩ = some (.int .i64 (P.getD j 0))
theorem own_rdi {w : World} {B : Nat} {v : Value} {L : List Int} (h : w.ownsRow B 3 1 v L.length (L.map (Value.int .i64))) : ∃ q cq, v = .slice q L.length cq ∧ RdI w q L := by
 rcases h.2 with ⟨rfl, hn⟩ | ⟨g, cap, cur, rfl, hg, hgg, h1, h2, h3, h4⟩
 · obtain rfl : L = [] := List.eq_nil_of_length_eq_zero hn
   exact ⟨none, 0, rfl, fun j hj => by simp at hj⟩
 · refine ⟨_, cap, rfl, fun j hj => ⟨g, rfl, (Array.getElem?_eq_some_iff.1 hgg).1, ?_⟩⟩
   rw [h.cellAt j (by omega), List.getElem?_map, List.getElem?_eq_getElem hj, List.getD_eq_getElem?_getD, List.getElem?_eq_getElem hj]
   rfl
theorem RdI.at {w w' : World} {q : Option Addr} {P : List Int} (h : RdI w q P) (hb : Below w.heap.size w w') (m : Nat) (hm : m < P.length) : ∃ g, q = some ⟨g, 0, none⟩ ∧ ∀ j x, m + j < P.length → P.getD (m + j) 0 = x → w'.cell? ⟨g, m + j, none⟩ = some (.int .i64 x) := by
 obtain ⟨g, ha, _, _⟩ := h m hm
 refine ⟨g, ha, fun j x hj hx => ?_⟩
 obtain ⟨g', ha', hB, hc⟩ := h (m + j) hj
 obtain rfl : g = g' := by rw [ha] at ha'; cases ha'; rfl
 rw [hb.cell (by exact hB), hc, hx]
theorem num_none (c : Int) (h : ∀ j : Nat, j < 64 → ltr j ≠ c) : num c = -1 := by
 have h1 := num_lo c
 have h2 := num_hi c
 by_cases hn : 0 ≤ num c
 · have := h (num c).toNat (by omega)
   rw [show ((num c).toNat : Int) = num c by omega] at this
   exact absurd (ltr_num c hn) this
 · omega
theorem refNumber_any (c : Int) (w : World) :
    Calls Tryz.prog 57 #[.int .u8 c] w fun e w' => e = .returned (.int .i64 (num c)) ∧ w = w' := by
 go_enter Tryz.func57, Tryz.ntmps57
 go_wp2
 go_loop [3] (fun i => ∃ k : Nat, k ≤ 64 ∧ i = .int .i64 k ∧ ∀ j : Nat, j < k → ltr j ≠ c) (fun i => 64 - (intOf i).toNat)
 case atStart => exact ⟨0, by omega, rfl, fun j hj => by omega⟩
 case round =>
  obtain ⟨k, hk, rfl, hall⟩ := hrel
  have HA : Hid (∀ j : Nat, j < k → ltr j ≠ c) := hall
  clear hall
  by_cases hlt : k < 64
  · by_cases hc : ltr k = c
    · have HN : Hid (num c = k) := by
        have : num c = k := by rw [← hc]; exact num_ltr k (by omega) (by omega)
        exact this
      have hcb : (ltr k == c) = true := by simp [hc]
      clear hc
      go_wp2_with (go_at_call 68; refine (letter_any _ _ (by omega) (by omega)).mono ?_; rintro e w' ⟨rfl, rfl⟩)
      go_ret
      exact ⟨ret_int HN.out.symm, rfl⟩
    · have hcb : (ltr k == c) = false := by simp [hc]
      have HC : Hid (ltr k ≠ c) := hc
      clear hc
      go_wp2_with (go_at_call 68; refine (letter_any _ _ (by omega) (by omega)).mono ?_; rintro e w' ⟨rfl, rfl⟩)
      go_round
      case rel => exact ⟨k + 1, by omega, by go_num, fun j hj => by
                            by_cases e : j = k
                            · rw [e]; exact HC.out
                            · exact HA.out j (by omega)⟩
      case measure => simp [intOf]; omega
  · obtain rfl : k = 64 := by omega
    have HN : Hid (num c = -1) := num_none c HA.out
    go_wp2
    go_ret
    exact ⟨ret_int HN.out.symm, rfl⟩
theorem isLet_num (c : Int) : (isLet c = true ∧ 0 ≤ num c ∧ num0 c = num c) ∨ (isLet c = false ∧ num c < 0) := by
 unfold isLet num0
 by_cases h : 0 ≤ num c
 · left; simp [h]
 · right; simp [h]; omega
theorem refDecode_any (s : ByteArray) (w : World) (hs : s.size ≤ 5000) :
    Calls Tryz.prog 40 #[.string s] w fun e w' => ((flt (ints s)).1 ≠ 0 ∧ e = .returned (.tuple #[.slice none 0 0, .int .i64 (flt (ints s)).1, .int .i64 (flt (ints s)).2]) ∨
     (flt (ints s)).1 = 0 ∧ ∃ q cq, e = .returned (.tuple #[.slice q (dec (ints s)).length cq, .int .i64 0, .int .i64 0]) ∧ Rd w'.heap.size w' q cq (dec (ints s))) ∧ Below w.heap.size w w' := by
 have HLN : Hid ((ints s).length = s.size) := ints_length s
 go_enter Tryz.func40, Tryz.ntmps40
 go_wp2
 go_loopw [5, 6] (fun v i wr => ∃ k : Nat, k ≤ s.size ∧ i = .int .i64 k ∧ (∀ j, j < k → isLet ((ints s).getD j 0) = true) ∧ wr.ownsRow w.heap.size 3 1 v (allB6 ((ints s).take k)).length ((allB6 ((ints s).take k)).map (Value.int .i64)) ∧ Below w.heap.size w wr)
  (fun _ i _ => s.size - (intOf i).toNat)
 case atStart => exact ⟨0, Nat.zero_le _, rfl, fun j hj => by omega, World.ownsRow_nil _ _ _ _, Below.refl _ _⟩
 case round =>
  obtain ⟨k, hk, rfl, hall, hown, hb⟩ := hrel
  have HA : Hid (∀ j, j < k → isLet ((ints s).getD j 0) = true) := hall
  clear hall
  by_cases hlt : k < s.size
  · have HG : Hid ((ints s).getD k 0 = (s[k].toNat : Int)) := ints_getD s k hlt
    obtain ⟨z, hz⟩ : ∃ z, num (s[k].toNat : Int) = z := ⟨_, rfl⟩
    have hz63 : z ≤ 63 := by rw [← hz]; exact num_hi _
    rcases isLet_num (s[k].toNat : Int) with ⟨hl, hn, h0⟩ | ⟨hl, hn⟩
    · have hz0 : 0 ≤ z := by rw [← hz]; exact hn
      have HL : Hid (isLet (s[k].toNat : Int) = true) := hl
      have HN0 : Hid (num0 (s[k].toNat : Int) = z) := by
       have : num0 (s[k].toNat : Int) = z := h0.trans hz
       exact this
      obtain ⟨D, hD⟩ : ∃ D, D = allB6 ((ints s).take k) := ⟨_, rfl⟩
      rw [← hD] at hown
      have HD : Hid (D = allB6 ((ints s).take k)) := hD
      have hDl : D.length ≤ 6 * k := by rw [hD, allB6_length]; simp; omega
      have HDL : Hid (D.length ≤ 6 * k) := hDl
      clear hl hn h0 hD hDl
      go_wp2_with (go_at_call 57; refine (refNumber_any _ _).mono ?_; rintro e w' ⟨rfl, rfl⟩)
      go_loopw [5, 8] (fun v i wx => ∃ t : Nat, t ≤ 6 ∧ i = .int .i64 ((t : Int) - 1) ∧ wx.ownsRow w.heap.size 3 1 v (D ++ (b6 z).take (6 - t)).length ((D ++ (b6 z).take (6 - t)).map (Value.int .i64)) ∧ Below w.heap.size w wx)
       (fun _ i _ => (intOf i + 1).toNat)
      case atStart => exact ⟨6, Nat.le_refl _, rfl, by simpa using hown, hb⟩
      case round =>
       clear hown hb
       obtain ⟨t, ht, rfl, hown, hb⟩ := hrel
       by_cases htp : 0 < t
       · obtain ⟨u, rfl⟩ : ∃ u, t = u + 1 := ⟨t - 1, by omega⟩
         have hbit := bit_i64 z u hz0 (by omega)
         have hbb := bitAt_bd z u
         have HT : Hid ((b6 z).take (6 - u) = (b6 z).take (6 - (u + 1)) ++ [bitAt z u]) := by
          have := take_b6 z (6 - (u + 1)) (by omega)
          rw [show 6 - (u + 1) + 1 = 6 - u by omega, show 5 - (6 - (u + 1)) = u by omega] at this
          exact this
         go_wp2_with (at_builtin; refine wpList_push rfl (.tmp 31) (.tmp 36) 92 3 .i64 8 rfl Tryz.underlying92 Tryz.info3 (by decide) w.heap.size _ (D ++ (b6 z).take (6 - (u + 1))) rfl ?a0 _ (bitAt z u) rfl ?a1 ?a2 ?a3 ?_)
         case a0 => exact hown.alloc _
         case a1 => exact cell_row (cur := [_]) (heap_alloc_new _ _) 0 _ rfl
         case a2 => have := HDL.out; rw [List.length_append, List.length_take]; omega
         case a3 => have := hb.size; simp; omega
         intro v' w' hown' hb'
         have hB' : Below w.heap.size w w' := (hb.alloc hb.size _).trans hb'
         clear hown hb hb'
         go_wp2
         go_roundw
         case rel => exact ⟨u, by omega, by go_num, by rw [HT.out, ← List.append_assoc]; simpa using hown', hB'⟩
         case measure => simp [intOf]
       · obtain rfl : t = 0 := by omega
         go_wp2
         go_roundw
         case rel =>
          refine ⟨k + 1, by omega, by go_num, ?_, ?_, hb⟩
          · intro j hj
            by_cases e : j = k
            · rw [e, HG.out]; exact HL.out
            · exact HA.out j (by omega)
          · have e : allB6 ((ints s).take (k + 1)) = D ++ b6 z := by rw [take_snoc (ints s) k (by rw [HLN.out]; exact hlt), allB6_snoc, HG.out, HN0.out, HD.out]
            rw [e]
            have e6 : (b6 z).take (6 - 0) = b6 z := rfl
            rw [e6] at hown
            exact hown
         case measure => simp [intOf]; omega
    · have hz0 : z < 0 := by rw [← hz]; exact hn
      have hgood := good_at (ints s) k (by rw [HLN.out]; exact hlt) HA.out (by rw [HG.out]; exact hl)
      have HF : Hid (flt (ints s) = (20, (k : Int))) := by
       have : flt (ints s) = (20, (k : Int)) := by unfold flt; rw [hgood, HLN.out, if_pos hlt]
       exact this
      clear hl hn hgood
      go_wp2_with (go_at_call 57; refine (refNumber_any _ _).mono ?_; rintro e w' ⟨rfl, rfl⟩)
      go_ret3
      refine ⟨.inl ⟨by rw [HF.out]; simp, ?_⟩, hb⟩
      rw [HF.out]
      exact ret_three rfl rfl
  · obtain rfl : k = s.size := by omega
    have hgood : Hid (good (ints s) = s.size) := (good_all (ints s) (by rw [HLN.out]; exact HA.out)).trans HLN.out
    rename World => wb
    have htake : (ints s).take s.size = ints s := List.take_of_length_le (by rw [HLN.out]; exact Nat.le_refl _)
    rw [htake] at hown
    obtain ⟨L, hL⟩ : ∃ L, L = allB6 (ints s) := ⟨_, rfl⟩
    rw [← hL] at hown
    have HL : Hid (L = allB6 (ints s)) := hL
    have hLl : L.length = 6 * s.size := by rw [hL, allB6_length, HLN.out]
    have HLL : Hid (L.length = 6 * s.size) := hLl
    have hLle : L.length ≤ 30000 := by omega
    clear htake hL hLl
    by_cases h1 : s.size % 4 = 1
    · have h1' : (s.size : Int) % 4 = 1 := by omega
      have hf : flt (ints s) = (22, (s.size : Int)) := by unfold flt; rw [hgood.out, HLN.out, if_neg (by omega), if_pos h1]
      have HF : Hid (flt (ints s) = (22, (s.size : Int))) := hf
      clear hf
      go_wp2
      go_ret3
      refine ⟨.inl ⟨by rw [HF.out]; simp, ?_⟩, hb⟩
      rw [HF.out]
      exact ret_three rfl rfl
    · have h1b : ((s.size : Int) % 4 == 1) = false := by simp; omega
      have HED : Hid (eight L = dec (ints s)) := by
       have := eight_dec (ints s) (by rw [HLN.out]; exact h1)
       rw [← HL.out] at this
       exact this
      have HTS : Hid ((∀ x ∈ L.drop (8 * (dec (ints s)).length), x = 0) ↔ spar (ints s) = 0) := by
       have := tail_spar (ints s) (by rw [HLN.out]; exact h1)
       rw [← HL.out] at this
       exact this
      have hLb : ∀ x ∈ L, 0 ≤ x ∧ x ≤ 1 := by rw [HL.out]; exact allB6_bd (ints s)
      have HLB : Hid (∀ x ∈ L, 0 ≤ x ∧ x ≤ 1) := hLb
      obtain ⟨q, cq, rfl, hrdi⟩ := own_rdi hown
      clear hLb hown
      go_wp2
      go_loopw [9, 10] (fun v i wx => ∃ (m : Nat) (done : List Int), m ≤ L.length ∧ m = 8 * done.length ∧ i = .int .i64 m ∧ eight L = done ++ eight (L.drop m) ∧
          wx.ownsRow wb.heap.size 5 1 v done.length (done.map (Value.int .u8)) ∧ Below wb.heap.size wb wx)
       (fun _ i _ => L.length - (intOf i).toNat)
      case atStart => exact ⟨0, [], Nat.zero_le _, rfl, rfl, rfl, World.ownsRow_nil _ _ _ _, Below.refl _ _⟩
      case round =>
       obtain ⟨m, done, hm, hm8, rfl, hsix, hown, hbx⟩ := hrel
       have HSX : Hid (eight L = done ++ eight (L.drop m)) := hsix
       have HM8 : Hid (m = 8 * done.length) := hm8
       have hdl : done.length ≤ 30000 := by omega
       clear hsix hm8
       by_cases hlt : m + 8 ≤ L.length
       · obtain ⟨g, rfl, hcell⟩ := hrdi.at hbx m (by omega)
         obtain ⟨x0, hx0⟩ : ∃ x, L.getD m 0 = x := ⟨_, rfl⟩
         obtain ⟨x1, hx1⟩ : ∃ x, L.getD (m + 1) 0 = x := ⟨_, rfl⟩
         obtain ⟨x2, hx2⟩ : ∃ x, L.getD (m + 2) 0 = x := ⟨_, rfl⟩
         obtain ⟨x3, hx3⟩ : ∃ x, L.getD (m + 3) 0 = x := ⟨_, rfl⟩
         obtain ⟨x4, hx4⟩ : ∃ x, L.getD (m + 4) 0 = x := ⟨_, rfl⟩
         obtain ⟨x5, hx5⟩ : ∃ x, L.getD (m + 5) 0 = x := ⟨_, rfl⟩
         obtain ⟨x6, hx6⟩ : ∃ x, L.getD (m + 6) 0 = x := ⟨_, rfl⟩
         obtain ⟨x7, hx7⟩ : ∃ x, L.getD (m + 7) 0 = x := ⟨_, rfl⟩
         have b0 : 0 ≤ x0 ∧ x0 ≤ 1 := hx0 ▸ getD_bit HLB.out m
         have b1 : 0 ≤ x1 ∧ x1 ≤ 1 := hx1 ▸ getD_bit HLB.out (m + 1)
         have b2 : 0 ≤ x2 ∧ x2 ≤ 1 := hx2 ▸ getD_bit HLB.out (m + 2)
         have b3 : 0 ≤ x3 ∧ x3 ≤ 1 := hx3 ▸ getD_bit HLB.out (m + 3)
         have b4 : 0 ≤ x4 ∧ x4 ≤ 1 := hx4 ▸ getD_bit HLB.out (m + 4)
         have b5 : 0 ≤ x5 ∧ x5 ≤ 1 := hx5 ▸ getD_bit HLB.out (m + 5)
         have b6 : 0 ≤ x6 ∧ x6 ≤ 1 := hx6 ▸ getD_bit HLB.out (m + 6)
         have b7 : 0 ≤ x7 ∧ x7 ≤ 1 := hx7 ▸ getD_bit HLB.out (m + 7)
         have c0 := hcell 0 x0 (by omega) hx0
         rw [Nat.add_zero] at c0
         have c1 := hcell 1 x1 (by omega) hx1
         have c2 := hcell 2 x2 (by omega) hx2
         have c3 := hcell 3 x3 (by omega) hx3
         have c4 := hcell 4 x4 (by omega) hx4
         have c5 := hcell 5 x5 (by omega) hx5
         have c6 := hcell 6 x6 (by omega) hx6
         have c7 := hcell 7 x7 (by omega) hx7
         have HST : Hid (eight (L.drop m) = (2 * (2 * (2 * (2 * (2 * (2 * (2 * x0 + x1) + x2) + x3) + x4) + x5) + x6) + x7) :: eight (L.drop (m + 8))) := eight_step L m x0 x1 x2 x3 x4 x5 x6 x7 hlt hx0 hx1 hx2 hx3 hx4 hx5 hx6 hx7
         clear hx0 hx1 hx2 hx3 hx4 hx5 hx6 hx7 hcell
         go_wp2
         refine wp_loop_rounds 9 ?_
         iterate 8 (rw [rounds_succ]; go_wp2)
         rw [rounds_succ]
         go_wp2_with (at_builtin; refine wpList_push rfl (.tmp 64) (.tmp 67) 71 5 .u8 1 rfl Tryz.underlying71 Tryz.info5 (by decide) wb.heap.size _ done rfl ?a0 _ (2 * (2 * (2 * (2 * (2 * (2 * (2 * x0 + x1) + x2) + x3) + x4) + x5) + x6) + x7) rfl ?a1 ?a2 ?a3 ?_)
         case a0 => exact hown.alloc _
         case a1 => exact cell_row (cur := [_]) (heap_alloc_new _ _) 0 _ rfl
         case a2 => omega
         case a3 => have := hbx.size; simp; omega
         intro v' w' hown' hb'
         have hB' : Below wb.heap.size wb w' := (hbx.alloc hbx.size _).trans hb'
         clear hown hbx hb' c0 c1 c2 c3 c4 c5 c6 c7
         go_wp2
         go_roundw
         case rel =>
          have R : ∃ (m' : Nat) (done' : List Int), m' ≤ L.length ∧ m' = 8 * done'.length ∧ Value.int .i64 ((m : Int) + 8) = .int .i64 m' ∧ eight L = done' ++ eight (L.drop m') ∧
              w'.ownsRow wb.heap.size 5 1 v' done'.length (done'.map (Value.int .u8)) ∧ Below wb.heap.size wb w' := by
           refine ⟨m + 8, done ++ [2 * (2 * (2 * (2 * (2 * (2 * (2 * x0 + x1) + x2) + x3) + x4) + x5) + x6) + x7], by omega, by have := HM8.out; simp; omega, by go_num, ?_, by simpa using hown', hB'⟩
           rw [HSX.out, HST.out]; simp
          first | exact R | ((repeat apply Exists.intro); exact ⟨R, rfl⟩)
         case measure => simp [intOf]; omega
       · have hdn : done = dec (ints s) := by
           have := HSX.out
           rw [HED.out, eight_short (L.drop m) (by simp; omega)] at this
           simpa using this.symm
         have HDN : Hid (done = dec (ints s)) := hdn
         have hm8 := HM8.out
         obtain ⟨q2, cq2, rfl, hrq⟩ := own_rd hown (by rw [hdn]; exact dec_bd _)
         have h8 : 8 * (done.length : Int) = m := by omega
         clear hdn hown hm8
         have hdb : decide ((m : Int) + 8 ≤ (L.length : Int)) = false := by simp; omega
         go_wp2
         go_loop [13] (fun i => ∃ k : Nat, m ≤ k ∧ k ≤ L.length ∧ i = .int .i64 k ∧ ∀ j, m ≤ j → j < k → L.getD j 0 = 0) (fun i => L.length - (intOf i).toNat)
         case atStart => exact ⟨m, Nat.le_refl _, hm, rfl, fun j h1 h2 => by omega⟩
         case round =>
          obtain ⟨k, hmk, hkl, rfl, hall⟩ := hrel
          have HZ : Hid (∀ j, m ≤ j → j < k → L.getD j 0 = 0) := hall
          have HD8 : Hid (8 * (dec (ints s)).length = m) := by
           have := HM8.out
           rw [HDN.out] at this
           exact this.symm
          clear hall
          by_cases hlk : k < L.length
          · obtain ⟨g, rfl, hcell⟩ := hrdi.at hbx k hlk
            obtain ⟨x, hx⟩ : ∃ x, L.getD k 0 = x := ⟨_, rfl⟩
            have c0 := hcell 0 x (by omega) hx
            rw [Nat.add_zero] at c0
            have HX : Hid (L.getD k 0 = x) := hx
            clear hx hcell
            by_cases hx0 : x = 0
            · subst hx0
              go_wp2
              go_round
              case rel => exact ⟨k + 1, by omega, by omega, by go_num, fun j h1 h2 => by
                                    by_cases e : j = k
                                    · rw [e]; exact HX.out
                                    · exact HZ.out j h1 (by omega)⟩
              case measure => simp [intOf]; omega
            · have hxb : (x != 0) = true := by simp [hx0]
              have hf : flt (ints s) = (21, (s.size : Int) - 1) := by
               have hsp : spar (ints s) ≠ 0 := by
                intro h
                have := HTS.out.2 h (L.getD k 0) (by
                 rw [HD8.out, List.getD_eq_getElem?_getD, List.getElem?_eq_getElem hlk]
                 simp only [Option.getD_some]
                 have e : L[k] = (L.drop m)[k - m]'(by simp; omega) := by simp [Nat.add_sub_cancel' hmk]
                 rw [e]
                 exact List.getElem_mem _)
                rw [HX.out] at this
                exact hx0 this
               unfold flt
               rw [hgood.out, HLN.out, if_neg (by omega), if_neg h1, if_pos hsp]
              have HF : Hid (flt (ints s) = (21, (s.size : Int) - 1)) := hf
              clear hf hx0
              go_wp2
              go_ret3
              refine ⟨.inl ⟨by rw [HF.out]; simp, ?_⟩, hb.trans (hbx.mono hb.size)⟩
              rw [HF.out]
              exact ret_three rfl rfl
          · have hf : flt (ints s) = (0, 0) := by
              have hsp : spar (ints s) = 0 := by
               refine HTS.out.1 fun x hx => ?_
               rw [HD8.out] at hx
               obtain ⟨i, hi, rfl⟩ := List.mem_iff_getElem.1 hx
               have hi' : m + i < L.length := by simp at hi; omega
               have := HZ.out (m + i) (by omega) (by omega)
               rw [List.getD_eq_getElem?_getD, List.getElem?_eq_getElem hi'] at this
               simpa using this
              unfold flt
              rw [hgood.out, HLN.out, if_neg (by omega), if_neg h1, if_neg (by simp [hsp])]
            have HF : Hid (flt (ints s) = (0, 0)) := hf
            clear hf
            go_wp2
            go_ret3
            refine ⟨.inr ⟨by rw [HF.out], q2, cq2, ?_, ?_⟩, hb.trans (hbx.mono hb.size)⟩
            · rw [← HDN.out]; rfl
            · rw [← HDN.out]; exact hrq
theorem refDecode_bad (s : ByteArray) (w : World) (hs : s.size ≤ 5000) (hf : (flt (ints s)).1 ≠ 0) :
    Calls Tryz.prog 40 #[.string s] w fun e w' => e = .returned (.tuple #[.slice none 0 0, .int .i64 (flt (ints s)).1, .int .i64 (flt (ints s)).2]) ∧ Below w.heap.size w w' := by
 refine (refDecode_any s w hs).mono fun e w' ⟨h, hb⟩ => ?_
 rcases h with ⟨_, h⟩ | ⟨h, _⟩
 · exact ⟨h, hb⟩
 · exact absurd h hf
theorem refDecode_good (s : ByteArray) (w : World) (hs : s.size ≤ 5000) (hf : (flt (ints s)).1 = 0) :
    Calls Tryz.prog 40 #[.string s] w fun e w' => ∃ q cq, e = .returned (.tuple #[.slice q (dec (ints s)).length cq, .int .i64 0, .int .i64 0]) ∧ Rd w'.heap.size w' q cq (dec (ints s)) ∧ Below w.heap.size w w' := by
 refine (refDecode_any s w hs).mono fun e w' ⟨h, hb⟩ => ?_
 rcases h with ⟨h, _⟩ | ⟨_, q, cq, h1, h2⟩
 · exact absurd hf h
 · exact ⟨q, cq, h1, h2, hb⟩
def evt (s : ByteArray) : Bool := decide (s.size = 12) && decide ((ints s).getD 0 0 = 36) && decide ((flt (ints (s.extract 1 s.size))).1 = 0)
theorem evt_size (s : ByteArray) (h : s.size ≠ 12) : evt s = false := by unfold evt; simp [h]
theorem evt_sign (s : ByteArray) (h : (ints s).getD 0 0 ≠ 36) : evt s = false := by
 unfold evt
 have : decide ((ints s).getD 0 0 = 36) = false := decide_eq_false h
 rw [this]; simp
theorem evt_bad (s : ByteArray) (h : (flt (ints (s.extract 1 s.size))).1 ≠ 0) : evt s = false := by
 unfold evt
 rw [decide_eq_false h]; simp
theorem evt_good (s : ByteArray) (h1 : s.size = 12) (h2 : (ints s).getD 0 0 = 36) (h3 : (flt (ints (s.extract 1 s.size))).1 = 0) : evt s = true := by
 unfold evt
 rw [decide_eq_true h1, decide_eq_true h2, decide_eq_true h3]; rfl
theorem dec_eight (t : ByteArray) (h : t.size = 11) : (dec (ints t)).length = 8 := by
 have := dec_length (ints t)
 rw [ints_length, h] at this
 have e : ((11 : Nat) : Int) / 4 * 3 + byts (((11 : Nat) : Int) % 4) = 8 := by decide
 omega
theorem refEvent_any (s : ByteArray) (w : World) :
    Calls Tryz.prog 19 #[.string s] w fun e w' => e = .returned (.bool (evt s)) ∧ Below w.heap.size w w' := by
 by_cases h12 : s.size = 12
 · have h12' : (s.size : Int) = 12 := by omega
   have h0 : 0 < s.size := by omega
   have HG : Hid ((ints s).getD 0 0 = (s[0].toNat : Int)) := ints_getD s 0 h0
   by_cases hc : (s[0].toNat : Int) = 36
   · have hz : (s.extract 1 s.size).size = 11 := by simp; omega
     have hsl : ∀ wx : World, (Instr.slice 9 (.string s) (some (.int .i64 1)) none none).run Tryz.prog wx = .ok (.string (s.extract 1 s.size)) wx :=
      fun wx => run_slice_string_l wx 9 s Tryz.underlying9 .i64 1 (by omega) (by omega)
     obtain ⟨t, ht⟩ : ∃ t, t = s.extract 1 s.size := ⟨_, rfl⟩
     rw [← ht] at hz hsl
     have HT : Hid (t = s.extract 1 s.size) := ht
     clear ht
     have hd := dec_eight t hz
     by_cases hf : (flt (ints t)).1 = 0
     · have HE : Hid (evt s = true) := evt_good s h12 (by rw [HG.out]; exact hc) (by rw [← HT.out]; exact hf)
       have x := fun wx : World => refDecode_good t wx (by omega) hf
       rw [hd] at x
       go_enter Tryz.func19, Tryz.ntmps19
       go_wp2_with (go_at_call 40; refine (x _).mono ?_; rintro e w1 ⟨q, cq, rfl, _, hb1⟩)
       go_ret
       exact ⟨ret_bool HE.out.symm, hb1⟩
     · have HE : Hid (evt s = false) := evt_bad s (by rw [← HT.out]; exact hf)
       have hfb : ((flt (ints t)).1 == 0) = false := by simp [hf]
       have x := fun wx : World => refDecode_bad t wx (by omega) hf
       go_enter Tryz.func19, Tryz.ntmps19
       go_wp2_with (go_at_call 40; refine (x _).mono ?_; rintro e w1 ⟨rfl, hb1⟩)
       go_ret
       exact ⟨ret_bool HE.out.symm, hb1⟩
   · have HE : Hid (evt s = false) := evt_sign s (by rw [HG.out]; exact hc)
     have hcb : ((s[0].toNat : Int) != 36) = true := by simp [hc]
     go_enter Tryz.func19, Tryz.ntmps19
     go_wp2
     go_ret
     exact ⟨ret_bool HE.out.symm, Below.refl _ _⟩
 · have HE : Hid (evt s = false) := evt_size s h12
   have hn : ¬ (s.size : Int) = 12 := by omega
   have hnb : ((s.size : Int) != 12) = true := by simp [hn]
   go_enter Tryz.func19, Tryz.ntmps19
   go_wp2
   go_ret
   exact ⟨ret_bool HE.out.symm, Below.refl _ _⟩
end Go.Proofs.YtnngalkdjgjmbaaGreat.Id
namespace Go.Proofs.YtnngalkdjgjmbaaGreat
open Go.RowKit
structure Ev where
 room : ByteArray
 typ : ByteArray
 sender : ByteArray
 st : Bool
 key : ByteArray
 content : J
 prev : List ByteArray
 auth : List ByteArray
 depth : Int
 ts : Int
 hash : ByteArray
 sigs : List (ByteArray × ByteArray)
structure Pt where
 pk : Option Addr
 ck : Nat
 pl : Option Addr
 cl : Nat
 pp : Option Addr
 cp : Nat
 pa : Option Addr
 ca : Nat
 ps : Option Addr
 cs : Nat
def Ev.zero : Ev := ⟨nix, nix, nix, false, nix, J.zero, [], [], 0, 0, nix, []⟩
def Pt.zero : Pt := ⟨none, 0, none, 0, none, 0, none, 0, none, 0⟩
def five (j : J) (p : Pt) : List Value := [.int .i64 j.kind, .int .i64 j.int, .string j.text, .slice p.pk j.keys.length p.ck, .slice p.pl j.list.length p.cl]
def cellsE (e : Ev) (p : Pt) : List Value := [.string e.room, .string e.typ, .string e.sender, .bool e.st, .string e.key, .int .i64 e.content.kind, .int .i64 e.content.int, .string e.content.text, .slice p.pk e.content.keys.length p.ck, .slice p.pl e.content.list.length p.cl, .slice p.pp e.prev.length p.cp, .slice p.pa e.auth.length p.ca, .int .i64 e.depth, .int .i64 e.ts, .string e.hash, .slice p.ps e.sigs.length p.cs]
def valE (e : Ev) (p : Pt) : Value := .agg (cellsE e p).toArray
def RdS (O : Nat → Prop) (w : World) (p : Option Addr) (c : Nat) (l : List (ByteArray × ByteArray)) : Prop :=
 l.length ≤ c ∧ ∀ j, j < l.length → ∃ b o, p = some ⟨b, o, none⟩ ∧ O b ∧ w.cell? ⟨b, o + j * 2, none⟩ = some (.string (l.getD j (nix, nix)).1) ∧ w.cell? ⟨b, o + j * 2 + 1, none⟩ = some (.string (l.getD j (nix, nix)).2)
theorem RdS.nil (O : Nat → Prop) (w : World) (c : Nat) (p : Option Addr) : RdS O w p c [] := ⟨Nat.zero_le _, fun j hj => absurd hj (by simp)⟩
theorem RdS.carry {O O' : Nat → Prop} {w w' : World} {p : Option Addr} {c : Nat} {l : List (ByteArray × ByteArray)} (h : RdS O w p c l) (hO : ∀ k, O k → O' k ∧ w'.heap[k]? = w.heap[k]?) : RdS O' w' p c l :=
 ⟨h.1, fun j hj => by
  obtain ⟨b, o, hp, hB, h1, h2⟩ := h.2 j hj
  exact ⟨b, o, hp, (hO _ hB).1, (World.cell?_of_block (a := ⟨b, o + j * 2, none⟩) (hO _ hB).2).trans h1, (World.cell?_of_block (a := ⟨b, o + j * 2 + 1, none⟩) (hO _ hB).2).trans h2⟩⟩
structure IsE (O : Nat → Prop) (w : World) (e : Ev) (p : Pt) : Prop where
 cont : isJ O w e.content (five e.content p)
 prev : RdK O w p.pp p.cp e.prev
 auth : RdK O w p.pa p.ca e.auth
 sigs : RdS O w p.ps p.cs e.sigs
theorem IsE.carry {O O' : Nat → Prop} {w w' : World} {e : Ev} {p : Pt} (h : IsE O w e p) (hO : ∀ k, O k → O' k ∧ w'.heap[k]? = w.heap[k]?) : IsE O' w' e p :=
 ⟨h.cont.carry hO, h.prev.carry hO, h.auth.carry hO, h.sigs.carry hO⟩
theorem IsE.below {O : Nat → Prop} {w w' : World} {e : Ev} {p : Pt} (h : IsE O w e p) (hO : ∀ k, O k → k < w.heap.size) (hb : Below w.heap.size w w') : IsE O w' e p := h.carry fun k hk => ⟨hk, hb.block k (hO k hk)⟩
def dol (s : ByteArray) : ByteArray := ⟨#[36]⟩ ++ s
def placedE (e : Ev) : Bool := (Id.parts 33 e.room).2.2 && (Id.parts 64 e.sender).2.2 && Id.typ e.typ
def keyedE (e : Ev) : Bool := if e.st = true then decide (e.key.size ≤ 128) && Lib.validD e.key.data.toList else decide (e.key.size = 0)
def filledE (c : J) : Bool := decide (c.kind = 5) && goodJ 12 (.mk 4 0 nix [] [c])
def namedE (most : Nat) (l : List ByteArray) : Bool := decide (l.length ≤ most) && noKeyTwice l && l.all Id.evt
def withinE (n most : Int) : Bool := decide (0 ≤ n) && decide (n ≤ most)
def digestE (s : ByteArray) : Bool := Id.evt (dol s)
def riseS : List (ByteArray × ByteArray) → Bool
 | a :: b :: r => ltK a.1 b.1 && riseS (b :: r)
 | _ => true
def signedE (l : List (ByteArray × ByteArray)) : Bool := decide (l.length ≤ 4) && l.all (fun s => Id.srv s.1 && digestE s.2) && riseS l
def shapedE (e : Ev) : Bool := placedE e && keyedE e && filledE e.content && namedE 20 e.prev && namedE 10 e.auth && withinE e.depth 1099511627776 && withinE e.ts maxInt && (decide (e.hash.size = 0) || digestE e.hash) && signedE e.sigs
def nContent : ByteArray := ⟨#[99, 111, 110, 116, 101, 110, 116]⟩
end Go.Proofs.YtnngalkdjgjmbaaGreat
